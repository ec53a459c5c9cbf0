import Derived.Test.YtodnodekheaacaaGreatDoorI25
import Derived.Test.YtodnodekheaacaaGreatDoorI22
import Derived.Test.YtodnodekheaacaaGreatDoorI11
import Derived.Test.YtodnodekheaacaaGreatDoorI15
import Derived.Test.YtodnodekheaacaaGreatDoorI20
import Derived.Test.YtodnodekheaacaaGreatDoorI23
import Derived.Test.YtodnodekheaacaaGreatDoorI26
import Derived.Test.YtodnodekheaacaaGreatDoorI7
import Derived.Test.YtodnodekheaacaaGreatDoorI6
import Derived.Deep.RegionHeld3
import Derived.Test.YtodnodekheaacaaGreatDoorI5
import Derived.Deep.CutRange
import Derived.Test.YtodnodekheaacaaGreatDoorRows
import Derived.Test.YtodnodekheaacaaGreatDoorTie
import Derived.Test.YtodnodekheaacaaGreatDoorCards
import Derived.Deep.Slices
import Derived.ChangeSame
import Derived.ChangeVars
import Derived.JoinedOf
import Derived.RowKitTokens
import Derived.LaidLaws
import Derived.LaidHandle
import Derived.LaidMore
import Derived.Stop.Joined
import Derived.SevenTiedAt
set_option maxHeartbeats 8000000
set_option maxRecDepth 2000
open Go.ChangeShapes Go.WideShapes Go.ChangeAt Go.RowKit
namespace Go.Proofs.YtodnodekheaacaaGreatDoor
open Gt (hf up nb pl)
theorem pfB_parts {n : Nat} {S : Nat → ByteArray} {i : Int} (h : pfB n S i = true) : lvB n S = true ∧ inT i (n : Int) = true := by
 unfold pfB at h
 rwa [Bool.and_eq_true] at h
theorem pfR_le (n : Nat) (S : Nat → ByteArray) (i : Int) : pfR n S i ≤ 16 := by
 unfold pfR
 by_cases h : pfB n S i = true
 ·rw [if_pos h]
  have h64 := (lvB_parts (pfB_parts h).1).2.1
  have := Gt.pl_le 6 i.toNat n (by omega)
  omega
 ·rw [if_neg h]; omega
theorem proof_any (a : Option Addr) (n cap : Nat) (S : Nat → ByteArray) (i : Int) (w : World) (h : TxtAt w a n S) (hn : n ≤ 1048576) (hL : ∀ i, i < n → (S i).size ≤ maxLen) :
  Calls Tryz.prog 71 #[.slice a n cap, .int .i64 i] w fun e w' => ∃ v, e = .returned (.tuple #[v, .bool (pfB n S i)]) ∧ ResT w w' v (pfR n S i) (pfF n S i) ∧ Below w.heap.size w w' := by
 unfold pfR
 cases hB : pfB n S i with
 | false => exact proof_no a n cap S i w h hn hL hB
 | true =>
  obtain ⟨h1, h2⟩ := pfB_parts hB
  obtain ⟨i', rfl⟩ : ∃ i' : Nat, i = (i' : Int) := ⟨i.toNat, by simp [inT] at h2; omega⟩
  exact proof_yes a n cap S i' w h h1 h2
theorem sProof_any (a : Option Addr) (n cap : Nat) (S : Nat → ByteArray) (i : Int) (w : World) (h : TxtAt w a n S) (hn : n ≤ 1048576) (hL : ∀ i, i < n → (S i).size ≤ maxLen) :
  Calls Tryz.prog 88 #[.slice a n cap, .int .i64 i] w fun e w' => ∃ v, e = .returned (.tuple #[v, .bool (pfB n S i)]) ∧ ResT w w' v (pfR n S i) (pfF n S i) ∧ Below w.heap.size w w' := by
 have hb0 : Below w.heap.size w (w.alloc (.cells #[] 9)) := (Below.refl _ _).alloc (Nat.le_refl _) _
 have KV : Hid (Calls Tryz.prog 112 #[.slice a n cap] (w.alloc (.cells #[] 9)) fun e w' => e = .returned (.bool (lvB n S)) ∧ w' = w.alloc (.cells #[] 9)) := sLeaves_any a n cap S _ (h.below hb0) hn hL
 obtain ⟨PF, HPF⟩ : ∃ PF, Hid (pfF n S i = PF) := ⟨_, rfl⟩
 have KL0 : Hid (OwnT (w.alloc (.cells #[] 9)) w.heap.size (some ⟨w.heap.size, 0, none⟩) 0 0 PF) := litT w _
 have KB0 : Hid (Below w.heap.size w (w.alloc (.cells #[] 9))) := hb0
 rw [HPF.out]
 unfold pfR
 cases hV : lvB n S with
 | false =>
  rw [hV] at KV
  have hB : pfB n S i = false := by unfold pfB; rw [hV]; rfl
  rw [hB]
  clear h hL hB hV hb0
  go_enter Tryz.func88, Tryz.ntmps88
  go_wp2_with (go_at_call 112; refine KV.out.mono ?_; rintro e w' ⟨rfl, hw⟩; obtain rfl := hw.symm)
  go_ret2
  exact ⟨_, rfl, ⟨_, _, rfl, KL0.out⟩, KB0.out⟩
 | true =>
  rw [hV] at KV
  obtain ⟨h1, h64, h16⟩ := lvB_parts hV
  have hw1 : IntKind.i64.wrap ((n : Int) - 1) = (n : Int) - 1 := by rw [IntKind.wrap_i64]; omega
  by_cases hin : 0 ≤ i ∧ i ≤ (n : Int) - 1
  ·have KI : inB i 0 ((n : Int) - 1) = true := inB_true hin
   obtain ⟨i', rfl⟩ : ∃ i' : Nat, i = (i' : Int) := ⟨i.toNat, by omega⟩
   have hB : pfB n S (i' : Int) = true := by unfold pfB; rw [hV]; simp [inT]; omega
   rw [hB, if_pos rfl]
   simp only [Int.toNat_natCast]
   obtain ⟨L, HL⟩ : ∃ L, Hid (pl i' n = L) := ⟨_, rfl⟩
   have hL6 : L ≤ 6 := by rw [← HL.out]; exact Gt.pl_le 6 _ _ (by omega)
   rw [HL.out]
   have HP0 : Hid (∀ j, Gt.pf n S i' j = PF j) := fun j => by rw [← HPF.out]; rfl
   obtain ⟨i0, hi, hz0, hz1, hz2⟩ := info_parts Tryz.infoStr
   obtain ⟨b, off, rfl, hcw⟩ := h.some (by omega)
   have lbw : b < w.heap.size := block_lt_of_cell (hcw 0 (by omega))
   obtain ⟨w1, HW1⟩ : ∃ w1, Hid (w1 = w.alloc (.cells #[] 9)) := ⟨_, rfl⟩
   rw [← HW1.out] at KV KL0 KB0
   have hs1 : Hid (w1.heap.size = w.heap.size + 1) := by show _ = _; rw [HW1.out]; simp
   have HN : Hid (∀ j u, (sL S n)[j]? = some u → (w1.alloc (.cells #[] 9)).cell? ((⟨b, off, none⟩ : Addr).add j) = some u) := sL_news (fun i hi => by
    have hb : Below w.heap.size w (w1.alloc (.cells #[] 9)) := KB0.out.alloc (by have := hs1.out; omega) _
    exact (hb.cell (p := ⟨b, off + i, none⟩) lbw).trans (hcw i hi))
   have KL : Hid (OwnT (w1.alloc (.cells #[] 9)) w1.heap.size (some ⟨w1.heap.size, 0, none⟩) 0 0 S) := litT w1 _
   have H1 : Hid (∀ u ∈ sL S n, u.oneCell' = true) := sL_one S n
   have H16 : Hid (∀ i, i < n → (S i).size = 16) := h16
   clear h hL hB hV hb0 hcw h16
   go_enter Tryz.func88, Tryz.ntmps88
   go_wp2_with fail
   rw [← HW1.out]
   go_wp2_with (first | (go_at_call 112; refine KV.out.mono ?_; rintro e w' ⟨rfl, hw⟩; obtain rfl := hw.symm) | (go_at_call 41; refine (sIn_any _ _ _ _).mono ?_; rintro e w' ⟨rfl, hw⟩; obtain rfl := hw.symm) | (at_builtin; refine wpList_append_lies _ (by rfl) _ _ 28 (by rfl) w1.heap.size 9 i0 (.string ByteArray.empty) 1 16 Tryz.underlying28 hi hz0 hz1 hz2 rfl (by decide) (.slice (some ⟨w1.heap.size, 0, none⟩) 0 0) 0 _ (by rfl) KL.out ⟨b, off, none⟩ n cap (sL S n) (by rfl) (by rw [sL_len]; omega) HN.out H1.out (by omega) (by unfold maxLen; omega) (by omega) (by simp) (w1.heap.size + 1) (by simp) ?_; intro g3 cap3 w3 hown3 hgrow3 hat3 hlt3))
   have HS0 : Hid (OwnT w3 w.heap.size (some ⟨g3, 0, none⟩) n cap3 S ∧ OwnT w3 w.heap.size (some ⟨w.heap.size, 0, none⟩) 0 0 PF ∧ Below w.heap.size w w3 ∧ g3 ≠ w.heap.size) := by
    have hz := hs1.out
    have hgr : World.grownBy (w1.alloc (.cells #[] 9)) w3 (some w1.heap.size) := hgrow3
    have hx : sL S 0 ++ sL S n = sL S n := rfl
    rw [hx, Nat.zero_add] at hown3
    refine ⟨OwnT.base hown3 (by omega), own_kept (World.ownsRow.alloc KL0.out _) hgr (fun x e => by cases e; simp; omega), (KB0.out.alloc (by omega) _).grown hgr (by simp; omega) (fun j hj => by cases hj; omega), ?_⟩
    rcases hat3 with e | e
    ·have e' : some w1.heap.size = some g3 := e; cases e'; omega
    ·omega
   clear hown3 hgrow3 hat3 hlt3 KL HN H1 KV KL0 KB0 hs1
   try simp only [Nat.zero_add]
   go_loopg [1, 6, 7] n (fun gk vi vo vr wr => ∃ (m G c p Go k co : Nat) (R O : Nat → ByteArray), m = gk ∧ p < m ∧ m ≤ 64 ∧ vi = .int .i64 (p : Int) ∧ vo = .slice (some ⟨Go, 0, none⟩) k co ∧ vr = .slice (some ⟨G, 0, none⟩) m c ∧ OwnT wr w.heap.size (some ⟨G, 0, none⟩) m c R ∧ OwnT wr w.heap.size (some ⟨Go, 0, none⟩) k co O ∧ G ≠ Go ∧ k ≤ L ∧ Hid (∀ j, j < k → O j = PF j) ∧ Hid (k + pl p m = L) ∧ Hid (∀ j, Gt.pf m R p j = PF (k + j)) ∧ Hid (∀ i, i < m → (R i).size = 16) ∧ Below w.heap.size w wr)
   case atStart => exact ⟨n, g3, cap3, i', w.heap.size, 0, 0, S, PF, rfl, by omega, h64, rfl, rfl, rfl, HS0.out.1, HS0.out.2.1, HS0.out.2.2.2, by omega, fun j hj => by omega, by show 0 + _ = _; rw [Nat.zero_add]; exact HL.out, fun j => by rw [Nat.zero_add]; exact HP0.out j, H16, HS0.out.2.2.1⟩
   case round =>
    obtain ⟨m, G, c, p, Go, k, co, R, O, rfl, hp, hm64, rfl, rfl, rfl, hoR, hoO, hGG, hkL, HO, HC, HP, HS, hbel⟩ := hrel
    clear HS0 H16 HL HP0 hin hw1
    have hsz := hbel.size
    by_cases e1 : m ≤ 1
    ·have e1' : ¬ (1 : Int) < (m : Int) := by omega
     have HE : Hid (OwnT wr w.heap.size (some ⟨Go, 0, none⟩) L co PF) := by
      have := HC.out
      rw [Gt.pl_one p e1] at this
      have hkk : k = L := by omega
      rw [← hkk]
      exact hoO.congr HO.out
     have Hk : Hid (k = L) := by
      have := HC.out
      rw [Gt.pl_one p e1] at this
      show _ = _
      omega
     clear hoR hoO
     go_wp2
     go_ret2
     exact ⟨_, rfl, ⟨_, _, by rw [← Hk.out]; rfl, HE.out⟩, hbel⟩
    ·have e1' : (1 : Int) < (m : Int) := by omega
     obtain ⟨u1, u2, u3, u4, u5, u6, u7, u8, u9⟩ := up_nums p m hp hm64
     have hlt : p / 2 < hf m ∧ hf m < m := by unfold hf; omega
     have HS2 : Hid (∀ i, i < hf m → (up m R i).size = 16) := Gt.up_size HS.out
     have HU : Hid (∀ W, TxtAt W (some ⟨G, 0, none⟩) m R → Calls Tryz.prog 122 #[.slice (some ⟨G, 0, none⟩) m c] W fun e w' => ∃ g c, e = .returned (.slice (some ⟨g, 0, none⟩) (hf m) c) ∧ OwnT w' W.heap.size (some ⟨g, 0, none⟩) (hf m) c (up m R) ∧ Below W.heap.size W w') := fun W hW => sUp_any _ m c R W hW hm64 HS.out
     by_cases hnb : nb p < m
     ·have hnb' : ((nb p : Nat) : Int) < (m : Int) := by omega
      have HC2 : Hid (k + 1 + pl (p / 2) (hf m) = L) := by have := HC.out; rw [Gt.pl_yes p e1 hnb] at this; show _ = _; omega
      have HP2 : Hid (∀ j, Gt.pf (hf m) (up m R) (p / 2) j = PF (k + 1 + j)) := fun j => by rw [← Gt.pf_tl R p j e1 hnb, HP.out, show k + (j + 1) = k + 1 + j by omega]
      have HQ : Hid (R (nb p) = PF k) := by have := HP.out 0; rw [Gt.pf_hd R p e1 hnb] at this; exact this
      have hck : k + 1 ≤ L := by have := HC2.out; omega
      obtain ⟨b', off', eq, hcc⟩ := (OwnT.at hoR).some (by omega)
      cases eq
      have cq := hcc (nb p) hnb
      simp only [Nat.zero_add] at cq
      generalize R (nb p) = x at cq HQ
      generalize nb p = q at u4 hnb' cq
      generalize p / 2 = p' at u5 u6 hlt HC2 HP2
      generalize hf m = m' at u8 u9 hlt HC2 HP2 HS2 HU
      generalize up m R = R' at HP2 HS2 HU
      have KR : Hid (OwnT wr w.heap.size (some ⟨G, 0, none⟩) m c R) := hoR
      have KO : Hid (OwnT wr w.heap.size (some ⟨Go, 0, none⟩) k co O) := hoO
      have lGo := World.ownsRow.lt hoO _ rfl
      have lG := World.ownsRow.lt hoR _ rfl
      clear hoR hoO hcc hnb HC HP HS
      go_wp2_with (at_builtin; refine wpList_append_lies _ (by rfl) _ _ 28 (by rfl) w.heap.size 9 i0 (.string ByteArray.empty) 1 16 Tryz.underlying28 hi hz0 hz1 hz2 rfl (by decide) (.slice (some ⟨Go, 0, none⟩) k co) k _ (by rfl) (World.ownsRow.alloc KO.out _) ⟨wr.heap.size, 0, none⟩ 1 1 [.string x] (by rfl) (by rfl) (World.news_of_block (cs := #[.string x]) (t := 9) (fr := (0, 0)) (heap_alloc_new wr _)) (by simp [Value.oneCell']) (by omega) (by unfold maxLen; omega) (by omega) (by simp; omega) (wr.heap.size + 1) (by simp) ?_; intro g4 cap4 w4 hown4 hgrow4 hat4 hlt4)
      have hgr : World.grownBy (wr.alloc (.cells #[.string x] 9)) w4 (some Go) := hgrow4
      have KR4 : Hid (OwnT w4 w.heap.size (some ⟨G, 0, none⟩) m c R) := own_kept (World.ownsRow.alloc KR.out _) hgr (fun y e => by cases e; exact hGG)
      have KB4 : Hid (Below w.heap.size w w4) := (hbel.alloc hsz _).grown hgr (by simp; omega) (fun j hj => by cases hj; exact lGo.1)
      have KO4 : Hid (OwnT w4 w.heap.size (some ⟨g4, 0, none⟩) (k + 1) cap4 (fun j => if j = k then x else O j)) := by
       have hx : sL (fun j => if j = k then x else O j) (k + 1) = sL O k ++ [Value.string x] := by
        rw [sL_snoc, sL_congr (S' := O) (fun i hi => by rw [if_neg (by omega)])]
        simp
       show OwnT _ _ _ _ _ _
       unfold OwnT
       rw [hx]
       exact hown4
      clear hown4 hgrow4 hat4 hgr cq KR KO
      refine (HU.out _ (OwnT.at KR4.out)).mono ?_
      rintro e w9 ⟨g9, c9, rfl, ho9, hb9⟩
      have hsz4 := KB4.out.size
      have HR9 : Hid (OwnT w9 w.heap.size (some ⟨g9, 0, none⟩) m' c9 R') := ho9.base hsz4
      have hg9 := (World.ownsRow.lt ho9 _ rfl).1
      have HO9 : Hid (OwnT w9 w.heap.size (some ⟨g4, 0, none⟩) (k + 1) cap4 (fun j => if j = k then x else O j)) := KO4.out.below hb9
      have HB9 : Hid (Below w.heap.size w w9) := KB4.out.trans (hb9.mono hsz4)
      have HQQ : Hid (∀ j, j < k + 1 → (if j = k then x else O j) = PF j) := fun j hj => by
       by_cases e : j = k
       ·rw [if_pos e, e]; exact HQ.out
       ·rw [if_neg e]; exact HO.out j (by omega)
      clear ho9 hb9
      go_wp2
      go_roundg m'
      case measure => exact hlt.2
      case rel => exact ⟨m', g9, c9, p', g4, k + 1, cap4, R', _, rfl, hlt.1, by omega, rfl, rfl, rfl, HR9.out, HO9.out, by omega, hck, HQQ, HC2, HP2, HS2, HB9.out⟩
     ·have hnb' : ¬ ((nb p : Nat) : Int) < (m : Int) := by omega
      have HC2 : Hid (k + pl (p / 2) (hf m) = L) := by have := HC.out; rw [Gt.pl_no p e1 hnb] at this; exact this
      have HP2 : Hid (∀ j, Gt.pf (hf m) (up m R) (p / 2) j = PF (k + j)) := fun j => by rw [← Gt.pf_no R p j e1 hnb, HP.out]
      generalize nb p = q at u4 hnb'
      generalize p / 2 = p' at u5 u6 hlt HC2 HP2
      generalize hf m = m' at u8 u9 hlt HC2 HP2 HS2 HU
      generalize up m R = R' at HP2 HS2 HU
      have KR : Hid (OwnT wr w.heap.size (some ⟨G, 0, none⟩) m c R) := hoR
      have KO : Hid (OwnT wr w.heap.size (some ⟨Go, 0, none⟩) k co O) := hoO
      have lGo := World.ownsRow.lt hoO _ rfl
      clear hoR hoO HC HP HS
      go_wp2_with fail
      refine (HU.out _ (OwnT.at KR.out)).mono ?_
      rintro e w9 ⟨g9, c9, rfl, ho9, hb9⟩
      have HR9 : Hid (OwnT w9 w.heap.size (some ⟨g9, 0, none⟩) m' c9 R') := ho9.base hsz
      have hg9 := (World.ownsRow.lt ho9 _ rfl).1
      have HO9 : Hid (OwnT w9 w.heap.size (some ⟨Go, 0, none⟩) k co O) := KO.out.below hb9
      have HB9 : Hid (Below w.heap.size w w9) := hbel.trans (hb9.mono hsz)
      clear ho9 hb9
      go_wp2
      go_roundg m'
      case measure => exact hlt.2
      case rel => exact ⟨m', g9, c9, p', Go, k, co, R', O, rfl, hlt.1, by omega, rfl, rfl, rfl, HR9.out, HO9.out, by omega, hkL, HO, HC2, HP2, HS2, HB9.out⟩
  ·have KI : inB i 0 ((n : Int) - 1) = false := inB_false hin
   have hB : pfB n S i = false := by unfold pfB; rw [hV]; simp [inT]; omega
   rw [hB]
   clear h hL hB hV hb0
   go_enter Tryz.func88, Tryz.ntmps88
   go_wp2_with (first | (go_at_call 112; refine KV.out.mono ?_; rintro e w' ⟨rfl, hw⟩; obtain rfl := hw.symm) | (go_at_call 41; refine (sIn_any _ _ _ _).mono ?_; rintro e w' ⟨rfl, hw⟩; obtain rfl := hw.symm))
   go_ret2
   exact ⟨_, rfl, ⟨_, _, rfl, KL0.out⟩, KB0.out⟩
end Go.Proofs.YtodnodekheaacaaGreatDoor
namespace Go.Proofs.YtodnodekheaacaaGreatDoor
theorem grownB {w w' : World} (g : Nat) (hb : Below w.heap.size w w') : w.grownBy w' (some g) := ⟨hb.os, hb.tape, hb.output, hb.size, fun j hj _ => hb.block j hj⟩
theorem OwnT.keptG {w w' : World} {B g : Nat} {a : Option Addr} {n c : Nat} {S : Nat → ByteArray} (h : OwnT w B a n c S) (hg : w.grownBy w' (some g)) (hB : g < B) : OwnT w' B a n c S :=
 own_kept h hg (fun x e => by subst e; have := (World.ownsRow.lt h x.block rfl).1; omega)
noncomputable def lvs (k : Int) (n : Nat) (S : Nat → ByteArray) : Nat → ByteArray := fun i => plf k (n : Int) (i : Int) (S i)
theorem lvs_le (k : Int) (n : Nat) (S : Nat → ByteArray) (i : Nat) : (lvs k n S i).size ≤ 16 := plf_le _ _ _ _
theorem Tryz.infoCut : (Tryz.prog.info? 53).map (·.size) = some 4 := by kernel_rfl
theorem bind_any (k : Int) (a : Option Addr) (n cap : Nat) (S : Nat → ByteArray) (w : World) (h : TxtAt w a n S) (hn : n ≤ 64) (hS : ∀ i, i < n → (S i).size ≤ 1048576) :
  Calls Tryz.prog 46 #[.int .i64 k, .slice a n cap] w fun e w' => ∃ G, e = .returned (.agg #[.int .i64 k, .slice a n cap, .slice (some ⟨G, 0, none⟩) n n, .string (rtS n (lvs k n S))]) ∧ OwnT w' w.heap.size (some ⟨G, 0, none⟩) n n (lvs k n S) ∧ Below w.heap.size w w' := by
 obtain ⟨i0, hi, hz0, hz1, hz2⟩ := info_parts Tryz.infoStr
 obtain ⟨B, HB⟩ : ∃ x, Hid (x = w.heap.size) := ⟨_, rfl⟩
 obtain ⟨w0, HW0⟩ : ∃ x, Hid (x = w.alloc (.cells #[.int .i64 0, .slice none 0 0, .slice none 0 0, .string ⟨#[]⟩] 53)) := ⟨_, rfl⟩
 have HR0 : Hid (Row w0 B 53 #[.int .i64 0, .slice none 0 0, .slice none 0 0, .string ⟨#[]⟩]) := by show Row _ _ _ _; rw [HW0.out, HB.out]; exact Row.new w _ _
 have hb0 : Below w.heap.size w w0 := by rw [HW0.out]; exact (Below.refl _ _).alloc (Nat.le_refl _) _
 have hlt0 : B < w0.heap.size := HR0.out.lt
 have KH : Hid (TxtAt w0 a n S) := h.below hb0
 have KB0 : Hid (Below w.heap.size w w0) := hb0
 have KS : Hid (∀ i, i < n → (S i).size ≤ 1048576) := hS
 obtain ⟨L, HL⟩ : ∃ L, Hid (lvs k n S = L) := ⟨_, rfl⟩
 have HL16 : Hid (∀ i, (L i).size ≤ 16) := fun i => by rw [← HL.out]; exact lvs_le _ _ _ _
 rw [HL.out]
 clear h hb0 hS
 go_enter Tryz.func46, Tryz.ntmps46
 go_wp2_with (at_make; rw [← HW0.out, ← HB.out]; refine wpList_make_full _ rfl _ _ 28 rfl w0.heap.size 9 i0 (.string ByteArray.empty) 1 Tryz.underlying28 hi hz0 hz1 .i64 .i64 _ _ n rfl rfl rfl rfl (by rw [hz2]; omega) (by unfold maxLen; omega) (Nat.le_refl _) ?_; intro w1 hown hgrow)
 have hb1 : Below w0.heap.size w0 w1 := (Below.refl _ _).grown hgrow (Nat.le_refl _) (by simp)
 obtain ⟨G, HG⟩ : ∃ x, Hid (x = w0.heap.size) := ⟨_, rfl⟩
 have K1 : Hid (OwnT w1 w0.heap.size (some ⟨G, 0, none⟩) n n (fun i => if i < 0 then L i else ByteArray.empty)) := by
  have e : sL (fun i => if i < 0 then L i else ByteArray.empty) n = List.replicate n (Value.string ByteArray.empty) := by rw [← sL_empty]; exact sL_congr (fun i _ => by simp)
  show OwnT _ _ _ _ _ _
  unfold OwnT
  rw [e, HG.out]
  simpa [Value.cells, toList_madeCells_one] using hown
 have KB1 : Hid (Below w0.heap.size w0 w1) := hb1
 rw [← HG.out]
 clear hown hgrow hb1 hi hz0 hz1 hz2
 go_loopw [15] (fun i wr => ∃ c : Nat, c ≤ n ∧ i = .int .i64 c ∧ OwnT wr w0.heap.size (some ⟨G, 0, none⟩) n n (fun i => if i < c then L i else ByteArray.empty) ∧ Below w0.heap.size w0 wr) (fun i _ => n - (intOf i).toNat)
 case atStart => exact ⟨0, Nat.zero_le _, rfl, K1.out, KB1.out⟩
 case round =>
  obtain ⟨c, hk, rfl, hown, hbel⟩ := hrel
  clear K1 KB1
  by_cases hlt : c < n
  ·have hki : (c : Int) < (n : Int) := by omega
   obtain ⟨b1, off1, rfl, hc1⟩ := (KH.out.below hbel) c hlt
   have KC : Hid (∀ W, Calls Tryz.prog 82 #[.int .i64 k, .int .i64 (n : Int), .int .i64 (c : Int), .string (S c)] W fun e w' => e = .returned (.string (L c)) ∧ Below W.heap.size W w') := fun W => by
    have := pieceLeaf_any k (n : Int) (c : Int) (S c) W (KS.out c hlt)
    rw [← HL.out]
    exact this
   have hgl := (World.ownsRow.lt hown _ rfl).2
   obtain ⟨old, hold⟩ : ∃ v, wr.cell? ⟨G, c, none⟩ = some v := by
    rw [World.ownsRow.cellAt hown c (by omega)]
    exact ⟨_, sL_get _ _ _ hlt⟩
   have hfr := World.ownsRow.frozenAt hown c
   have KO : Hid (OwnT wr w0.heap.size (some ⟨G, 0, none⟩) n n (fun i => if i < c then L i else ByteArray.empty)) := hown
   have KB : Hid (Below w0.heap.size w0 wr) := hbel
   have hGw : w0.heap.size ≤ G := by rw [HG.out]; exact Nat.le_refl _
   clear hown hbel
   generalize S c = sc at hc1 KC
   go_wp2_with fail
   refine Calls.mono (KC.out _) ?_
   rintro e w2 ⟨rfl, hb2⟩
   have hold2 := (hb2.cell (p := ⟨G, c, none⟩) hgl).trans hold
   have hfr2 := (World.frozen?_of_block (a := ⟨G, c, none⟩) (hb2.block _ hgl)).trans hfr
   have hst := World.ownsRow.stored (OwnT.below KO.out hb2) c (.string (L c))
   rw [sL_set _ _ _ _ hlt] at hst
   have HO : Hid (OwnT (w2.setCell ⟨G, c, none⟩ (.string (L c))) w0.heap.size (some ⟨G, 0, none⟩) n n (fun i => if i < c + 1 then L i else ByteArray.empty)) := OwnT.congr hst.1 (fun i _ => by
    by_cases e : i = c
    ·simp [e]
    ·by_cases e2 : i < c
     ·simp [e, e2, show i < c + 1 by omega]
     ·simp [e, e2, show ¬ i < c + 1 by omega])
   have HB' : Hid (Below w0.heap.size w0 (w2.setCell ⟨G, c, none⟩ (.string (L c)))) := (below2 KB.out hb2).setCell hGw _
   generalize L c = sv at HO HB'
   clear hst hold hfr KC KO KB hc1
   go_wp2
   go_roundw
   case rel => exact ⟨c + 1, by omega, by go_num, HO.out, HB'.out⟩
   case measure => simp [intOf] <;> omega
  ·obtain rfl : c = n := by omega
   have HO : Hid (OwnT wr w0.heap.size (some ⟨G, 0, none⟩) c c L) := hown.congr (fun i hi => if_pos hi)
   have HBl : Hid (Below w0.heap.size w0 wr) := hbel
   have KR : Hid (Calls Tryz.prog 83 #[.slice (some ⟨G, 0, none⟩) c c] wr fun e w' => e = .returned (.tuple #[.string (rtS c L), .bool (lvB c L)]) ∧ Below wr.heap.size wr w') := root_any _ _ _ L _ (OwnT.at HO.out) (by omega) (fun i _ => by have := HL16.out i; unfold maxLen; omega)
   obtain ⟨rt, HRT⟩ : ∃ rt, Hid (rtS c L = rt) := ⟨_, rfl⟩
   rw [HRT.out] at KR
   generalize lvB c L = okr at KR
   clear hown hbel KH
   go_wp2_with fail
   refine Calls.mono KR.out ?_
   rintro e w3 ⟨rfl, hb3⟩
   have hb13 := below2 HBl.out hb3
   have HR3 : Hid (Row w3 B 53 #[.int .i64 0, .slice none 0 0, .slice none 0 0, .string ⟨#[]⟩]) := HR0.out.below hb13 hlt0
   have HO3 : Hid (OwnT w3 w0.heap.size (some ⟨G, 0, none⟩) c c L) := OwnT.below HO.out hb3
   have q0 := HR3.out.cell 0
   have q1 := HR3.out.cell 1
   have q2 := HR3.out.cell 2
   have q3 := HR3.out.cell 3
   have f0 := HR3.out.free 0
   have f1 := HR3.out.free 1
   have f2 := HR3.out.free 2
   have f3 := HR3.out.free 3
   simp at q0 q1 q2 q3
   clear HO HBl hb3 KR
   have ZR : Hid (Row ((((w3.setCell ⟨B, 0, none⟩ (.int .i64 k)).setCell ⟨B, 1, none⟩ (.slice a c cap)).setCell ⟨B, 2, none⟩ (.slice (some ⟨G, 0, none⟩) c c)).setCell ⟨B, 3, none⟩ (.string rt)) B 53 #[.int .i64 k, .slice a c cap, .slice (some ⟨G, 0, none⟩) c c, .string rt]) := (((HR3.out.set 0 _).set 1 _).set 2 _).set 3 _
   have hGB : G ≠ B := by rw [HG.out]; omega
   have hBw : w.heap.size ≤ B := by rw [HB.out]; exact Nat.le_refl _
   have KB3 : Hid (Below w.heap.size w w3) := KB0.out.trans (hb13.mono KB0.out.size)
   have set1 : ∀ (W : World) (o : Nat) (v : Value), OwnT W w0.heap.size (some ⟨G, 0, none⟩) c c L → OwnT (W.setCell ⟨B, o, none⟩ v) w0.heap.size (some ⟨G, 0, none⟩) c c L := fun W o v hW => own_kept hW (grown_set _ _ _ _) (fun x e => by cases e; exact hGB)
   have ZO : Hid (OwnT ((((w3.setCell ⟨B, 0, none⟩ (.int .i64 k)).setCell ⟨B, 1, none⟩ (.slice a c cap)).setCell ⟨B, 2, none⟩ (.slice (some ⟨G, 0, none⟩) c c)).setCell ⟨B, 3, none⟩ (.string rt)) w.heap.size (some ⟨G, 0, none⟩) c c L) := OwnT.base (set1 _ _ _ (set1 _ _ _ (set1 _ _ _ (set1 _ _ _ HO3.out)))) KB0.out.size
   clear set1 hb13
   go_wp2
   refine bodyPost_ret (v := .agg #[.int .i64 k, .slice a c cap, .slice (some ⟨G, 0, none⟩) c c, .string rt]) (results_cell_row Tryz.results46 _ _ B 53 _ (0, 0) _ (by simp) ZR.out Tryz.underlying53 (by rfl) Tryz.infoCut) rfl ⟨G, by rw [HRT.out], ZO.out, ?_⟩
   exact Below.setCell (Below.setCell (Below.setCell (Below.setCell KB3.out hBw _) hBw _) hBw _) hBw _
theorem pv_true {m q : Nat} {S : Nat → ByteArray} (h : pfB m S (q : Int) = true) : pvB (rtS m S) (S q) (q : Int) (m : Int) (pfR m S (q : Int)) (pfF m S (q : Int)) = true := by
 obtain ⟨h1, h2⟩ := pfB_parts h
 obtain ⟨hm1, hm64, h16⟩ := lvB_parts h1
 have hq : q < m := by simp [inT] at h2; omega
 have hR : pfR m S (q : Int) = Gt.pl q m := by unfold pfR; rw [if_pos h]; simp
 have hk : (((Gt.pl q m : Nat) : Int)) = plI (q : Int) (m : Int) := by unfold plI; rw [if_pos h2]; simp
 have hF : pfF m S (q : Int) = Gt.pf m S q := rfl
 have hB : prB (S q) (q : Int) (m : Int) (Gt.pl q m) (Gt.pf m S q) = true := by
  unfold prB
  rw [Bool.and_eq_true, Bool.and_eq_true]
  exact ⟨⟨decide_eq_true (h16 q hq), decide_eq_true hk⟩, aS_yes (Gt.pf_size q hq h16)⟩
 rw [hR, hF]
 unfold pvB prS rtS
 rw [hB, if_pos rfl, if_pos h1]
 simp only [Int.toNat_natCast, Bool.true_and]
 exact decide_eq_true (Gt.pr_pf S q hq)
theorem encOk_parts {s : ByteArray} {k n : Int} (h : encOk s k n = true) : s.size ≤ 2000 ∧ 1 ≤ k ∧ k ≤ n ∧ n ≤ 16 := by
 unfold encOk at h
 rw [Bool.and_eq_true] at h
 exact ⟨of_decide_eq_true h.1, sprOk_parts h.2⟩
theorem encS_le {s : ByteArray} {k n : Int} (h : encOk s k n = true) (i : Nat) : (encS s k.toNat i).size ≤ 2002 := by
 obtain ⟨h1, h2, h3, h4⟩ := encOk_parts h
 rw [show (encS s k.toNat i).size = blen s.size k.toNat from txt_size _ _]
 have := blen_le (s := s.size) (k := k.toNat) (by omega)
 omega
theorem piece_any (k : Int) (ab : Option Addr) (n cb : Nat) (S : Nat → ByteArray) (G : Nat) (L : Nat → ByteArray) (rt : ByteArray) (i : Nat) (w : World) (h : TxtAt w ab n S) (hg : TxtAt w (some ⟨G, 0, none⟩) n L) (hi : i < n) (hn : n ≤ 64) (hL : ∀ i, (L i).size ≤ 16) (hr : rt.size ≤ 1048576) :
  Calls Tryz.prog 38 #[.agg #[.int .i64 k, .slice ab n cb, .slice (some ⟨G, 0, none⟩) n n, .string rt], .int .i64 (i : Int)] w fun e w' => ∃ v, e = .returned (pcV rt k (n : Int) (i : Int) (S i) v) ∧ ResT w w' v (pfR n L (i : Int)) (pfF n L (i : Int)) ∧ Below w.heap.size w w' := by
 obtain ⟨B, HB⟩ : ∃ x, Hid (x = w.heap.size) := ⟨_, rfl⟩
 obtain ⟨w0, HW0⟩ : ∃ x, Hid (x = (w.alloc (.cells #[.int .i64 k, .slice ab n cb, .slice (some ⟨G, 0, none⟩) n n, .string rt] 53)).alloc (.cells #[.string ⟨#[]⟩, .int .i64 0, .int .i64 0, .int .i64 0, .string ⟨#[]⟩, .slice none 0 0] 30)) := ⟨_, rfl⟩
 have HR0 : Hid (Row w0 B 53 #[.int .i64 k, .slice ab n cb, .slice (some ⟨G, 0, none⟩) n n, .string rt]) := by show Row _ _ _ _; rw [HW0.out, HB.out]; exact (Row.new w _ _).alloc _
 have HP0 : Hid (Row w0 (B + 1) 30 #[.string ⟨#[]⟩, .int .i64 0, .int .i64 0, .int .i64 0, .string ⟨#[]⟩, .slice none 0 0]) := by
  show Row _ _ _ _
  rw [HW0.out, HB.out]
  have := Row.new (w.alloc (.cells #[.int .i64 k, .slice ab n cb, .slice (some ⟨G, 0, none⟩) n n, .string rt] 53)) #[.string ⟨#[]⟩, .int .i64 0, .int .i64 0, .int .i64 0, .string ⟨#[]⟩, .slice none 0 0] 30
  simpa using this
 have hb0 : Below w.heap.size w w0 := by rw [HW0.out]; exact ((Below.refl _ _).alloc (Nat.le_refl _) _).alloc (by simp) _
 have hl1 : B + 1 < w0.heap.size := HP0.out.lt
 have hBw : w.heap.size ≤ B := by rw [HB.out]; exact Nat.le_refl _
 have hs1 : Hid (w.heap.size + 1 = B + 1) := by show _ = _; rw [HB.out]
 obtain ⟨bb, ob, rfl, hcb⟩ := h i hi
 have lbb : bb < w.heap.size := block_lt_of_cell hcb
 have KP : Hid (Calls Tryz.prog 71 #[.slice (some ⟨G, 0, none⟩) n n, .int .i64 (i : Int)] w0 fun e w' => ∃ v, e = .returned (.tuple #[v, .bool (pfB n L (i : Int))]) ∧ ResT w0 w' v (pfR n L (i : Int)) (pfF n L (i : Int)) ∧ Below w0.heap.size w0 w') := proof_any _ _ _ L _ _ (hg.below hb0) (by omega) (fun i _ => by have := hL i; unfold maxLen; omega)
 have KC : Hid (∀ W, Calls Tryz.prog 72 #[.string rt] W fun e w' => e = .returned (.string rt) ∧ Below W.heap.size W w') := fun W => clone_any rt W hr
 have KB0 : Hid (Below w.heap.size w w0) := hb0
 obtain ⟨m, HM⟩ : ∃ m, Hid (pfR n L (i : Int) = m) := ⟨_, rfl⟩
 obtain ⟨F, HF⟩ : ∃ m, Hid (pfF n L (i : Int) = m) := ⟨_, rfl⟩
 rw [HM.out, HF.out] at KP
 rw [HM.out, HF.out]
 generalize pfB n L (i : Int) = okp at KP
 have c0 := HR0.out.cell 2
 simp at c0
 have hcb0 : Hid (w0.cell? ⟨bb, ob + i, none⟩ = some (.string (S i))) := (KB0.out.cell (p := ⟨bb, ob + i, none⟩) lbb).trans hcb
 have hii : (i : Int) < (n : Int) := by omega
 obtain ⟨sb, HSB⟩ : ∃ m, Hid (S i = m) := ⟨_, rfl⟩
 rw [HSB.out] at hcb0
 rw [HSB.out]
 clear h hg hb0 hcb hL
 go_enter Tryz.func38, Tryz.ntmps38
 go_wp2_with fail
 rw [← HW0.out, ← HB.out]
 refine Calls.mono KP.out ?_
 rintro e w1 ⟨v1, rfl, ⟨aP, cP, rfl, O1⟩, hb1⟩
 have HR1 : Hid (Row w1 B 53 #[.int .i64 k, .slice (some ⟨bb, ob, none⟩) n cb, .slice (some ⟨G, 0, none⟩) n n, .string rt]) := HR0.out.below hb1 HR0.out.lt
 have HP1 : Hid (Row w1 (B + 1) 30 #[.string ⟨#[]⟩, .int .i64 0, .int .i64 0, .int .i64 0, .string ⟨#[]⟩, .slice none 0 0]) := HP0.out.below hb1 hl1
 have lbb0 : bb < w0.heap.size := Nat.lt_of_lt_of_le lbb KB0.out.size
 have hcb1 := (hb1.cell (p := ⟨bb, ob + i, none⟩) lbb0).trans hcb0.out
 have lbb1 : bb < w1.heap.size := Nat.lt_of_lt_of_le lbb0 hb1.size
 have q0 := HR1.out.cell 0
 have q1 := HR1.out.cell 1
 have q3 := HR1.out.cell 3
 simp at q0 q1 q3
 have lB := HR1.out.lt
 have hne : ¬ bb = B + 1 := by have := hs1.out; omega
 have hne' : ¬ B + 1 = bb := by have := hs1.out; omega
 have lP := HP1.out.lt
 have KO1 : Hid (OwnT w1 w0.heap.size aP m cP F) := O1
 have KB1 : Hid (Below w.heap.size w w1) := KB0.out.trans (hb1.mono KB0.out.size)
 clear O1 KP c0 hcb0 hb1 KB0
 go_wp2_with fail
 go_region_held3 (fun w' => w'.cell? ⟨B, 0, none⟩ = some (.int .i64 k) ∧ w'.cell? ⟨B, 1, none⟩ = some (.slice (some ⟨bb, ob, none⟩) n cb) ∧ w'.cell? ⟨B, 3, none⟩ = some (.string rt) ∧ w'.cell? ⟨bb, ob + i, none⟩ = some (.string sb)) (go_keep) ((go_at_call 72; refine Calls.mono (KC.out _) ?_; rintro e w5 ⟨rfl, hb5'⟩; have hb5 := below_of_drew hb5'; clear hb5'; have p0 := (hb5.cell (p := ⟨B, 0, none⟩) lB).trans q0; have p1 := (hb5.cell (p := ⟨B, 1, none⟩) lB).trans q1; have p3 := (hb5.cell (p := ⟨B, 3, none⟩) lB).trans q3; have p4 := (hb5.cell (p := ⟨bb, ob + i, none⟩) lbb1).trans hcb1; have HP5 : Hid (Row w5 (B + 1) 30 #[.string ⟨#[]⟩, .int .i64 0, .int .i64 0, .int .i64 0, .string ⟨#[]⟩, .slice none 0 0]) := HP1.out.below hb5 lP; have x0 := HP5.out.cell 0; have x1 := HP5.out.cell 1; have x2 := HP5.out.cell 2; have x3 := HP5.out.cell 3; have x4 := HP5.out.cell 4; have x5 := HP5.out.cell 5; have f0 := HP5.out.free 0; have f1 := HP5.out.free 1; have f2 := HP5.out.free 2; have f3 := HP5.out.free 3; have f4 := HP5.out.free 4; have f5 := HP5.out.free 5; simp at x0 x1 x2 x3 x4 x5))
 all_goals
  have ZR : Hid (Row ((((((w5.setCell ⟨B + 1, 0, none⟩ (.string rt)).setCell ⟨B + 1, 1, none⟩ (.int .i64 k)).setCell ⟨B + 1, 2, none⟩ (.int .i64 (n : Int))).setCell ⟨B + 1, 3, none⟩ (.int .i64 (i : Int))).setCell ⟨B + 1, 4, none⟩ (.string sb)).setCell ⟨B + 1, 5, none⟩ (.slice aP m cP)) (B + 1) 30 (pcC rt k (n : Int) (i : Int) sb (.slice aP m cP))) := (((((HP5.out.set 0 _).set 1 _).set 2 _).set 3 _).set 4 _).set 5 _
  have ZO : Hid (OwnT ((((((w5.setCell ⟨B + 1, 0, none⟩ (.string rt)).setCell ⟨B + 1, 1, none⟩ (.int .i64 k)).setCell ⟨B + 1, 2, none⟩ (.int .i64 (n : Int))).setCell ⟨B + 1, 3, none⟩ (.int .i64 (i : Int))).setCell ⟨B + 1, 4, none⟩ (.string sb)).setCell ⟨B + 1, 5, none⟩ (.slice aP m cP)) w.heap.size aP m cP F) := OwnT.base (OwnT.setFar (OwnT.setFar (OwnT.setFar (OwnT.setFar (OwnT.setFar (OwnT.setFar (OwnT.below KO1.out hb5) hl1) hl1) hl1) hl1) hl1) hl1) (by have := hs1.out; omega)
  have KB5 : Hid (Below w.heap.size w w5) := KB1.out.trans (hb5.mono KB1.out.size)
  have hB1 : w.heap.size ≤ B + 1 := by omega
  clear p0 p1 p3 p4 x0 x1 x2 x3 x4 x5 f0 f1 f2 f3 f4 f5
  go_wp2
  refine bodyPost_ret (v := pcV rt k (n : Int) (i : Int) sb (.slice aP m cP)) (results_cell_row Tryz.results38 _ _ (B + 1) 30 _ (0, 0) _ (by simp) ZR.out Tryz.underlying30 (by rfl) Tryz.infoPc) rfl ⟨_, rfl, ⟨_, _, rfl, ZO.out⟩, ?_⟩
  exact Below.setCell (Below.setCell (Below.setCell (Below.setCell (Below.setCell (Below.setCell KB5.out hB1 _) hB1 _) hB1 _) hB1 _) hB1 _) hB1 _
structure Pc where
 r : ByteArray
 k : Int
 n : Int
 i : Int
 b : ByteArray
 m : Nat
 S : Nat → ByteArray
def cel (p : Pc) (v : Value) : Nat → Value
 | 0 => .string p.r
 | 1 => .int .i64 p.k
 | 2 => .int .i64 p.n
 | 3 => .int .i64 p.i
 | 4 => .string p.b
 | _ => v
def gL (c : Nat → Nat → Value) (n : Nat) : List Value := (List.range (n * 6)).map fun j => c (j / 6) (j % 6)
theorem gL_len (c : Nat → Nat → Value) (n : Nat) : (gL c n).length = n * 6 := by simp [gL]
theorem gL_get (c : Nat → Nat → Value) (n i q : Nat) (hi : i < n) (hq : q < 6) : (gL c n)[i * 6 + q]? = some (c i q) := by
 have h : i * 6 + q < n * 6 := by omega
 simp [gL, h, show (i * 6 + q) / 6 = i by omega, show (i * 6 + q) % 6 = q by omega]
theorem gL_congr {c c' : Nat → Nat → Value} {n : Nat} (h : ∀ i q, i < n → q < 6 → c i q = c' i q) : gL c n = gL c' n := by
 unfold gL
 refine List.map_congr_left fun j hj => ?_
 have : j < n * 6 := by simpa using hj
 exact h _ _ (by omega) (by omega)
theorem gL_snoc (c : Nat → Nat → Value) (n : Nat) : gL c (n + 1) = gL c n ++ [c n 0, c n 1, c n 2, c n 3, c n 4, c n 5] := by
 apply List.ext_getElem?
 intro j
 by_cases hj : j < n * 6
 ·rw [List.getElem?_append_left (by rw [gL_len]; omega)]
  have h1 := gL_get c (n + 1) (j / 6) (j % 6) (by omega) (by omega)
  have h2 := gL_get c n (j / 6) (j % 6) (by omega) (by omega)
  rw [show j / 6 * 6 + j % 6 = j by omega] at h1 h2
  rw [h1, h2]
 ·rw [List.getElem?_append_right (by rw [gL_len]; omega), gL_len]
  by_cases h6 : j < (n + 1) * 6
  ·obtain ⟨q, rfl⟩ : ∃ q, j = n * 6 + q := ⟨j - n * 6, by omega⟩
   have hq : q < 6 := by omega
   rw [gL_get _ _ _ _ (by omega) hq, show n * 6 + q - n * 6 = q by omega]
   match q, hq with
   | 0, _ => rfl
   | 1, _ => rfl
   | 2, _ => rfl
   | 3, _ => rfl
   | 4, _ => rfl
   | 5, _ => rfl
  ·rw [List.getElem?_eq_none (by rw [gL_len]; omega), List.getElem?_eq_none (by simp; omega)]
def OwnC (w : World) (B : Nat) (a : Option Addr) (n cap : Nat) (c : Nat → Nat → Value) : Prop := w.ownsRow B 30 6 (.slice a n cap) n (gL c n)
theorem OwnC.congr {w : World} {B : Nat} {a : Option Addr} {n cap : Nat} {c c' : Nat → Nat → Value} (h : OwnC w B a n cap c) (e : ∀ i q, i < n → q < 6 → c i q = c' i q) : OwnC w B a n cap c' := by
 unfold OwnC
 rw [← gL_congr e]
 exact h
theorem OwnC.below {w w' : World} {B : Nat} {a : Option Addr} {n cap : Nat} {c : Nat → Nat → Value} (h : OwnC w B a n cap c) (hb : Below w.heap.size w w') : OwnC w' B a n cap c := ownsRow_below h hb
theorem OwnC.cell {w : World} {B g : Nat} {n cap : Nat} {c : Nat → Nat → Value} (h : OwnC w B (some ⟨g, 0, none⟩) n cap c) {i q : Nat} (hi : i < n) (hq : q < 6) : w.cell? ⟨g, i * 6 + q, none⟩ = some (c i q) := by
 have := World.ownsRow.cellAt h (i * 6 + q) (by omega)
 rw [this]
 exact gL_get _ _ _ _ hi hq
def OwnP (w : World) (B : Nat) (a : Option Addr) (n cap : Nat) (A : Nat → Option Addr) (C : Nat → Nat) (P : Nat → Pc) : Prop :=
 OwnC w B a n cap (fun i => cel (P i) (.slice (A i) (P i).m (C i))) ∧ (∀ i, i < n → OwnT w B (A i) (P i).m (C i) (P i).S) ∧
 (∀ i j x y, i < j → j < n → A i = some x → A j = some y → x.block ≠ y.block) ∧ (∀ i x y, i < n → A i = some x → a = some y → x.block ≠ y.block)
theorem OwnP.below {w w' : World} {B : Nat} {a : Option Addr} {n cap : Nat} {A : Nat → Option Addr} {C : Nat → Nat} {P : Nat → Pc} (h : OwnP w B a n cap A C P) (hb : Below w.heap.size w w') : OwnP w' B a n cap A C P :=
 ⟨h.1.below hb, fun i hi => OwnT.below (h.2.1 i hi) hb, h.2.2⟩
def ResP (w w' : World) (v : Value) (n : Nat) (P : Nat → Pc) : Prop := ∃ g cap A C, v = .slice (some ⟨g, 0, none⟩) n cap ∧ OwnP w' w.heap.size (some ⟨g, 0, none⟩) n cap A C P
noncomputable def cutP (k : Int) (n : Nat) (S : Nat → ByteArray) : Nat → Pc := fun i => ⟨rtS n (lvs k n S), k, (n : Int), (i : Int), S i, pfR n (lvs k n S) (i : Int), pfF n (lvs k n S) (i : Int)⟩
theorem Tryz.infoPc3 : (Tryz.prog.info? 30).map (fun i => (i.zero, i.size, i.bytes)) = some (some (.agg #[.string ByteArray.empty, .int .i64 0, .int .i64 0, .int .i64 0, .string ByteArray.empty, .slice none 0 0]), 6, 80) := by kernel_rfl
noncomputable def cutR (s : ByteArray) (k n : Int) : Nat := if encOk s k n = true then n.toNat else 0
def GwP (k n i : Int) (c : Nat) (Q : Nat → Pc) : Prop := ∀ j, j < c → k = (Q j).k ∧ n = (Q j).n ∧ i ≠ (Q j).i
noncomputable def gwB (k n i : Int) (c : Nat) (Q : Nat → Pc) : Bool := @decide (GwP k n i c Q) (Classical.propDecidable _)
theorem gwB_yes {k n i : Int} {c : Nat} {Q : Nat → Pc} (h : GwP k n i c Q) : gwB k n i c Q = true := by unfold gwB; simpa using h
theorem gwB_no {k n i : Int} {c : Nat} {Q : Nat → Pc} (h : ¬ GwP k n i c Q) : gwB k n i c Q = false := by unfold gwB; simpa using h
theorem goesWith_any (r : ByteArray) (k n i : Int) (b : ByteArray) (v : Value) (g c cc : Nat) (Q : Nat → Pc) (A : Nat → Option Addr) (C : Nat → Nat) (w : World) (hcell : ∀ j q, j < c → q < 6 → w.cell? ⟨g, j * 6 + q, none⟩ = some (cel (Q j) (.slice (A j) (Q j).m (C j)) q)) (hc : c ≤ 64) :
  Calls Tryz.prog 55 #[pcV r k n i b v, .slice (some ⟨g, 0, none⟩) c cc] w fun e w' => e = .returned (.bool (gwB k n i c Q)) ∧ Below w.heap.size w w' := by
 obtain ⟨w0, HW0⟩ : ∃ x, Hid (x = w.alloc (.cells (pcC r k n i b v) 30)) := ⟨_, rfl⟩
 obtain ⟨B, HB⟩ : ∃ x, Hid (x = w.heap.size) := ⟨_, rfl⟩
 have HR : Hid (Row w0 B 30 (pcC r k n i b v)) := by show Row _ _ _ _; rw [HW0.out, HB.out]; exact Row.new w _ _
 have KB : Hid (Below w.heap.size w w0) := by show Below _ _ _; rw [HW0.out]; exact (Below.refl _ _).alloc (Nat.le_refl _) _
 have HC : Hid (∀ j q, j < c → q < 6 → w0.cell? ⟨g, j * 6 + q, none⟩ = some (cel (Q j) (.slice (A j) (Q j).m (C j)) q)) := fun j q hj hq => (KB.out.cell (p := ⟨g, j * 6 + q, none⟩) (block_lt_of_cell (hcell j q hj hq))).trans (hcell j q hj hq)
 clear hcell
 go_enter Tryz.func55, Tryz.ntmps55
 go_wp2_with fail
 rw [← HW0.out, ← HB.out]
 go_loopw [9] (fun vi wr => ∃ j : Nat, j ≤ c ∧ vi = .int .i64 (j : Int) ∧ Hid (GwP k n i j Q) ∧ Below w0.heap.size w0 wr) (fun vi _ => c - (intOf vi).toNat)
 case atStart => exact ⟨0, Nat.zero_le _, rfl, fun j hj => absurd hj (Nat.not_lt_zero _), Below.refl _ _⟩
 case round =>
  obtain ⟨j, hj, rfl, HG, hbel⟩ := hrel
  by_cases hlt : j < c
  ·have hji : (j : Int) < (c : Int) := by omega
   have hx := fun q (hq : q < 6) => (hbel.cell (p := ⟨g, j * 6 + q, none⟩) (block_lt_of_cell (HC.out j q hlt hq))).trans (HC.out j q hlt hq)
   have HRr := HR.out.below hbel HR.out.lt
   have q1 := HRr.cell 1
   have q2 := HRr.cell 2
   have q3 := HRr.cell 3
   simp at q1 q2 q3
   have lB : B < wr.heap.size := HRr.lt
   have nB : ¬ B = wr.heap.size := by omega
   have nB' : ¬ wr.heap.size = B := by omega
   have x0 := hx 0 (by omega)
   have x1 := hx 1 (by omega)
   have x2 := hx 2 (by omega)
   have x3 := hx 3 (by omega)
   have x4 := hx 4 (by omega)
   have x5 := hx 5 (by omega)
   simp only [cel, Nat.add_zero] at x0 x1 x2 x3 x4 x5
   have HN : Hid (GwP k n i (j + 1) Q ↔ k = (Q j).k ∧ n = (Q j).n ∧ i ≠ (Q j).i) := by
    constructor
    ·intro h; exact h j (by omega)
    ·intro h y hy
     by_cases e : y = j
     ·subst e; exact h
     ·exact HG.out y (by omega)
   have HX : Hid (¬ (k = (Q j).k ∧ n = (Q j).n ∧ i ≠ (Q j).i) → gwB k n i c Q = false) := fun h => gwB_no fun h' => h (h' j hlt)
   generalize (Q j).k = kj at x1 HN HX
   generalize (Q j).n = nj at x2 HN HX
   generalize (Q j).i = ij at x3 HN HX
   generalize (Q j).r = rj at x0
   generalize (Q j).b = bj at x4
   generalize (Q j).m = mj at x5
   generalize A j = aj at x5
   generalize C j = cj at x5
   obtain ⟨D, HD⟩ : ∃ x, Hid (x = wr.heap.size) := ⟨_, rfl⟩
   obtain ⟨w1, HW1⟩ : ∃ x, Hid (x = wr.alloc (.cells (pcC rj kj nj ij bj (.slice aj mj cj)) 30)) := ⟨_, rfl⟩
   have HB1 : Hid (Below w0.heap.size w0 w1) := by show Below _ _ _; rw [HW1.out]; exact hbel.alloc hbel.size _
   clear HRr hx
   by_cases hk : k = kj
   ·subst hk
    have nk : (k != k) = false := by simp
    by_cases hn : n = nj
    ·subst hn
     have nn : (n != n) = false := by simp
     by_cases hi : i = ij
     ·subst hi
      have ni : (i == i) = true := by simp
      have HF : Hid (gwB k n i c Q = false) := HX.out (by simp)
      go_wp2
      go_ret
      exact ⟨by rw [HF.out]; rfl, by rw [← HW1.out]; exact below2 KB.out HB1.out⟩
     ·have ni : (i == ij) = false := by simpa using hi
      have HG2 : Hid (GwP k n i (j + 1) Q) := HN.out.2 ⟨rfl, rfl, hi⟩
      go_wp2
      go_roundw
      case rel => exact ⟨j + 1, by omega, by go_num, HG2, by rw [← HW1.out]; exact HB1.out⟩
      case measure => simp [intOf]; omega
    ·have nn : (n != nj) = true := by simpa using hn
     have HF : Hid (gwB k n i c Q = false) := HX.out (fun h => hn h.2.1)
     go_wp2
     go_ret
     exact ⟨by rw [HF.out]; rfl, by rw [← HW1.out]; exact below2 KB.out HB1.out⟩
   ·have nk : (k != kj) = true := by simpa using hk
    have HF : Hid (gwB k n i c Q = false) := HX.out (fun h => hk h.1)
    go_wp2
    go_ret
    exact ⟨by rw [HF.out]; rfl, by rw [← HW1.out]; exact below2 KB.out HB1.out⟩
  ·obtain rfl : j = c := by omega
   have HF : Hid (gwB k n i j Q = true) := gwB_yes HG.out
   go_wp2
   go_ret
   exact ⟨by rw [HF.out]; rfl, below2 KB.out hbel⟩
theorem OwnP.snoc {w w2 w3 : World} {B g g3 c cap cap3 : Nat} {A : Nat → Option Addr} {C : Nat → Nat} {P : Nat → Pc} {aP : Option Addr} {cP : Nat} {X : Obj}
  (h : OwnP w B (some ⟨g, 0, none⟩) c cap A C P) (hB : B ≤ w.heap.size) (hb : Below w.heap.size w w2) (ho : OwnT w2 w.heap.size aP (P c).m cP (P c).S)
  (h3 : w3.ownsRow B 30 6 (.slice (some ⟨g3, 0, none⟩) (c + 1) cap3) (c + 1) (gL (fun i => cel (P i) (.slice (A i) (P i).m (C i))) c ++ [.string (P c).r, .int .i64 (P c).k, .int .i64 (P c).n, .int .i64 (P c).i, .string (P c).b, .slice aP (P c).m cP]))
  (hg : (w2.alloc X).grownBy w3 (some g)) (hat : g = g3 ∨ g3 = w2.heap.size + 1) : ∃ A' C', OwnP w3 B (some ⟨g3, 0, none⟩) (c + 1) cap3 A' C' P := by
 obtain ⟨h1, h2, h4, h5⟩ := h
 have lg := (World.ownsRow.lt h1 g rfl).2
 have lA : ∀ i x, i < c → A i = some x → x.block < w.heap.size := fun i x hi e => by
  have := h2 i hi
  rw [e] at this
  exact (World.ownsRow.lt this x.block rfl).2
 have lP : ∀ x, aP = some x → w.heap.size ≤ x.block ∧ x.block < w2.heap.size := fun x e => by
  subst e
  exact World.ownsRow.lt ho x.block rfl
 have hs := hb.size
 refine ⟨fun i => if i = c then aP else A i, fun i => if i = c then cP else C i, ?_, ?_, ?_, ?_⟩
 ·show World.ownsRow _ _ _ _ _ _ _
  have e : gL (fun i => cel (P i) (.slice (if i = c then aP else A i) (P i).m (if i = c then cP else C i))) (c + 1) = gL (fun i => cel (P i) (.slice (A i) (P i).m (C i))) c ++ [.string (P c).r, .int .i64 (P c).k, .int .i64 (P c).n, .int .i64 (P c).i, .string (P c).b, .slice aP (P c).m cP] := by
   rw [gL_snoc, gL_congr (c' := fun i => cel (P i) (.slice (A i) (P i).m (C i))) (fun i q hi _ => by simp [show i ≠ c by omega])]
   simp [cel]
  rw [e]
  exact h3
 ·intro i hi
  by_cases ei : i = c
  ·subst ei
   simp only [if_true]
   exact own_kept (World.ownsRow.alloc (OwnT.base ho hB) X) hg (fun x e => by have := lP x e; omega)
  ·simp only [ei, if_false]
   exact own_kept (World.ownsRow.alloc (OwnT.below (h2 i (by omega)) hb) X) hg (fun x e => h5 i x _ (by omega) e rfl)
 ·intro i j x y hij hj hx hy
  replace hx : (if i = c then aP else A i) = some x := hx
  replace hy : (if j = c then aP else A j) = some y := hy
  by_cases ej : j = c
  ·subst ej
   simp only [if_true] at hy
   rw [if_neg (by omega)] at hx
   have l1 := lP y hy
   have l2 := lA i x (by omega) hx
   omega
  ·rw [if_neg ej] at hy
   rw [if_neg (by omega)] at hx
   exact h4 i j x y hij (by omega) hx hy
 ·intro i x y hi hx hy
  replace hx : (if i = c then aP else A i) = some x := hx
  cases hy
  by_cases ei : i = c
  ·subst ei
   simp only [if_true] at hx
   have := lP x hx
   rcases hat with e | e
   ·show x.block ≠ g3; omega
   ·show x.block ≠ g3; omega
  ·rw [if_neg ei] at hx
   have l2 := lA i x (by omega) hx
   rcases hat with e | e
   ·subst e; exact h5 i x _ (by omega) hx rfl
   ·show x.block ≠ g3; omega
theorem OwnP.base {w : World} {B B' : Nat} {a : Option Addr} {n cap : Nat} {A : Nat → Option Addr} {C : Nat → Nat} {P : Nat → Pc} (h : OwnP w B a n cap A C P) (hB : B' ≤ B) : OwnP w B' a n cap A C P :=
 ⟨own_base h.1 hB, fun i hi => OwnT.base (h.2.1 i hi) hB, h.2.2⟩
theorem sAll_any (k : Int) (a : Option Addr) (n cap : Nat) (S : Nat → ByteArray) (w : World) (h : TxtAt w a n S) (hn : n ≤ 64) (hS : ∀ i, i < n → (S i).size ≤ 1048576) :
  Calls Tryz.prog 52 #[.slice a n cap, .int .i64 k, .int .i64 (n : Int)] w fun e w' => ∃ v, e = .returned v ∧ ResP w w' v n (cutP k n S) ∧ Below w.heap.size w w' := by
 obtain ⟨i0, hi, hz0, hz1, hz2⟩ := info_parts Tryz.infoStr
 obtain ⟨j0, hj, hy0, hy1, hy2⟩ := info_parts Tryz.infoPc3
 have HPC : Hid (∀ i, cutP k n S i = ⟨rtS n (lvs k n S), k, (n : Int), (i : Int), S i, pfR n (lvs k n S) (i : Int), pfF n (lvs k n S) (i : Int)⟩) := fun i => rfl
 obtain ⟨P, HP⟩ : ∃ P, Hid (cutP k n S = P) := ⟨_, rfl⟩
 rw [HP.out] at HPC
 rw [HP.out]
 obtain ⟨L, HL⟩ : ∃ L, Hid (lvs k n S = L) := ⟨_, rfl⟩
 have HL16 : Hid (∀ i, (L i).size ≤ 16) := fun i => by rw [← HL.out]; exact lvs_le _ _ _ _
 obtain ⟨rt, HRT⟩ : ∃ rt, Hid (rtS n L = rt) := ⟨_, rfl⟩
 rw [HL.out, HRT.out] at HPC
 have KH : Hid (TxtAt w a n S) := h
 have KS : Hid (∀ i, i < n → (S i).size ≤ 1048576) := hS
 have K0 : Hid (OwnT (w.alloc (.cells #[] 9)) w.heap.size (some ⟨w.heap.size, 0, none⟩) 0 0 L ∧ Below w.heap.size w (w.alloc (.cells #[] 9))) := ⟨litT w _, (Below.refl _ _).alloc (Nat.le_refl _) _⟩
 clear h hS
 go_enter Tryz.func52, Tryz.ntmps52
 go_wp2
 go_loopw [7, 8] (fun v vi wr => ∃ c g cc : Nat, c ≤ n ∧ vi = .int .i64 (c : Int) ∧ v = .slice (some ⟨g, 0, none⟩) c cc ∧ OwnT wr w.heap.size (some ⟨g, 0, none⟩) c cc L ∧ Below w.heap.size w wr) (fun _ vi _ => n - (intOf vi).toNat)
 case atStart => exact ⟨0, w.heap.size, 0, Nat.zero_le _, rfl, rfl, K0.out.1, K0.out.2⟩
 case round =>
  obtain ⟨c, g, cc, hk, rfl, rfl, ho, hbel⟩ := hrel
  clear K0
  have KO : Hid (OwnT wr w.heap.size (some ⟨g, 0, none⟩) c cc L ∧ Below w.heap.size w wr) := ⟨ho, hbel⟩
  clear ho hbel
  by_cases hlt : c < n
  ·have hki : (c : Int) < (n : Int) := by omega
   obtain ⟨b1, off1, rfl, hc1⟩ := (KH.out.below KO.out.2) c hlt
   have KC : Hid (∀ W, Calls Tryz.prog 44 #[.int .i64 k, .int .i64 (n : Int), .int .i64 (c : Int), .string (S c)] W fun e w' => e = .returned (.string (L c)) ∧ Below W.heap.size W w') := fun W => by
    have := sPieceLeaf_any k (n : Int) (c : Int) (S c) W (KS.out c hlt)
    rw [← HL.out]
    exact this
   have lg := World.ownsRow.lt KO.out.1 _ rfl
   generalize S c = sc at hc1 KC
   obtain ⟨z, HZ⟩ : ∃ z, Hid (L c = z) := ⟨_, rfl⟩
   rw [HZ.out] at KC
   go_wp2_with fail
   refine Calls.mono (KC.out _) ?_
   rintro e w6 ⟨rfl, hb6⟩
   have K6 : Hid (OwnT w6 w.heap.size (some ⟨g, 0, none⟩) c cc L ∧ Below w.heap.size w w6) := ⟨OwnT.below KO.out.1 hb6, below2 KO.out.2 hb6⟩
   have hsz6 := K6.out.2.size
   clear hb6 KC hc1 KO
   go_wp2_with (at_builtin; refine wpList_append_all _ (by rfl) _ _ 28 (by rfl) w.heap.size 9 i0 (.string ByteArray.empty) 1 16 Tryz.underlying28 hi hz0 hz1 hz2 rfl (by decide) g c cc _ (by rfl) (World.ownsRow.alloc K6.out.1 _) ⟨w6.heap.size, 0, none⟩ 1 1 [.string z] (by rfl) (by rfl) (World.news_of_block (cs := #[.string z]) (t := 9) (fr := (0, 0)) (heap_alloc_new w6 _)) (by simp [Value.oneCell']) (by unfold maxLen; omega) (by omega) (by simp; omega) ?_; intro g3 cap3 w7 hown3 hgrow3)
   have HL7 : Hid (OwnT w7 w.heap.size (some ⟨g3, 0, none⟩) (c + 1) cap3 L ∧ Below w.heap.size w w7) := by
    refine ⟨?_, (K6.out.2.alloc hsz6 _).grown (show World.grownBy _ w7 (some g) from hgrow3) (by simp; omega) (fun j hj => by cases hj; exact lg.1)⟩
    unfold OwnT
    rw [sL_snoc, HZ.out]
    exact hown3
   clear hown3 hgrow3 K6
   go_roundw
   case rel => exact ⟨c + 1, g3, cap3, by omega, by go_num, rfl, HL7.out.1, HL7.out.2⟩
   case measure => simp [intOf]; omega
  ·obtain rfl : c = n := by omega
   have KR : Hid (Calls Tryz.prog 87 #[.slice (some ⟨g, 0, none⟩) c cc] wr fun e w' => e = .returned (.tuple #[.string rt, .bool (lvB c L)]) ∧ Below wr.heap.size wr w') := by
    have := sRoot_any (some ⟨g, 0, none⟩) c cc L wr (OwnT.at KO.out.1) (by omega) (fun i _ => by have := HL16.out i; unfold maxLen; omega)
    rw [HRT.out] at this
    exact this
   generalize lvB c L = okr at KR
   go_wp2_with fail
   refine Calls.mono KR.out ?_
   rintro e w3 ⟨rfl, hb3⟩
   obtain ⟨w4, HW4⟩ : ∃ w4, Hid (w4 = w3.alloc (.cells #[] 30)) := ⟨_, rfl⟩
   have hb34 : Below w3.heap.size w3 w4 := by rw [HW4.out]; exact (Below.refl _ _).alloc (Nat.le_refl _) _
   have KL3 : Hid (TxtAt w3 (some ⟨g, 0, none⟩) c L) := (OwnT.at KO.out.1).below hb3
   have KA3 : Hid (TxtAt w3 a c S) := (KH.out.below KO.out.2).below hb3
   have KB3 : Hid (Below w.heap.size w w3) := below2 KO.out.2 hb3
   have KB34 : Hid (Below w3.heap.size w3 w4) := hb34
   have KP4 : Hid (OwnP w4 w3.heap.size (some ⟨w3.heap.size, 0, none⟩) 0 0 (fun _ => none) (fun _ => 0) P) := by
    rw [HW4.out]
    exact ⟨World.ownsRow_lit w3 #[] 0 (Nat.le_refl _) (by unfold maxLen; omega) rfl, fun i hi => absurd hi (Nat.not_lt_zero _), fun i j x y _ hj => absurd hj (Nat.not_lt_zero _), fun i x y hi => absurd hi (Nat.not_lt_zero _)⟩
   clear hb3 hb34 KO KR hi hz0 hz1 hz2
   go_wp2_with fail
   rw [← HW4.out]
   go_loopw [11, 12] (fun v vi wr => ∃ q g2 cc2 : Nat, q ≤ c ∧ vi = .int .i64 (q : Int) ∧ v = .slice (some ⟨g2, 0, none⟩) q cc2 ∧ (∃ A C, OwnP wr w3.heap.size (some ⟨g2, 0, none⟩) q cc2 A C P) ∧ Below w3.heap.size w3 wr) (fun _ vi _ => c - (intOf vi).toNat)
   case atStart => exact ⟨0, _, 0, Nat.zero_le _, rfl, rfl, ⟨_, _, KP4.out⟩, KB34.out⟩
   case round =>
    obtain ⟨q, g2, cc2, hq, rfl, rfl, ⟨A, C, hop⟩, hb3r⟩ := hrel
    clear KP4
    have KOP : Hid (OwnP wr w3.heap.size (some ⟨g2, 0, none⟩) q cc2 A C P ∧ Below w3.heap.size w3 wr) := ⟨hop, hb3r⟩
    have lg2 := World.ownsRow.lt hop.1 g2 rfl
    clear hop hb3r
    by_cases hlt2 : q < c
    ·have hqi : (q : Int) < (c : Int) := by omega
     have KPF : Hid (Calls Tryz.prog 88 #[.slice (some ⟨g, 0, none⟩) c cc, .int .i64 (q : Int)] wr fun e w' => ∃ v, e = .returned (.tuple #[v, .bool (pfB c L (q : Int))]) ∧ ResT wr w' v (P q).m (P q).S ∧ Below wr.heap.size wr w') := by
      rw [HPC.out]
      exact sProof_any (some ⟨g, 0, none⟩) c cc L (q : Int) wr (KL3.out.below KOP.out.2) (by omega) (fun i _ => by have := HL16.out i; unfold maxLen; omega)
     generalize pfB c L (q : Int) = okp at KPF
     obtain ⟨mq, HMQ⟩ : ∃ mc, Hid ((P q).m = mc) := ⟨_, rfl⟩
     rw [HMQ.out] at KPF
     obtain ⟨sc, HSC⟩ : ∃ sc, Hid (S q = sc) := ⟨_, rfl⟩
     have HS : Hid ((P q).r = rt ∧ (P q).k = k ∧ (P q).n = (c : Int) ∧ (P q).i = (q : Int) ∧ (P q).b = sc) := by rw [HPC.out, HSC.out]; exact ⟨rfl, rfl, rfl, rfl, rfl⟩
     go_wp2_with fail
     refine Calls.mono KPF.out ?_
     rintro e w5 ⟨v5, rfl, ⟨aP, cP, rfl, O5⟩, hb5⟩
     obtain ⟨b1, off1, rfl, hc1⟩ := ((KA3.out.below KOP.out.2).below hb5) q hlt2
     rw [HSC.out] at hc1
     have hs5 := hb5.size
     have hw5 := KOP.out.2.size
     have O5' : Hid (OwnT w5 wr.heap.size aP mq cP (P q).S) := O5
     have HB5 : Hid (Below wr.heap.size wr w5) := hb5
     have KX : Hid (OwnC w5 w3.heap.size (some ⟨g2, 0, none⟩) q cc2 (fun i => cel (P i) (.slice (A i) (P i).m (C i)))) := KOP.out.1.1.below hb5
     clear O5 hb5 KPF
     go_wp2_with (at_builtin; refine wpList_append_lies _ (by rfl) _ _ 24 (by rfl) w3.heap.size 30 j0 (.agg #[.string ByteArray.empty, .int .i64 0, .int .i64 0, .int .i64 0, .string ByteArray.empty, .slice none 0 0]) 6 80 Tryz.underlying24 hj hy0 hy1 hy2 rfl (by decide) (.slice (some ⟨g2, 0, none⟩) q cc2) q _ (by rfl) (World.ownsRow.alloc KX.out _) ⟨w5.heap.size, 0, none⟩ 1 1 [.string rt, .int .i64 k, .int .i64 (c : Int), .int .i64 (q : Int), .string sc, .slice aP mq cP] (by rfl) (by rfl) (World.news_of_block (cs := #[.string rt, .int .i64 k, .int .i64 (c : Int), .int .i64 (q : Int), .string sc, .slice aP mq cP]) (t := 30) (fr := (0, 0)) (heap_alloc_new w5 _)) (by simp [Value.oneCell']) (by omega) (by unfold maxLen; omega) (by omega) (by simp; omega) (w5.heap.size + 1) (by simp) ?_; intro g3 cap3 w7 hown3 hgrow3 hat3 hlt3)
     have hgr : World.grownBy (w5.alloc (.cells #[.string rt, .int .i64 k, .int .i64 (c : Int), .int .i64 (q : Int), .string sc, .slice aP mq cP] 30)) w7 (some g2) := hgrow3
     have HN : Hid ((∃ A C, OwnP w7 w3.heap.size (some ⟨g3, 0, none⟩) (q + 1) cap3 A C P) ∧ Below w3.heap.size w3 w7) := by
      refine ⟨OwnP.snoc (aP := aP) (cP := cP) KOP.out.1 hw5 HB5.out (by rw [HMQ.out]; exact O5'.out) ?_ hgr ?_, ?_⟩
      ·rw [HMQ.out, HS.out.1, HS.out.2.1, HS.out.2.2.1, HS.out.2.2.2.1, HS.out.2.2.2.2]
       exact hown3
      ·rcases hat3 with e | e
       ·exact .inl (by simpa [Value.ownBlock] using e)
       ·exact .inr e
      ·exact ((below2 KOP.out.2 HB5.out).alloc (by omega) _).grown hgr (by simp; omega) (fun j hj => by cases hj; exact lg2.1)
     clear hown3 hgrow3 hgr hat3 hlt3 KOP KX HB5 O5' hc1
     go_roundw
     case rel => exact ⟨q + 1, g3, cap3, by omega, by go_num, rfl, HN.out.1, HN.out.2⟩
     case measure => simp [intOf]; omega
    ·obtain rfl : q = c := by omega
     go_wp2
     go_ret
     exact ⟨_, rfl, ⟨_, _, A, C, rfl, KOP.out.1.base KB3.out.size⟩, below2 KB3.out KOP.out.2⟩
theorem sCut_any (s : ByteArray) (k n : Int) (w : World) (hs : s.size ≤ 1048576) :
  Calls Tryz.prog 48 #[.string s, .int .i64 k, .int .i64 n] w fun e w' => ∃ v, e = .returned (.tuple #[v, .bool (encOk s k n)]) ∧ ResP w w' v (cutR s k n) (cutP k n.toNat (encS s k.toNat)) ∧ Below w.heap.size w w' := by
 have KE : Hid (Calls Tryz.prog 50 #[.string s, .int .i64 k, .int .i64 n] w fun e w' => ∃ v, e = .returned (.tuple #[v, .bool (encOk s k n)]) ∧ ResT w w' v (encR s k n) (encS s k.toNat) ∧ Below w.heap.size w w') := sEncode_any s k n w hs
 unfold cutR
 cases hok : encOk s k n with
 | false =>
  rw [hok] at KE
  obtain ⟨P, HP⟩ : ∃ P, Hid (cutP k n.toNat (encS s k.toNat) = P) := ⟨_, rfl⟩
  rw [HP.out]
  go_enter Tryz.func48, Tryz.ntmps48
  go_wp2_with fail
  refine Calls.mono KE.out ?_
  rintro e w1 ⟨v, rfl, _, b1⟩
  have HO : Hid (OwnP (w1.alloc (.cells #[] 30)) w.heap.size (some ⟨w1.heap.size, 0, none⟩) 0 0 (fun _ => none) (fun _ => 0) P) := ⟨World.ownsRow_lit w1 #[] 0 b1.size (by unfold maxLen; omega) rfl, fun i hi => absurd hi (Nat.not_lt_zero _), fun i j x y _ hj => absurd hj (Nat.not_lt_zero _), fun i x y hi => absurd hi (Nat.not_lt_zero _)⟩
  go_wp2
  go_ret2
  exact ⟨_, rfl, ⟨_, _, _, _, rfl, HO.out⟩, b1.alloc b1.size _⟩
 | true =>
  obtain ⟨h1, h2, h3, h4⟩ := encOk_parts hok
  have hR : encR s k n = n.toNat := by unfold encR; rw [hok]; rfl
  have hle := fun i => encS_le hok i
  rw [hok, hR] at KE
  rw [if_pos rfl]
  obtain ⟨N, rfl⟩ : ∃ N : Nat, n = (N : Int) := ⟨n.toNat, by omega⟩
  rw [Int.toNat_natCast] at KE ⊢
  generalize encS s k.toNat = S at KE hle ⊢
  clear h1 h2 h3 hok hR
  go_enter Tryz.func48, Tryz.ntmps48
  go_wp2_with fail
  refine Calls.mono KE.out ?_
  rintro e w1 ⟨v, rfl, ⟨aE, cE, rfl, O1⟩, b1⟩
  have A1 : TxtAt w1 aE N S := OwnT.at O1
  clear O1
  go_wp2_with fail
  refine Calls.mono (sAll_any k aE N cE S _ A1 (by omega) (fun i _ => by have := hle i; omega)) ?_
  rintro e w2 ⟨v2, rfl, ⟨a2, c2, A2, C2, rfl, O2⟩, b2⟩
  have KO2 : Hid (OwnP w2 w.heap.size (some ⟨a2, 0, none⟩) N c2 A2 C2 (cutP k N S)) := O2.base b1.size
  clear O2 A1
  go_wp2
  go_ret2
  exact ⟨_, rfl, ⟨_, _, _, _, rfl, KO2.out⟩, below2 b1 b2⟩
def PiA (w : World) (a : Option Addr) (n : Nat) (A : Nat → Option Addr) (C : Nat → Nat) (P : Nat → Pc) : Prop := ∀ i, i < n → (∃ b off, a = some ⟨b, off, none⟩ ∧ ∀ q, q < 6 → w.cell? ⟨b, off + (i * 6 + q), none⟩ = some (cel (P i) (.slice (A i) (P i).m (C i)) q)) ∧ TxtAt w (A i) (P i).m (P i).S
theorem PiA.below {w w' : World} {a : Option Addr} {n : Nat} {A : Nat → Option Addr} {C : Nat → Nat} {P : Nat → Pc} (h : PiA w a n A C P) (hb : Below w.heap.size w w') : PiA w' a n A C P := fun i hi => by
 obtain ⟨⟨b, off, e, hc⟩, ht⟩ := h i hi
 exact ⟨⟨b, off, e, fun q hq => (hb.cell (p := ⟨b, off + (i * 6 + q), none⟩) (block_lt_of_cell (hc q hq))).trans (hc q hq)⟩, ht.below hb⟩
noncomputable def pok (P : Nat → Pc) (c : Nat) : Bool := okP (P c).r (P c).k (P c).n (P c).i (P c).b (P c).m (P c).S
open Classical in
noncomputable def gsel (root : ByteArray) (P : Nat → Pc) : Nat → List Nat
 | 0 => []
 | c + 1 => if (P c).r = root ∧ gwB (P c).k (P c).n (P c).i (gsel root P c).length (fun j => P ((gsel root P c).getD j 0)) = true ∧ pok P c = true then gsel root P c ++ [c] else gsel root P c
theorem gsel_yes {root : ByteArray} {P : Nat → Pc} {c : Nat} (h : (P c).r = root ∧ gwB (P c).k (P c).n (P c).i (gsel root P c).length (fun j => P ((gsel root P c).getD j 0)) = true ∧ pok P c = true) : gsel root P (c + 1) = gsel root P c ++ [c] := by
 show (if _ then _ else _) = _
 rw [if_pos h]
theorem gsel_no {root : ByteArray} {P : Nat → Pc} {c : Nat} (h : ¬ ((P c).r = root ∧ gwB (P c).k (P c).n (P c).i (gsel root P c).length (fun j => P ((gsel root P c).getD j 0)) = true ∧ pok P c = true)) : gsel root P (c + 1) = gsel root P c := by
 show (if _ then _ else _) = _
 rw [if_neg h]
theorem gsel_len (root : ByteArray) (P : Nat → Pc) (c : Nat) : (gsel root P c).length ≤ c := by
 induction c with
 | zero => exact Nat.le_refl _
 | succ c ih =>
  by_cases h : (P c).r = root ∧ gwB (P c).k (P c).n (P c).i (gsel root P c).length (fun j => P ((gsel root P c).getD j 0)) = true ∧ pok P c = true
  ·rw [gsel_yes h, List.length_append]; show _ + 1 ≤ _; omega
  ·rw [gsel_no h]; omega
theorem gsel_mem {root : ByteArray} {P : Nat → Pc} {c x : Nat} (h : x ∈ gsel root P c) : x < c ∧ (P x).r = root ∧ pok P x = true := by
 induction c with
 | zero => cases h
 | succ c ih =>
  by_cases hp : (P c).r = root ∧ gwB (P c).k (P c).n (P c).i (gsel root P c).length (fun j => P ((gsel root P c).getD j 0)) = true ∧ pok P c = true
  ·rw [gsel_yes hp, List.mem_append] at h
   rcases h with h | h
   ·have := ih h; exact ⟨by omega, this.2⟩
   ·obtain rfl : x = c := by simpa using h
    exact ⟨by omega, hp.1, hp.2.2⟩
  ·rw [gsel_no hp] at h
   have := ih h; exact ⟨by omega, this.2⟩
abbrev celp (P : Nat → Pc) (A : Nat → Option Addr) (C : Nat → Nat) (x : Nat) : Nat → Value := cel (P x) (.slice (A x) (P x).m (C x))
theorem samePc_same (r : ByteArray) (k n i : Int) (b : ByteArray) (a a' : Option Addr) (m ca ca' : Nat) (S : Nat → ByteArray) (w : World) (h : TxtAt w a m S) (h' : TxtAt w a' m S) (hm : m ≤ 1048576) :
  Calls Tryz.prog 12 #[pcV r k n i b (.slice a m ca), pcV r k n i b (.slice a' m ca')] w fun e w' => e = .returned (.bool true) ∧ Below w.heap.size w w' := by
 obtain ⟨w0, HW0⟩ : ∃ x, Hid (x = (w.alloc (.cells (pcC r k n i b (.slice a m ca)) 30)).alloc (.cells (pcC r k n i b (.slice a' m ca')) 30)) := ⟨_, rfl⟩
 have hb0 : Below w.heap.size w w0 := by rw [HW0.out]; exact ((Below.refl _ _).alloc (Nat.le_refl _) _).alloc (by simp) _
 have HB0 : Hid (Below w.heap.size w w0) := hb0
 have KE : Hid _ := sameT_same a a' m ca ca' S w0 (h.below hb0) (h'.below hb0) hm
 have hf1 : (r.toList == r.toList) = true := by simp
 have hf2 := ba_beq r
 have hf3 : (b.toList == b.toList) = true := by simp
 have hf4 := ba_beq b
 have hf5 : (k == k) = true := by simp
 have hf6 : (n == n) = true := by simp
 have hf7 : (i == i) = true := by simp
 clear h h' hb0
 go_enter Tryz.func12, Tryz.ntmps12
 go_wp2_with fail
 rw [← HW0.out]
 refine Calls.mono KE.out ?_
 rintro e w1 ⟨rfl, b1⟩
 go_wp2
 go_ret
 exact ⟨rfl, below2 HB0.out b1⟩
def laidE : List (String × DataW Unit) := [("errors.errorType", Rows.laid_errors_errorType)]
theorem Tryz.et : Tryz.prog.globalNamed "errors.errorType" = some 0 := by kernel_rfl
theorem Tryz.rt0 : (Tryz.prog.cutTypes.find? (·.1 == "internal/reflectlite.rtype")).map (·.2) = some 161 := by kernel_rfl
theorem Tryz.oneRow : ((List.range 257).filter fun t => Tryz.prog.rowNamed t [101, 114, 114, 111, 114]) = [89] := by kernel_rfl
theorem Tryz.tsize : Tryz.prog.types.size = 257 := by kernel_rfl
theorem errT_of_laid {W : World} (h : laidMetH Tryz.prog laidE W) : ErrT W := by
 have h' : laidMet Tryz.prog [] W ∧ handlesMet Tryz.prog laidE W := h
 obtain ⟨name, u, ty, e1, e2, e3, e4, e5⟩ := h'.2 _ (List.mem_singleton.2 rfl)
 have en : name = [101, 114, 114, 111, 114] := (Option.some.inj e1).symm
 subst en
 obtain rfl := Option.some.inj (Tryz.rt0.symm.trans e2)
 have hm : ty ∈ (List.range 257).filter fun t => Tryz.prog.rowNamed t [101, 114, 114, 111, 114] := List.mem_filter.2 ⟨List.mem_range.2 (by rw [← Tryz.tsize]; exact e3), e4⟩
 rw [Tryz.oneRow] at hm
 obtain rfl := List.mem_singleton.1 hm
 have hh : typeHandle Tryz.prog 89 = .pointer (some ⟨1, 89, none⟩) := by kernel_rfl
 rw [hh] at e5
 have := World.var?_cell Tryz.et e5 0
 show World.cell? _ _ = _
 simpa using this
noncomputable def laidWorld (os : Os) : World :=
 let w0 := World.holding Tryz.prog os ⟨#[], #[], []⟩
 { w0 with heap := w0.heap.modify 0 fun
   | .cells _ t frozen => .cells #[.iface 161 (.agg #[.pointer (some ⟨1, 89, none⟩)])] t frozen
   | o => o }
theorem laidWorld_met (os : Os) (args : Array Value) : laidMetH Tryz.prog laidE ((laidWorld os).forCall (fun _ _ => 0) ⟨#[], args, []⟩).memory :=
 laidMetH_of_parts (laidMet_nil _ _) (by kernel_rfl)
end Go.Proofs.YtodnodekheaacaaGreatDoor
