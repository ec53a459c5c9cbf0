import Derived.Test.YtihklfkhjpnjkaaGreatDoorU29
import Derived.Test.YtihklfkhjpnjkaaGreatDoorU27
import Derived.Test.YtihklfkhjpnjkaaGreatDoorU16
import Derived.Test.YtihklfkhjpnjkaaGreatDoorU19
import Derived.Test.YtihklfkhjpnjkaaGreatDoorU25
import Derived.Test.YtihklfkhjpnjkaaGreatDoorU21
import Derived.Test.YtihklfkhjpnjkaaGreatDoorU28
set_option maxHeartbeats 8000000
set_option maxRecDepth 2000
open Go.ChangeShapes Go.WideShapes Go.ChangeAt Go.RowKit
namespace Go.Proofs.YtihklfkhjpnjkaaGreatDoor
open Gt (hf up nb pl)
theorem pfB_parts {n : Nat} {S : Nat → ByteArray} {i : Int} (h : pfB n S i = true) : lvB n S = true ∧ inT i (n : Int) = true := by
 unfold pfB at h
 rwa [Bool.and_eq_true] at h
theorem proof_any (a : Option Addr) (n cap : Nat) (S : Nat → ByteArray) (i : Int) (w : World) (h : TxtAt w a n S) (hn : n ≤ 1048576) (hL : ∀ i, i < n → (S i).size ≤ maxLen) :
  Calls Tryz.prog 73 #[.slice a n cap, .int .i64 i] w fun e w' => ∃ v, e = .returned (.tuple #[v, .bool (pfB n S i)]) ∧ ResT w w' v (pfR n S i) (pfF n S i) ∧ Below w.heap.size w w' := by
 unfold pfR
 cases hB : pfB n S i with
 | false => exact proof_no a n cap S i w h hn hL hB
 | true =>
  obtain ⟨h1, h2⟩ := pfB_parts hB
  obtain ⟨i', rfl⟩ : ∃ i' : Nat, i = (i' : Int) := ⟨i.toNat, by simp [inT] at h2; omega⟩
  exact proof_yes a n cap S i' w h h1 h2
theorem sProof_any (a : Option Addr) (n cap : Nat) (S : Nat → ByteArray) (i : Int) (w : World) (h : TxtAt w a n S) (hn : n ≤ 1048576) (hL : ∀ i, i < n → (S i).size ≤ maxLen) :
  Calls Tryz.prog 79 #[.slice a n cap, .int .i64 i] w fun e w' => ∃ v, e = .returned (.tuple #[v, .bool (pfB n S i)]) ∧ ResT w w' v (pfR n S i) (pfF n S i) ∧ Below w.heap.size w w' := by
 have hb0 : Below w.heap.size w (w.alloc (.cells #[] 9)) := (Below.refl _ _).alloc (Nat.le_refl _) _
 have KV : Hid (Calls Tryz.prog 114 #[.slice a n cap] (w.alloc (.cells #[] 9)) fun e w' => e = .returned (.bool (lvB n S)) ∧ w' = w.alloc (.cells #[] 9)) := sLeaves_any a n cap S _ (h.below hb0) hn hL
 obtain ⟨PF, HPF⟩ : ∃ PF, Hid (pfF n S i = PF) := ⟨_, rfl⟩
 have KL0 : Hid (OwnT (w.alloc (.cells #[] 9)) w.heap.size (some ⟨w.heap.size, 0, none⟩) 0 0 PF) := litT w _
 have KB0 : Hid (Below w.heap.size w (w.alloc (.cells #[] 9))) := hb0
 rw [HPF.out]
 unfold pfR
 cases hV : lvB n S with
 | false =>
  rw [hV] at KV
  have hB : pfB n S i = false := by unfold pfB; rw [hV]; rfl
  rw [hB]
  clear h hL hB hV hb0
  go_enter Tryz.func79, Tryz.ntmps79
  go_wp2_with (go_at_call 114; refine KV.out.mono ?_; rintro e w' ⟨rfl, hw⟩; obtain rfl := hw.symm)
  go_ret2
  exact ⟨_, rfl, ⟨_, _, rfl, KL0.out⟩, KB0.out⟩
 | true =>
  rw [hV] at KV
  obtain ⟨h1, h64, h16⟩ := lvB_parts hV
  have hw1 : IntKind.i64.wrap ((n : Int) - 1) = (n : Int) - 1 := by rw [IntKind.wrap_i64]; omega
  by_cases hin : 0 ≤ i ∧ i ≤ (n : Int) - 1
  ·have KI : inB i 0 ((n : Int) - 1) = true := inB_true hin
   obtain ⟨i', rfl⟩ : ∃ i' : Nat, i = (i' : Int) := ⟨i.toNat, by omega⟩
   have hB : pfB n S (i' : Int) = true := by unfold pfB; rw [hV]; simp [inT]; omega
   rw [hB, if_pos rfl]
   simp only [Int.toNat_natCast]
   obtain ⟨L, HL⟩ : ∃ L, Hid (pl i' n = L) := ⟨_, rfl⟩
   have hL6 : L ≤ 6 := by rw [← HL.out]; exact Gt.pl_le 6 _ _ (by omega)
   rw [HL.out]
   have HP0 : Hid (∀ j, Gt.pf n S i' j = PF j) := fun j => by rw [← HPF.out]; rfl
   obtain ⟨i0, hi, hz0, hz1, hz2⟩ := info_parts Tryz.infoStr
   obtain ⟨b, off, rfl, hcw⟩ := h.some (by omega)
   have lbw : b < w.heap.size := block_lt_of_cell (hcw 0 (by omega))
   obtain ⟨w1, HW1⟩ : ∃ w1, Hid (w1 = w.alloc (.cells #[] 9)) := ⟨_, rfl⟩
   rw [← HW1.out] at KV KL0 KB0
   have hs1 : Hid (w1.heap.size = w.heap.size + 1) := by show _ = _; rw [HW1.out]; simp
   have HN : Hid (∀ j u, (sL S n)[j]? = some u → (w1.alloc (.cells #[] 9)).cell? ((⟨b, off, none⟩ : Addr).add j) = some u) := sL_news (fun i hi => by
    have hb : Below w.heap.size w (w1.alloc (.cells #[] 9)) := KB0.out.alloc (by have := hs1.out; omega) _
    exact (hb.cell (p := ⟨b, off + i, none⟩) lbw).trans (hcw i hi))
   have KL : Hid (OwnT (w1.alloc (.cells #[] 9)) w1.heap.size (some ⟨w1.heap.size, 0, none⟩) 0 0 S) := litT w1 _
   have H1 : Hid (∀ u ∈ sL S n, u.oneCell' = true) := sL_one S n
   have H16 : Hid (∀ i, i < n → (S i).size = 16) := h16
   clear h hL hB hV hb0 hcw h16
   go_enter Tryz.func79, Tryz.ntmps79
   go_wp2_with fail
   rw [← HW1.out]
   go_wp2_with (first | (go_at_call 114; refine KV.out.mono ?_; rintro e w' ⟨rfl, hw⟩; obtain rfl := hw.symm) | (go_at_call 60; refine (sIn_any _ _ _ _).mono ?_; rintro e w' ⟨rfl, hw⟩; obtain rfl := hw.symm) | (at_builtin; refine wpList_append_lies _ (by rfl) _ _ 31 (by rfl) w1.heap.size 9 i0 (.string ByteArray.empty) 1 16 Tryz.underlying31 hi hz0 hz1 hz2 rfl (by decide) (.slice (some ⟨w1.heap.size, 0, none⟩) 0 0) 0 _ (by rfl) KL.out ⟨b, off, none⟩ n cap (sL S n) (by rfl) (by rw [sL_len]; omega) HN.out H1.out (by omega) (by unfold maxLen; omega) (by omega) (by simp) (w1.heap.size + 1) (by simp) ?_; intro g3 cap3 w3 hown3 hgrow3 hat3 hlt3))
   have HS0 : Hid (OwnT w3 w.heap.size (some ⟨g3, 0, none⟩) n cap3 S ∧ OwnT w3 w.heap.size (some ⟨w.heap.size, 0, none⟩) 0 0 PF ∧ Below w.heap.size w w3 ∧ g3 ≠ w.heap.size) := by
    have hz := hs1.out
    have hgr : World.grownBy (w1.alloc (.cells #[] 9)) w3 (some w1.heap.size) := hgrow3
    have hx : sL S 0 ++ sL S n = sL S n := rfl
    rw [hx, Nat.zero_add] at hown3
    refine ⟨OwnT.base hown3 (by omega), own_kept (World.ownsRow.alloc KL0.out _) hgr (fun x e => by cases e; simp; omega), (KB0.out.alloc (by omega) _).grown hgr (by simp; omega) (fun j hj => by cases hj; omega), ?_⟩
    rcases hat3 with e | e
    ·have e' : some w1.heap.size = some g3 := e; cases e'; omega
    ·omega
   clear hown3 hgrow3 hat3 hlt3 KL HN H1 KV KL0 KB0 hs1
   try simp only [Nat.zero_add]
   go_loopg [1, 6, 7] n (fun gk vi vo vr wr => ∃ (m G c p Go k co : Nat) (R O : Nat → ByteArray), m = gk ∧ p < m ∧ m ≤ 64 ∧ vi = .int .i64 (p : Int) ∧ vo = .slice (some ⟨Go, 0, none⟩) k co ∧ vr = .slice (some ⟨G, 0, none⟩) m c ∧ OwnT wr w.heap.size (some ⟨G, 0, none⟩) m c R ∧ OwnT wr w.heap.size (some ⟨Go, 0, none⟩) k co O ∧ G ≠ Go ∧ k ≤ L ∧ Hid (∀ j, j < k → O j = PF j) ∧ Hid (k + pl p m = L) ∧ Hid (∀ j, Gt.pf m R p j = PF (k + j)) ∧ Hid (∀ i, i < m → (R i).size = 16) ∧ Below w.heap.size w wr)
   case atStart => exact ⟨n, g3, cap3, i', w.heap.size, 0, 0, S, PF, rfl, by omega, h64, rfl, rfl, rfl, HS0.out.1, HS0.out.2.1, HS0.out.2.2.2, by omega, fun j hj => by omega, by show 0 + _ = _; rw [Nat.zero_add]; exact HL.out, fun j => by rw [Nat.zero_add]; exact HP0.out j, H16, HS0.out.2.2.1⟩
   case round =>
    obtain ⟨m, G, c, p, Go, k, co, R, O, rfl, hp, hm64, rfl, rfl, rfl, hoR, hoO, hGG, hkL, HO, HC, HP, HS, hbel⟩ := hrel
    clear HS0 H16 HL HP0 hin hw1
    have hsz := hbel.size
    by_cases e1 : m ≤ 1
    ·have e1' : ¬ (1 : Int) < (m : Int) := by omega
     have HE : Hid (OwnT wr w.heap.size (some ⟨Go, 0, none⟩) L co PF) := by
      have := HC.out
      rw [Gt.pl_one p e1] at this
      have hkk : k = L := by omega
      rw [← hkk]
      exact hoO.congr HO.out
     have Hk : Hid (k = L) := by
      have := HC.out
      rw [Gt.pl_one p e1] at this
      show _ = _
      omega
     clear hoR hoO
     go_wp2
     go_ret2
     exact ⟨_, rfl, ⟨_, _, by rw [← Hk.out]; rfl, HE.out⟩, hbel⟩
    ·have e1' : (1 : Int) < (m : Int) := by omega
     obtain ⟨u1, u2, u3, u4, u5, u6, u7, u8, u9⟩ := up_nums p m hp hm64
     have hlt : p / 2 < hf m ∧ hf m < m := by unfold hf; omega
     have HS2 : Hid (∀ i, i < hf m → (up m R i).size = 16) := Gt.up_size HS.out
     have HU : Hid (∀ W, TxtAt W (some ⟨G, 0, none⟩) m R → Calls Tryz.prog 115 #[.slice (some ⟨G, 0, none⟩) m c] W fun e w' => ∃ g c, e = .returned (.slice (some ⟨g, 0, none⟩) (hf m) c) ∧ OwnT w' W.heap.size (some ⟨g, 0, none⟩) (hf m) c (up m R) ∧ Below W.heap.size W w') := fun W hW => sUp_any _ m c R W hW hm64 HS.out
     by_cases hnb : nb p < m
     ·have hnb' : ((nb p : Nat) : Int) < (m : Int) := by omega
      have HC2 : Hid (k + 1 + pl (p / 2) (hf m) = L) := by have := HC.out; rw [Gt.pl_yes p e1 hnb] at this; show _ = _; omega
      have HP2 : Hid (∀ j, Gt.pf (hf m) (up m R) (p / 2) j = PF (k + 1 + j)) := fun j => by rw [← Gt.pf_tl R p j e1 hnb, HP.out, show k + (j + 1) = k + 1 + j by omega]
      have HQ : Hid (R (nb p) = PF k) := by have := HP.out 0; rw [Gt.pf_hd R p e1 hnb] at this; exact this
      have hck : k + 1 ≤ L := by have := HC2.out; omega
      obtain ⟨b', off', eq, hcc⟩ := (OwnT.at hoR).some (by omega)
      cases eq
      have cq := hcc (nb p) hnb
      simp only [Nat.zero_add] at cq
      generalize R (nb p) = x at cq HQ
      generalize nb p = q at u4 hnb' cq
      generalize p / 2 = p' at u5 u6 hlt HC2 HP2
      generalize hf m = m' at u8 u9 hlt HC2 HP2 HS2 HU
      generalize up m R = R' at HP2 HS2 HU
      have KR : Hid (OwnT wr w.heap.size (some ⟨G, 0, none⟩) m c R) := hoR
      have KO : Hid (OwnT wr w.heap.size (some ⟨Go, 0, none⟩) k co O) := hoO
      have lGo := World.ownsRow.lt hoO _ rfl
      have lG := World.ownsRow.lt hoR _ rfl
      clear hoR hoO hcc hnb HC HP HS
      go_wp2_with (at_builtin; refine wpList_append_lies _ (by rfl) _ _ 31 (by rfl) w.heap.size 9 i0 (.string ByteArray.empty) 1 16 Tryz.underlying31 hi hz0 hz1 hz2 rfl (by decide) (.slice (some ⟨Go, 0, none⟩) k co) k _ (by rfl) (World.ownsRow.alloc KO.out _) ⟨wr.heap.size, 0, none⟩ 1 1 [.string x] (by rfl) (by rfl) (World.news_of_block (cs := #[.string x]) (t := 9) (fr := (0, 0)) (heap_alloc_new wr _)) (by simp [Value.oneCell']) (by omega) (by unfold maxLen; omega) (by omega) (by simp; omega) (wr.heap.size + 1) (by simp) ?_; intro g4 cap4 w4 hown4 hgrow4 hat4 hlt4)
      have hgr : World.grownBy (wr.alloc (.cells #[.string x] 9)) w4 (some Go) := hgrow4
      have KR4 : Hid (OwnT w4 w.heap.size (some ⟨G, 0, none⟩) m c R) := own_kept (World.ownsRow.alloc KR.out _) hgr (fun y e => by cases e; exact hGG)
      have KB4 : Hid (Below w.heap.size w w4) := (hbel.alloc hsz _).grown hgr (by simp; omega) (fun j hj => by cases hj; exact lGo.1)
      have KO4 : Hid (OwnT w4 w.heap.size (some ⟨g4, 0, none⟩) (k + 1) cap4 (fun j => if j = k then x else O j)) := by
       have hx : sL (fun j => if j = k then x else O j) (k + 1) = sL O k ++ [Value.string x] := by
        rw [sL_snoc, sL_congr (S' := O) (fun i hi => by rw [if_neg (by omega)])]
        simp
       show OwnT _ _ _ _ _ _
       unfold OwnT
       rw [hx]
       exact hown4
      clear hown4 hgrow4 hat4 hgr cq KR KO
      refine (HU.out _ (OwnT.at KR4.out)).mono ?_
      rintro e w9 ⟨g9, c9, rfl, ho9, hb9⟩
      have hsz4 := KB4.out.size
      have HR9 : Hid (OwnT w9 w.heap.size (some ⟨g9, 0, none⟩) m' c9 R') := ho9.base hsz4
      have hg9 := (World.ownsRow.lt ho9 _ rfl).1
      have HO9 : Hid (OwnT w9 w.heap.size (some ⟨g4, 0, none⟩) (k + 1) cap4 (fun j => if j = k then x else O j)) := KO4.out.below hb9
      have HB9 : Hid (Below w.heap.size w w9) := KB4.out.trans (hb9.mono hsz4)
      have HQQ : Hid (∀ j, j < k + 1 → (if j = k then x else O j) = PF j) := fun j hj => by
       by_cases e : j = k
       ·rw [if_pos e, e]; exact HQ.out
       ·rw [if_neg e]; exact HO.out j (by omega)
      clear ho9 hb9
      go_wp2
      go_roundg m'
      case measure => exact hlt.2
      case rel => exact ⟨m', g9, c9, p', g4, k + 1, cap4, R', _, rfl, hlt.1, by omega, rfl, rfl, rfl, HR9.out, HO9.out, by omega, hck, HQQ, HC2, HP2, HS2, HB9.out⟩
     ·have hnb' : ¬ ((nb p : Nat) : Int) < (m : Int) := by omega
      have HC2 : Hid (k + pl (p / 2) (hf m) = L) := by have := HC.out; rw [Gt.pl_no p e1 hnb] at this; exact this
      have HP2 : Hid (∀ j, Gt.pf (hf m) (up m R) (p / 2) j = PF (k + j)) := fun j => by rw [← Gt.pf_no R p j e1 hnb, HP.out]
      generalize nb p = q at u4 hnb'
      generalize p / 2 = p' at u5 u6 hlt HC2 HP2
      generalize hf m = m' at u8 u9 hlt HC2 HP2 HS2 HU
      generalize up m R = R' at HP2 HS2 HU
      have KR : Hid (OwnT wr w.heap.size (some ⟨G, 0, none⟩) m c R) := hoR
      have KO : Hid (OwnT wr w.heap.size (some ⟨Go, 0, none⟩) k co O) := hoO
      have lGo := World.ownsRow.lt hoO _ rfl
      clear hoR hoO HC HP HS
      go_wp2_with fail
      refine (HU.out _ (OwnT.at KR.out)).mono ?_
      rintro e w9 ⟨g9, c9, rfl, ho9, hb9⟩
      have HR9 : Hid (OwnT w9 w.heap.size (some ⟨g9, 0, none⟩) m' c9 R') := ho9.base hsz
      have hg9 := (World.ownsRow.lt ho9 _ rfl).1
      have HO9 : Hid (OwnT w9 w.heap.size (some ⟨Go, 0, none⟩) k co O) := KO.out.below hb9
      have HB9 : Hid (Below w.heap.size w w9) := hbel.trans (hb9.mono hsz)
      clear ho9 hb9
      go_wp2
      go_roundg m'
      case measure => exact hlt.2
      case rel => exact ⟨m', g9, c9, p', Go, k, co, R', O, rfl, hlt.1, by omega, rfl, rfl, rfl, HR9.out, HO9.out, by omega, hkL, HO, HC2, HP2, HS2, HB9.out⟩
  ·have KI : inB i 0 ((n : Int) - 1) = false := inB_false hin
   have hB : pfB n S i = false := by unfold pfB; rw [hV]; simp [inT]; omega
   rw [hB]
   clear h hL hB hV hb0
   go_enter Tryz.func79, Tryz.ntmps79
   go_wp2_with (first | (go_at_call 114; refine KV.out.mono ?_; rintro e w' ⟨rfl, hw⟩; obtain rfl := hw.symm) | (go_at_call 60; refine (sIn_any _ _ _ _).mono ?_; rintro e w' ⟨rfl, hw⟩; obtain rfl := hw.symm))
   go_ret2
   exact ⟨_, rfl, ⟨_, _, rfl, KL0.out⟩, KB0.out⟩
end Go.Proofs.YtihklfkhjpnjkaaGreatDoor
namespace Go.Proofs.YtihklfkhjpnjkaaGreatDoor
noncomputable def lvs (k : Int) (n : Nat) (S : Nat → ByteArray) : Nat → ByteArray := fun i => plf k (n : Int) (i : Int) (S i)
theorem lvs_le (k : Int) (n : Nat) (S : Nat → ByteArray) (i : Nat) : (lvs k n S i).size ≤ 16 := plf_le _ _ _ _
theorem Tryz.infoCut : (Tryz.prog.info? 53).map (·.size) = some 4 := by kernel_rfl
theorem bind_any (k : Int) (a : Option Addr) (n cap : Nat) (S : Nat → ByteArray) (w : World) (h : TxtAt w a n S) (hn : n ≤ 64) (hS : ∀ i, i < n → (S i).size ≤ 1048576) :
  Calls Tryz.prog 31 #[.int .i64 k, .slice a n cap] w fun e w' => ∃ G, e = .returned (.agg #[.int .i64 k, .slice a n cap, .slice (some ⟨G, 0, none⟩) n n, .string (rtS n (lvs k n S))]) ∧ OwnT w' w.heap.size (some ⟨G, 0, none⟩) n n (lvs k n S) ∧ Below w.heap.size w w' := by
 obtain ⟨i0, hi, hz0, hz1, hz2⟩ := info_parts Tryz.infoStr
 obtain ⟨B, HB⟩ : ∃ x, Hid (x = w.heap.size) := ⟨_, rfl⟩
 obtain ⟨w0, HW0⟩ : ∃ x, Hid (x = w.alloc (.cells #[.int .i64 0, .slice none 0 0, .slice none 0 0, .string ⟨#[]⟩] 53)) := ⟨_, rfl⟩
 have HR0 : Hid (Row w0 B 53 #[.int .i64 0, .slice none 0 0, .slice none 0 0, .string ⟨#[]⟩]) := by show Row _ _ _ _; rw [HW0.out, HB.out]; exact Row.new w _ _
 have hb0 : Below w.heap.size w w0 := by rw [HW0.out]; exact (Below.refl _ _).alloc (Nat.le_refl _) _
 have hlt0 : B < w0.heap.size := HR0.out.lt
 have KH : Hid (TxtAt w0 a n S) := h.below hb0
 have KB0 : Hid (Below w.heap.size w w0) := hb0
 have KS : Hid (∀ i, i < n → (S i).size ≤ 1048576) := hS
 obtain ⟨L, HL⟩ : ∃ L, Hid (lvs k n S = L) := ⟨_, rfl⟩
 have HL16 : Hid (∀ i, (L i).size ≤ 16) := fun i => by rw [← HL.out]; exact lvs_le _ _ _ _
 rw [HL.out]
 clear h hb0 hS
 go_enter Tryz.func31, Tryz.ntmps31
 go_wp2_with (at_make; rw [← HW0.out, ← HB.out]; refine wpList_make_full _ rfl _ _ 31 rfl w0.heap.size 9 i0 (.string ByteArray.empty) 1 Tryz.underlying31 hi hz0 hz1 .i64 .i64 _ _ n rfl rfl rfl rfl (by rw [hz2]; omega) (by unfold maxLen; omega) (Nat.le_refl _) ?_; intro w1 hown hgrow)
 have hb1 : Below w0.heap.size w0 w1 := (Below.refl _ _).grown hgrow (Nat.le_refl _) (by simp)
 obtain ⟨G, HG⟩ : ∃ x, Hid (x = w0.heap.size) := ⟨_, rfl⟩
 have K1 : Hid (OwnT w1 w0.heap.size (some ⟨G, 0, none⟩) n n (fun i => if i < 0 then L i else ByteArray.empty)) := by
  have e : sL (fun i => if i < 0 then L i else ByteArray.empty) n = List.replicate n (Value.string ByteArray.empty) := by rw [← sL_empty]; exact sL_congr (fun i _ => by simp)
  show OwnT _ _ _ _ _ _
  unfold OwnT
  rw [e, HG.out]
  simpa [Value.cells, toList_madeCells_one] using hown
 have KB1 : Hid (Below w0.heap.size w0 w1) := hb1
 rw [← HG.out]
 clear hown hgrow hb1 hi hz0 hz1 hz2
 go_loopw [15] (fun i wr => ∃ c : Nat, c ≤ n ∧ i = .int .i64 c ∧ OwnT wr w0.heap.size (some ⟨G, 0, none⟩) n n (fun i => if i < c then L i else ByteArray.empty) ∧ Below w0.heap.size w0 wr) (fun i _ => n - (intOf i).toNat)
 case atStart => exact ⟨0, Nat.zero_le _, rfl, K1.out, KB1.out⟩
 case round =>
  obtain ⟨c, hk, rfl, hown, hbel⟩ := hrel
  clear K1 KB1
  by_cases hlt : c < n
  ·have hki : (c : Int) < (n : Int) := by omega
   obtain ⟨b1, off1, rfl, hc1⟩ := (KH.out.below hbel) c hlt
   have KC : Hid (∀ W, Calls Tryz.prog 17 #[.int .i64 k, .int .i64 (n : Int), .int .i64 (c : Int), .string (S c)] W fun e w' => e = .returned (.string (L c)) ∧ Below W.heap.size W w') := fun W => by
    have := pieceLeaf_any k (n : Int) (c : Int) (S c) W (KS.out c hlt)
    rw [← HL.out]
    exact this
   have hgl := (World.ownsRow.lt hown _ rfl).2
   obtain ⟨old, hold⟩ : ∃ v, wr.cell? ⟨G, c, none⟩ = some v := by
    rw [World.ownsRow.cellAt hown c (by omega)]
    exact ⟨_, sL_get _ _ _ hlt⟩
   have hfr := World.ownsRow.frozenAt hown c
   have KO : Hid (OwnT wr w0.heap.size (some ⟨G, 0, none⟩) n n (fun i => if i < c then L i else ByteArray.empty)) := hown
   have KB : Hid (Below w0.heap.size w0 wr) := hbel
   have hGw : w0.heap.size ≤ G := by rw [HG.out]; exact Nat.le_refl _
   clear hown hbel
   generalize S c = sc at hc1 KC
   go_wp2_with fail
   refine Calls.mono (KC.out _) ?_
   rintro e w2 ⟨rfl, hb2⟩
   have hold2 := (hb2.cell (p := ⟨G, c, none⟩) hgl).trans hold
   have hfr2 := (World.frozen?_of_block (a := ⟨G, c, none⟩) (hb2.block _ hgl)).trans hfr
   have hst := World.ownsRow.stored (OwnT.below KO.out hb2) c (.string (L c))
   rw [sL_set _ _ _ _ hlt] at hst
   have HO : Hid (OwnT (w2.setCell ⟨G, c, none⟩ (.string (L c))) w0.heap.size (some ⟨G, 0, none⟩) n n (fun i => if i < c + 1 then L i else ByteArray.empty)) := OwnT.congr hst.1 (fun i _ => by
    by_cases e : i = c
    ·simp [e]
    ·by_cases e2 : i < c
     ·simp [e, e2, show i < c + 1 by omega]
     ·simp [e, e2, show ¬ i < c + 1 by omega])
   have HB' : Hid (Below w0.heap.size w0 (w2.setCell ⟨G, c, none⟩ (.string (L c)))) := (below2 KB.out hb2).setCell hGw _
   generalize L c = sv at HO HB'
   clear hst hold hfr KC KO KB hc1
   go_wp2
   go_roundw
   case rel => exact ⟨c + 1, by omega, by go_num, HO.out, HB'.out⟩
   case measure => simp [intOf] <;> omega
  ·obtain rfl : c = n := by omega
   have HO : Hid (OwnT wr w0.heap.size (some ⟨G, 0, none⟩) c c L) := hown.congr (fun i hi => if_pos hi)
   have HBl : Hid (Below w0.heap.size w0 wr) := hbel
   have KR : Hid (Calls Tryz.prog 72 #[.slice (some ⟨G, 0, none⟩) c c] wr fun e w' => e = .returned (.tuple #[.string (rtS c L), .bool (lvB c L)]) ∧ Below wr.heap.size wr w') := root_any _ _ _ L _ (OwnT.at HO.out) (by omega) (fun i _ => by have := HL16.out i; unfold maxLen; omega)
   obtain ⟨rt, HRT⟩ : ∃ rt, Hid (rtS c L = rt) := ⟨_, rfl⟩
   rw [HRT.out] at KR
   generalize lvB c L = okr at KR
   clear hown hbel KH
   go_wp2_with fail
   refine Calls.mono KR.out ?_
   rintro e w3 ⟨rfl, hb3⟩
   have hb13 := below2 HBl.out hb3
   have HR3 : Hid (Row w3 B 53 #[.int .i64 0, .slice none 0 0, .slice none 0 0, .string ⟨#[]⟩]) := HR0.out.below hb13 hlt0
   have HO3 : Hid (OwnT w3 w0.heap.size (some ⟨G, 0, none⟩) c c L) := OwnT.below HO.out hb3
   have q0 := HR3.out.cell 0
   have q1 := HR3.out.cell 1
   have q2 := HR3.out.cell 2
   have q3 := HR3.out.cell 3
   have f0 := HR3.out.free 0
   have f1 := HR3.out.free 1
   have f2 := HR3.out.free 2
   have f3 := HR3.out.free 3
   simp at q0 q1 q2 q3
   clear HO HBl hb3 KR
   have ZR : Hid (Row ((((w3.setCell ⟨B, 0, none⟩ (.int .i64 k)).setCell ⟨B, 1, none⟩ (.slice a c cap)).setCell ⟨B, 2, none⟩ (.slice (some ⟨G, 0, none⟩) c c)).setCell ⟨B, 3, none⟩ (.string rt)) B 53 #[.int .i64 k, .slice a c cap, .slice (some ⟨G, 0, none⟩) c c, .string rt]) := (((HR3.out.set 0 _).set 1 _).set 2 _).set 3 _
   have hGB : G ≠ B := by rw [HG.out]; omega
   have hBw : w.heap.size ≤ B := by rw [HB.out]; exact Nat.le_refl _
   have KB3 : Hid (Below w.heap.size w w3) := KB0.out.trans (hb13.mono KB0.out.size)
   have set1 : ∀ (W : World) (o : Nat) (v : Value), OwnT W w0.heap.size (some ⟨G, 0, none⟩) c c L → OwnT (W.setCell ⟨B, o, none⟩ v) w0.heap.size (some ⟨G, 0, none⟩) c c L := fun W o v hW => own_kept hW (grown_set _ _ _ _) (fun x e => by cases e; exact hGB)
   have ZO : Hid (OwnT ((((w3.setCell ⟨B, 0, none⟩ (.int .i64 k)).setCell ⟨B, 1, none⟩ (.slice a c cap)).setCell ⟨B, 2, none⟩ (.slice (some ⟨G, 0, none⟩) c c)).setCell ⟨B, 3, none⟩ (.string rt)) w.heap.size (some ⟨G, 0, none⟩) c c L) := OwnT.base (set1 _ _ _ (set1 _ _ _ (set1 _ _ _ (set1 _ _ _ HO3.out)))) KB0.out.size
   clear set1 hb13
   go_wp2
   refine bodyPost_ret (v := .agg #[.int .i64 k, .slice a c cap, .slice (some ⟨G, 0, none⟩) c c, .string rt]) (results_cell_row Tryz.results31 _ _ B 53 _ (0, 0) _ (by simp) ZR.out Tryz.underlying53 (by rfl) Tryz.infoCut) rfl ⟨G, by rw [HRT.out], ZO.out, ?_⟩
   exact Below.setCell (Below.setCell (Below.setCell (Below.setCell KB3.out hBw _) hBw _) hBw _) hBw _
theorem OwnT.cap' {w : World} {B : Nat} {a : Option Addr} {n cap : Nat} {S : Nat → ByteArray} (h : OwnT w B a n cap S) : n ≤ cap ∧ cap ≤ maxLen := by
 rcases h.2 with ⟨h', h0⟩ | ⟨g, cap', cur, h', _, _, hn, hm, _⟩
 ·cases h'; exact ⟨Nat.le_refl _, Nat.zero_le _⟩
 ·cases h'; exact ⟨hn, hm⟩
theorem pv_true {m q : Nat} {S : Nat → ByteArray} (h : pfB m S (q : Int) = true) : pvB (rtS m S) (S q) (q : Int) (m : Int) (pfR m S (q : Int)) (pfF m S (q : Int)) = true := by
 obtain ⟨h1, h2⟩ := pfB_parts h
 obtain ⟨hm1, hm64, h16⟩ := lvB_parts h1
 have hq : q < m := by simp [inT] at h2; omega
 have hR : pfR m S (q : Int) = Gt.pl q m := by unfold pfR; rw [if_pos h]; simp
 have hk : (((Gt.pl q m : Nat) : Int)) = plI (q : Int) (m : Int) := by unfold plI; rw [if_pos h2]; simp
 have hF : pfF m S (q : Int) = Gt.pf m S q := rfl
 have hB : prB (S q) (q : Int) (m : Int) (Gt.pl q m) (Gt.pf m S q) = true := by
  unfold prB
  rw [Bool.and_eq_true, Bool.and_eq_true]
  exact ⟨⟨decide_eq_true (h16 q hq), decide_eq_true hk⟩, aS_yes (Gt.pf_size q hq h16)⟩
 rw [hR, hF]
 unfold pvB prS rtS
 rw [hB, if_pos rfl, if_pos h1]
 simp only [Int.toNat_natCast, Bool.true_and]
 exact decide_eq_true (Gt.pr_pf S q hq)
noncomputable def rof (s : ByteArray) (k n : Int) : ByteArray := if encOk s k n = true then rtS n.toNat (lvs k n.toNat (encS s k.toNat)) else ⟨#[]⟩
theorem encOk_parts {s : ByteArray} {k n : Int} (h : encOk s k n = true) : s.size ≤ 2000 ∧ 1 ≤ k ∧ k ≤ n ∧ n ≤ 16 := by
 unfold encOk at h
 rw [Bool.and_eq_true] at h
 exact ⟨of_decide_eq_true h.1, sprOk_parts h.2⟩
theorem encS_le {s : ByteArray} {k n : Int} (h : encOk s k n = true) (i : Nat) : (encS s k.toNat i).size ≤ 2002 := by
 obtain ⟨h1, h2, h3, h4⟩ := encOk_parts h
 rw [show (encS s k.toNat i).size = blen s.size k.toNat from txt_size _ _]
 have := blen_le (s := s.size) (k := k.toNat) (by omega)
 omega
theorem field_cut (a b c : Value) (s : ByteArray) (w : World) : (Instr.field 53 (.agg #[a, b, c, .string s]) 3).run Tryz.prog w = .ok (.string s) w := by kernel_rfl
theorem rootOf_any (s : ByteArray) (k n : Int) (w : World) (hs : s.size ≤ 1048576) :
  Calls Tryz.prog 10 #[.string s, .int .i64 k, .int .i64 n] w fun e w' => e = .returned (.string (rof s k n)) ∧ Below w.heap.size w w' := by
 have KE : Hid (Calls Tryz.prog 30 #[.string s, .int .i64 k, .int .i64 n] w fun e w' => ∃ v, e = .returned (.tuple #[v, .bool (encOk s k n)]) ∧ ResT w w' v (encR s k n) (encS s k.toNat) ∧ Below w.heap.size w w') := encode_any s k n w hs
 unfold rof
 cases hok : encOk s k n with
 | false =>
  rw [hok] at KE
  go_enter Tryz.func10, Tryz.ntmps10
  go_wp2_with fail
  refine Calls.mono KE.out ?_
  rintro e w1 ⟨v, rfl, _, b1⟩
  go_wp2
  go_ret
  exact ⟨rfl, b1⟩
 | true =>
  obtain ⟨h1, h2, h3, h4⟩ := encOk_parts hok
  have hR : encR s k n = n.toNat := by unfold encR; rw [hok]; rfl
  have hle := fun i => encS_le hok i
  rw [hok, hR] at KE
  rw [if_pos rfl]
  obtain ⟨N, rfl⟩ : ∃ N : Nat, n = (N : Int) := ⟨n.toNat, by omega⟩
  rw [Int.toNat_natCast] at KE ⊢
  generalize encS s k.toNat = S at KE hle ⊢
  clear h1 h2 h3 hok hR
  go_enter Tryz.func10, Tryz.ntmps10
  go_wp2_with fail
  refine Calls.mono KE.out ?_
  rintro e w1 ⟨v, rfl, ⟨aE, cE, rfl, O1⟩, b1⟩
  have A1 : TxtAt w1 aE N S := OwnT.at O1
  clear O1
  go_wp2_with fail
  have HBD := bind_any k aE N cE S _ A1 (by omega) (fun i _ => by have := hle i; omega)
  obtain ⟨rt, HRT⟩ : ∃ rt, Hid (rtS N (lvs k N S) = rt) := ⟨_, rfl⟩
  rw [HRT.out] at HBD
  refine Calls.mono HBD ?_
  rintro e w2 ⟨G, rfl, _, b2⟩
  have hfl := field_cut (.int .i64 k) (.slice aE N cE) (.slice (some ⟨G, 0, none⟩) N N) rt w2
  go_wp2
  go_ret
  exact ⟨by rw [HRT.out]; rfl, below2 b1 b2⟩
theorem piece_any (k : Int) (ab : Option Addr) (n cb : Nat) (S : Nat → ByteArray) (G : Nat) (L : Nat → ByteArray) (rt : ByteArray) (i : Nat) (w : World) (h : TxtAt w ab n S) (hg : TxtAt w (some ⟨G, 0, none⟩) n L) (hi : i < n) (hn : n ≤ 64) (hL : ∀ i, (L i).size ≤ 16) (hr : rt.size ≤ 1048576) :
  Calls Tryz.prog 32 #[.agg #[.int .i64 k, .slice ab n cb, .slice (some ⟨G, 0, none⟩) n n, .string rt], .int .i64 (i : Int)] w fun e w' => ∃ v, e = .returned (pcV rt k (n : Int) (i : Int) (S i) v) ∧ ResT w w' v (pfR n L (i : Int)) (pfF n L (i : Int)) ∧ Below w.heap.size w w' := by
 obtain ⟨B, HB⟩ : ∃ x, Hid (x = w.heap.size) := ⟨_, rfl⟩
 obtain ⟨w0, HW0⟩ : ∃ x, Hid (x = (w.alloc (.cells #[.int .i64 k, .slice ab n cb, .slice (some ⟨G, 0, none⟩) n n, .string rt] 53)).alloc (.cells #[.string ⟨#[]⟩, .int .i64 0, .int .i64 0, .int .i64 0, .string ⟨#[]⟩, .slice none 0 0] 33)) := ⟨_, rfl⟩
 have HR0 : Hid (Row w0 B 53 #[.int .i64 k, .slice ab n cb, .slice (some ⟨G, 0, none⟩) n n, .string rt]) := by show Row _ _ _ _; rw [HW0.out, HB.out]; exact (Row.new w _ _).alloc _
 have HP0 : Hid (Row w0 (B + 1) 33 #[.string ⟨#[]⟩, .int .i64 0, .int .i64 0, .int .i64 0, .string ⟨#[]⟩, .slice none 0 0]) := by
  show Row _ _ _ _
  rw [HW0.out, HB.out]
  have := Row.new (w.alloc (.cells #[.int .i64 k, .slice ab n cb, .slice (some ⟨G, 0, none⟩) n n, .string rt] 53)) #[.string ⟨#[]⟩, .int .i64 0, .int .i64 0, .int .i64 0, .string ⟨#[]⟩, .slice none 0 0] 33
  simpa using this
 have hb0 : Below w.heap.size w w0 := by rw [HW0.out]; exact ((Below.refl _ _).alloc (Nat.le_refl _) _).alloc (by simp) _
 have hl1 : B + 1 < w0.heap.size := HP0.out.lt
 have hBw : w.heap.size ≤ B := by rw [HB.out]; exact Nat.le_refl _
 have hs1 : Hid (w.heap.size + 1 = B + 1) := by show _ = _; rw [HB.out]
 obtain ⟨bb, ob, rfl, hcb⟩ := h i hi
 have lbb : bb < w.heap.size := block_lt_of_cell hcb
 have KP : Hid (Calls Tryz.prog 73 #[.slice (some ⟨G, 0, none⟩) n n, .int .i64 (i : Int)] w0 fun e w' => ∃ v, e = .returned (.tuple #[v, .bool (pfB n L (i : Int))]) ∧ ResT w0 w' v (pfR n L (i : Int)) (pfF n L (i : Int)) ∧ Below w0.heap.size w0 w') := proof_any _ _ _ L _ _ (hg.below hb0) (by omega) (fun i _ => by have := hL i; unfold maxLen; omega)
 have KC : Hid (∀ W, Calls Tryz.prog 74 #[.string rt] W fun e w' => e = .returned (.string rt) ∧ Below W.heap.size W w') := fun W => clone_any rt W hr
 have KB0 : Hid (Below w.heap.size w w0) := hb0
 obtain ⟨m, HM⟩ : ∃ m, Hid (pfR n L (i : Int) = m) := ⟨_, rfl⟩
 obtain ⟨F, HF⟩ : ∃ m, Hid (pfF n L (i : Int) = m) := ⟨_, rfl⟩
 rw [HM.out, HF.out] at KP
 rw [HM.out, HF.out]
 generalize pfB n L (i : Int) = okp at KP
 have c0 := HR0.out.cell 2
 simp at c0
 have hcb0 : Hid (w0.cell? ⟨bb, ob + i, none⟩ = some (.string (S i))) := (KB0.out.cell (p := ⟨bb, ob + i, none⟩) lbb).trans hcb
 have hii : (i : Int) < (n : Int) := by omega
 obtain ⟨sb, HSB⟩ : ∃ m, Hid (S i = m) := ⟨_, rfl⟩
 rw [HSB.out] at hcb0
 rw [HSB.out]
 clear h hg hb0 hcb hL
 go_enter Tryz.func32, Tryz.ntmps32
 go_wp2_with fail
 rw [← HW0.out, ← HB.out]
 refine Calls.mono KP.out ?_
 rintro e w1 ⟨v1, rfl, ⟨aP, cP, rfl, O1⟩, hb1⟩
 have HR1 : Hid (Row w1 B 53 #[.int .i64 k, .slice (some ⟨bb, ob, none⟩) n cb, .slice (some ⟨G, 0, none⟩) n n, .string rt]) := HR0.out.below hb1 HR0.out.lt
 have HP1 : Hid (Row w1 (B + 1) 33 #[.string ⟨#[]⟩, .int .i64 0, .int .i64 0, .int .i64 0, .string ⟨#[]⟩, .slice none 0 0]) := HP0.out.below hb1 hl1
 have lbb0 : bb < w0.heap.size := Nat.lt_of_lt_of_le lbb KB0.out.size
 have hcb1 := (hb1.cell (p := ⟨bb, ob + i, none⟩) lbb0).trans hcb0.out
 have lbb1 : bb < w1.heap.size := Nat.lt_of_lt_of_le lbb0 hb1.size
 have q0 := HR1.out.cell 0
 have q1 := HR1.out.cell 1
 have q3 := HR1.out.cell 3
 simp at q0 q1 q3
 have lB := HR1.out.lt
 have hne : ¬ bb = B + 1 := by have := hs1.out; omega
 have hne' : ¬ B + 1 = bb := by have := hs1.out; omega
 have lP := HP1.out.lt
 have KO1 : Hid (OwnT w1 w0.heap.size aP m cP F) := O1
 have KB1 : Hid (Below w.heap.size w w1) := KB0.out.trans (hb1.mono KB0.out.size)
 clear O1 KP c0 hcb0 hb1 KB0
 go_wp2_with fail
 go_region_held3 (fun w' => w'.cell? ⟨B, 0, none⟩ = some (.int .i64 k) ∧ w'.cell? ⟨B, 1, none⟩ = some (.slice (some ⟨bb, ob, none⟩) n cb) ∧ w'.cell? ⟨B, 3, none⟩ = some (.string rt) ∧ w'.cell? ⟨bb, ob + i, none⟩ = some (.string sb)) (go_keep) ((go_at_call 74; refine Calls.mono (KC.out _) ?_; rintro e w5 ⟨rfl, hb5'⟩; have hb5 := below_of_drew hb5'; clear hb5'; have p0 := (hb5.cell (p := ⟨B, 0, none⟩) lB).trans q0; have p1 := (hb5.cell (p := ⟨B, 1, none⟩) lB).trans q1; have p3 := (hb5.cell (p := ⟨B, 3, none⟩) lB).trans q3; have p4 := (hb5.cell (p := ⟨bb, ob + i, none⟩) lbb1).trans hcb1; have HP5 : Hid (Row w5 (B + 1) 33 #[.string ⟨#[]⟩, .int .i64 0, .int .i64 0, .int .i64 0, .string ⟨#[]⟩, .slice none 0 0]) := HP1.out.below hb5 lP; have x0 := HP5.out.cell 0; have x1 := HP5.out.cell 1; have x2 := HP5.out.cell 2; have x3 := HP5.out.cell 3; have x4 := HP5.out.cell 4; have x5 := HP5.out.cell 5; have f0 := HP5.out.free 0; have f1 := HP5.out.free 1; have f2 := HP5.out.free 2; have f3 := HP5.out.free 3; have f4 := HP5.out.free 4; have f5 := HP5.out.free 5; simp at x0 x1 x2 x3 x4 x5))
 all_goals
  have ZR : Hid (Row ((((((w5.setCell ⟨B + 1, 0, none⟩ (.string rt)).setCell ⟨B + 1, 1, none⟩ (.int .i64 k)).setCell ⟨B + 1, 2, none⟩ (.int .i64 (n : Int))).setCell ⟨B + 1, 3, none⟩ (.int .i64 (i : Int))).setCell ⟨B + 1, 4, none⟩ (.string sb)).setCell ⟨B + 1, 5, none⟩ (.slice aP m cP)) (B + 1) 33 (pcC rt k (n : Int) (i : Int) sb (.slice aP m cP))) := (((((HP5.out.set 0 _).set 1 _).set 2 _).set 3 _).set 4 _).set 5 _
  have ZO : Hid (OwnT ((((((w5.setCell ⟨B + 1, 0, none⟩ (.string rt)).setCell ⟨B + 1, 1, none⟩ (.int .i64 k)).setCell ⟨B + 1, 2, none⟩ (.int .i64 (n : Int))).setCell ⟨B + 1, 3, none⟩ (.int .i64 (i : Int))).setCell ⟨B + 1, 4, none⟩ (.string sb)).setCell ⟨B + 1, 5, none⟩ (.slice aP m cP)) w.heap.size aP m cP F) := OwnT.base (OwnT.setFar (OwnT.setFar (OwnT.setFar (OwnT.setFar (OwnT.setFar (OwnT.setFar (OwnT.below KO1.out hb5) hl1) hl1) hl1) hl1) hl1) hl1) (by have := hs1.out; omega)
  have KB5 : Hid (Below w.heap.size w w5) := KB1.out.trans (hb5.mono KB1.out.size)
  have hB1 : w.heap.size ≤ B + 1 := by omega
  clear p0 p1 p3 p4 x0 x1 x2 x3 x4 x5 f0 f1 f2 f3 f4 f5
  go_wp2
  refine bodyPost_ret (v := pcV rt k (n : Int) (i : Int) sb (.slice aP m cP)) (results_cell_row Tryz.results32 _ _ (B + 1) 33 _ (0, 0) _ (by simp) ZR.out Tryz.underlying33 (by rfl) Tryz.infoPc) rfl ⟨_, rfl, ⟨_, _, rfl, ZO.out⟩, ?_⟩
  exact Below.setCell (Below.setCell (Below.setCell (Below.setCell (Below.setCell (Below.setCell KB5.out hB1 _) hB1 _) hB1 _) hB1 _) hB1 _) hB1 _
end Go.Proofs.YtihklfkhjpnjkaaGreatDoor
