import Derived.Test.YtaenoiffamgcfaaGreatDoorM16
import Derived.Test.YtaenoiffamgcfaaGreatDoorM18
import Derived.Test.YtaenoiffamgcfaaGreatDoorM14
set_option maxHeartbeats 8000000
set_option maxRecDepth 2000
open Go.ChangeShapes Go.WideShapes Go.ChangeAt Go.RowKit
namespace Go.Proofs.YtaenoiffamgcfaaGreatDoor
open Gt (hf up rt)
theorem sL_news {w : World} {b off n : Nat} {S : Nat → ByteArray} (hc : ∀ i, i < n → w.cell? ⟨b, off + i, none⟩ = some (.string (S i))) : ∀ j u, (sL S n)[j]? = some u → w.cell? ((⟨b, off, none⟩ : Addr).add j) = some u := by
 intro j u hu
 have hj : j < n := by
  have := (List.getElem?_eq_some_iff.1 hu).1
  rwa [sL_len] at this
 rw [sL_get _ _ _ hj] at hu
 cases hu
 have ea : (⟨b, off, none⟩ : Addr).add j = ⟨b, off + j, none⟩ := by unfold Addr.add; split <;> simp_all
 rw [ea]
 exact hc j hj
theorem sL_one (S : Nat → ByteArray) (n : Nat) : ∀ u ∈ sL S n, u.oneCell' = true := by
 intro u hu
 unfold sL at hu
 simp at hu
 obtain ⟨i, _, rfl⟩ := hu
 rfl
theorem sRoot_any (a : Option Addr) (n cap : Nat) (S : Nat → ByteArray) (w : World) (h : TxtAt w a n S) (hn : n ≤ 1048576) (hL : ∀ i, i < n → (S i).size ≤ maxLen) :
  Calls Tryz.prog 110 #[.slice a n cap] w fun e w' => e = .returned (.tuple #[.string (rtS n S), .bool (lvB n S)]) ∧ Below w.heap.size w w' := by
 have KV : Hid (Calls Tryz.prog 123 #[.slice a n cap] w fun e w' => e = .returned (.bool (lvB n S)) ∧ w' = w) := sLeaves_any a n cap S w h hn hL
 unfold rtS
 cases hB : lvB n S with
 | false =>
  rw [hB] at KV
  clear h hL hB
  go_enter Tryz.func110, Tryz.ntmps110
  go_wp2_with (go_at_call 123; refine KV.out.mono ?_; rintro e w' ⟨rfl, hw⟩; obtain rfl := hw.symm)
  go_ret2
  exact ⟨rfl, Below.refl _ _⟩
 | true =>
  rw [hB] at KV
  obtain ⟨h1, h64, h16⟩ := lvB_parts hB
  obtain ⟨i0, hi, hz0, hz1, hz2⟩ := info_parts Tryz.infoStr
  obtain ⟨b, off, rfl, hcw⟩ := h.some (by omega)
  have lbw : b < w.heap.size := block_lt_of_cell (hcw 0 (by omega))
  have HN : Hid (∀ j u, (sL S n)[j]? = some u → (w.alloc (.cells #[] 9)).cell? ((⟨b, off, none⟩ : Addr).add j) = some u) := sL_news (fun i hi => by
   have hb : Below w.heap.size w (w.alloc (.cells #[] 9)) := (Below.refl _ _).alloc (Nat.le_refl _) _
   exact (hb.cell (p := ⟨b, off + i, none⟩) lbw).trans (hcw i hi))
  have KL : Hid (OwnT (w.alloc (.cells #[] 9)) w.heap.size (some ⟨w.heap.size, 0, none⟩) 0 0 S) := litT w _
  have H1 : Hid (∀ u ∈ sL S n, u.oneCell' = true) := sL_one S n
  have H16 : Hid (∀ i, i < n → (S i).size = 16) := h16
  obtain ⟨Z, HZ⟩ : ∃ Z, Hid (rt n S = Z) := ⟨_, rfl⟩
  rw [if_pos rfl, HZ.out]
  clear h hL hB hcw h16
  go_enter Tryz.func110, Tryz.ntmps110
  go_wp2_with (first | (go_at_call 123; refine KV.out.mono ?_; rintro e w' ⟨rfl, hw⟩; obtain rfl := hw.symm) | (at_builtin; refine wpList_append_all _ (by rfl) _ _ 30 (by rfl) w.heap.size 9 i0 (.string ByteArray.empty) 1 16 Tryz.underlying30 hi hz0 hz1 hz2 rfl (by decide) w.heap.size 0 0 _ (by rfl) KL.out ⟨b, off, none⟩ n cap (sL S n) (by rfl) (by rw [sL_len]; omega) HN.out H1.out (by unfold maxLen; omega) (by omega) (by simp) ?_; intro g3 cap3 w3 hown3 hgrow3))
  have HO : Hid (OwnT w3 w.heap.size (some ⟨g3, 0, none⟩) n cap3 S) := by
   have hx : sL S 0 ++ sL S n = sL S n := rfl
   rw [hx, Nat.zero_add] at hown3
   exact hown3
  have HB : Hid (Below w.heap.size w w3) := ((Below.refl _ w).alloc (Nat.le_refl _) _).grown (show World.grownBy _ w3 (some w.heap.size) from hgrow3) (by simp) (fun j hj => by cases hj; exact Nat.le_refl _)
  clear hown3 hgrow3 KL HN H1 KV
  go_loopg [4] n (fun gk v wr => ∃ (m G c : Nat) (R : Nat → ByteArray), m = gk ∧ 1 ≤ m ∧ m ≤ 64 ∧ v = .slice (some ⟨G, 0, none⟩) m c ∧ OwnT wr w.heap.size (some ⟨G, 0, none⟩) m c R ∧ Hid (∀ i, i < m → (R i).size = 16) ∧ Hid (rt m R = Z) ∧ Below w.heap.size w wr)
  case atStart => exact ⟨n, g3, cap3, S, rfl, h1, h64, rfl, HO.out, H16, HZ, HB.out⟩
  case round =>
   obtain ⟨m, G, c, R, rfl, hm1, hm64, rfl, hown, HS, HR, hbel⟩ := hrel
   clear HO HB H16 HZ
   by_cases e1 : m ≤ 1
   ·have e1' : ¬ (1 : Int) < (m : Int) := by omega
    have hc0 := (OwnT.at hown).some (by omega)
    obtain ⟨b', off', eq, hcc⟩ := hc0
    cases eq
    have c0 := hcc 0 (by omega)
    have HE : Hid (R 0 = Z) := by have := HR.out; rw [Gt.rt_one _ e1] at this; exact this
    have hm0 : 0 < m := by omega
    simp only [Nat.add_zero] at c0
    clear hown hcc
    generalize R 0 = r0 at c0 HE
    go_wp2
    go_ret2
    exact ⟨by rw [← HE.out]; rfl, hbel⟩
   ·have e1' : (1 : Int) < (m : Int) := by omega
    have KU : Hid (Calls Tryz.prog 132 #[.slice (some ⟨G, 0, none⟩) m c] wr fun e w' => ∃ g c, e = .returned (.slice (some ⟨g, 0, none⟩) (hf m) c) ∧ OwnT w' wr.heap.size (some ⟨g, 0, none⟩) (hf m) c (up m R) ∧ Below wr.heap.size wr w') := sUp_any _ m c R wr (OwnT.at hown) hm64 HS.out
    have HS2 : Hid (∀ i, i < hf m → (up m R i).size = 16) := Gt.up_size HS.out
    have HR2 : Hid (rt (hf m) (up m R) = Z) := by have := HR.out; rw [Gt.rt_more _ e1] at this; exact this
    have hlt : 1 ≤ hf m ∧ hf m < m := by unfold hf; omega
    generalize hf m = m' at *
    generalize up m R = R' at *
    clear hown
    go_wp2_with fail
    refine KU.out.mono ?_
    rintro e w9 ⟨g9, c9, rfl, ho9, hb9⟩
    have HO9 : Hid (OwnT w9 w.heap.size (some ⟨g9, 0, none⟩) m' c9 R') := ho9.base hbel.size
    have HB9 : Hid (Below w.heap.size w w9) := hbel.trans (hb9.mono hbel.size)
    clear ho9 hb9
    go_wp2
    go_roundg m'
    case measure => exact hlt.2
    case rel => exact ⟨m', g9, c9, R', rfl, hlt.1, by omega, rfl, HO9.out, HS2, HR2, HB9.out⟩
end Go.Proofs.YtaenoiffamgcfaaGreatDoor
namespace Go.Proofs.YtaenoiffamgcfaaGreatDoor
open Gt (hf up nb pl)
theorem pfB_parts {n : Nat} {S : Nat → ByteArray} {i : Int} (h : pfB n S i = true) : lvB n S = true ∧ inT i (n : Int) = true := by
 unfold pfB at h
 rwa [Bool.and_eq_true] at h
theorem pfR_le (n : Nat) (S : Nat → ByteArray) (i : Int) : pfR n S i ≤ 16 := by
 unfold pfR
 by_cases h : pfB n S i = true
 ·rw [if_pos h]
  have h64 := (lvB_parts (pfB_parts h).1).2.1
  have := Gt.pl_le 6 i.toNat n (by omega)
  omega
 ·rw [if_neg h]; omega
theorem sProof_any (a : Option Addr) (n cap : Nat) (S : Nat → ByteArray) (i : Int) (w : World) (h : TxtAt w a n S) (hn : n ≤ 1048576) (hL : ∀ i, i < n → (S i).size ≤ maxLen) :
  Calls Tryz.prog 111 #[.slice a n cap, .int .i64 i] w fun e w' => ∃ v, e = .returned (.tuple #[v, .bool (pfB n S i)]) ∧ ResT w w' v (pfR n S i) (pfF n S i) ∧ Below w.heap.size w w' := by
 have hb0 : Below w.heap.size w (w.alloc (.cells #[] 9)) := (Below.refl _ _).alloc (Nat.le_refl _) _
 have KV : Hid (Calls Tryz.prog 123 #[.slice a n cap] (w.alloc (.cells #[] 9)) fun e w' => e = .returned (.bool (lvB n S)) ∧ w' = w.alloc (.cells #[] 9)) := sLeaves_any a n cap S _ (h.below hb0) hn hL
 obtain ⟨PF, HPF⟩ : ∃ PF, Hid (pfF n S i = PF) := ⟨_, rfl⟩
 have KL0 : Hid (OwnT (w.alloc (.cells #[] 9)) w.heap.size (some ⟨w.heap.size, 0, none⟩) 0 0 PF) := litT w _
 have KB0 : Hid (Below w.heap.size w (w.alloc (.cells #[] 9))) := hb0
 rw [HPF.out]
 unfold pfR
 cases hV : lvB n S with
 | false =>
  rw [hV] at KV
  have hB : pfB n S i = false := by unfold pfB; rw [hV]; rfl
  rw [hB]
  clear h hL hB hV hb0
  go_enter Tryz.func111, Tryz.ntmps111
  go_wp2_with (go_at_call 123; refine KV.out.mono ?_; rintro e w' ⟨rfl, hw⟩; obtain rfl := hw.symm)
  go_ret2
  exact ⟨_, rfl, ⟨_, _, rfl, KL0.out⟩, KB0.out⟩
 | true =>
  rw [hV] at KV
  obtain ⟨h1, h64, h16⟩ := lvB_parts hV
  have hw1 : IntKind.i64.wrap ((n : Int) - 1) = (n : Int) - 1 := by rw [IntKind.wrap_i64]; omega
  by_cases hin : 0 ≤ i ∧ i ≤ (n : Int) - 1
  ·have KI : inB i 0 ((n : Int) - 1) = true := inB_true hin
   obtain ⟨i', rfl⟩ : ∃ i' : Nat, i = (i' : Int) := ⟨i.toNat, by omega⟩
   have hB : pfB n S (i' : Int) = true := by unfold pfB; rw [hV]; simp [inT]; omega
   rw [hB, if_pos rfl]
   simp only [Int.toNat_natCast]
   obtain ⟨L, HL⟩ : ∃ L, Hid (pl i' n = L) := ⟨_, rfl⟩
   have hL6 : L ≤ 6 := by rw [← HL.out]; exact Gt.pl_le 6 _ _ (by omega)
   rw [HL.out]
   have HP0 : Hid (∀ j, Gt.pf n S i' j = PF j) := fun j => by rw [← HPF.out]; rfl
   obtain ⟨i0, hi, hz0, hz1, hz2⟩ := info_parts Tryz.infoStr
   obtain ⟨b, off, rfl, hcw⟩ := h.some (by omega)
   have lbw : b < w.heap.size := block_lt_of_cell (hcw 0 (by omega))
   obtain ⟨w1, HW1⟩ : ∃ w1, Hid (w1 = w.alloc (.cells #[] 9)) := ⟨_, rfl⟩
   rw [← HW1.out] at KV KL0 KB0
   have hs1 : Hid (w1.heap.size = w.heap.size + 1) := by show _ = _; rw [HW1.out]; simp
   have HN : Hid (∀ j u, (sL S n)[j]? = some u → (w1.alloc (.cells #[] 9)).cell? ((⟨b, off, none⟩ : Addr).add j) = some u) := sL_news (fun i hi => by
    have hb : Below w.heap.size w (w1.alloc (.cells #[] 9)) := KB0.out.alloc (by have := hs1.out; omega) _
    exact (hb.cell (p := ⟨b, off + i, none⟩) lbw).trans (hcw i hi))
   have KL : Hid (OwnT (w1.alloc (.cells #[] 9)) w1.heap.size (some ⟨w1.heap.size, 0, none⟩) 0 0 S) := litT w1 _
   have H1 : Hid (∀ u ∈ sL S n, u.oneCell' = true) := sL_one S n
   have H16 : Hid (∀ i, i < n → (S i).size = 16) := h16
   clear h hL hB hV hb0 hcw h16
   go_enter Tryz.func111, Tryz.ntmps111
   go_wp2_with fail
   rw [← HW1.out]
   go_wp2_with (first | (go_at_call 123; refine KV.out.mono ?_; rintro e w' ⟨rfl, hw⟩; obtain rfl := hw.symm) | (go_at_call 63; refine (sIn_any _ _ _ _).mono ?_; rintro e w' ⟨rfl, hw⟩; obtain rfl := hw.symm) | (at_builtin; refine wpList_append_lies _ (by rfl) _ _ 30 (by rfl) w1.heap.size 9 i0 (.string ByteArray.empty) 1 16 Tryz.underlying30 hi hz0 hz1 hz2 rfl (by decide) (.slice (some ⟨w1.heap.size, 0, none⟩) 0 0) 0 _ (by rfl) KL.out ⟨b, off, none⟩ n cap (sL S n) (by rfl) (by rw [sL_len]; omega) HN.out H1.out (by omega) (by unfold maxLen; omega) (by omega) (by simp) (w1.heap.size + 1) (by simp) ?_; intro g3 cap3 w3 hown3 hgrow3 hat3 hlt3))
   have HS0 : Hid (OwnT w3 w.heap.size (some ⟨g3, 0, none⟩) n cap3 S ∧ OwnT w3 w.heap.size (some ⟨w.heap.size, 0, none⟩) 0 0 PF ∧ Below w.heap.size w w3 ∧ g3 ≠ w.heap.size) := by
    have hz := hs1.out
    have hgr : World.grownBy (w1.alloc (.cells #[] 9)) w3 (some w1.heap.size) := hgrow3
    have hx : sL S 0 ++ sL S n = sL S n := rfl
    rw [hx, Nat.zero_add] at hown3
    refine ⟨OwnT.base hown3 (by omega), own_kept (World.ownsRow.alloc KL0.out _) hgr (fun x e => by cases e; simp; omega), (KB0.out.alloc (by omega) _).grown hgr (by simp; omega) (fun j hj => by cases hj; omega), ?_⟩
    rcases hat3 with e | e
    ·have e' : some w1.heap.size = some g3 := e; cases e'; omega
    ·omega
   clear hown3 hgrow3 hat3 hlt3 KL HN H1 KV KL0 KB0 hs1
   try simp only [Nat.zero_add]
   go_loopg [1, 6, 7] n (fun gk vi vo vr wr => ∃ (m G c p Go k co : Nat) (R O : Nat → ByteArray), m = gk ∧ p < m ∧ m ≤ 64 ∧ vi = .int .i64 (p : Int) ∧ vo = .slice (some ⟨Go, 0, none⟩) k co ∧ vr = .slice (some ⟨G, 0, none⟩) m c ∧ OwnT wr w.heap.size (some ⟨G, 0, none⟩) m c R ∧ OwnT wr w.heap.size (some ⟨Go, 0, none⟩) k co O ∧ G ≠ Go ∧ k ≤ L ∧ Hid (∀ j, j < k → O j = PF j) ∧ Hid (k + pl p m = L) ∧ Hid (∀ j, Gt.pf m R p j = PF (k + j)) ∧ Hid (∀ i, i < m → (R i).size = 16) ∧ Below w.heap.size w wr)
   case atStart => exact ⟨n, g3, cap3, i', w.heap.size, 0, 0, S, PF, rfl, by omega, h64, rfl, rfl, rfl, HS0.out.1, HS0.out.2.1, HS0.out.2.2.2, by omega, fun j hj => by omega, by show 0 + _ = _; rw [Nat.zero_add]; exact HL.out, fun j => by rw [Nat.zero_add]; exact HP0.out j, H16, HS0.out.2.2.1⟩
   case round =>
    obtain ⟨m, G, c, p, Go, k, co, R, O, rfl, hp, hm64, rfl, rfl, rfl, hoR, hoO, hGG, hkL, HO, HC, HP, HS, hbel⟩ := hrel
    clear HS0 H16 HL HP0 hin hw1
    have hsz := hbel.size
    by_cases e1 : m ≤ 1
    ·have e1' : ¬ (1 : Int) < (m : Int) := by omega
     have HE : Hid (OwnT wr w.heap.size (some ⟨Go, 0, none⟩) L co PF) := by
      have := HC.out
      rw [Gt.pl_one p e1] at this
      have hkk : k = L := by omega
      rw [← hkk]
      exact hoO.congr HO.out
     have Hk : Hid (k = L) := by
      have := HC.out
      rw [Gt.pl_one p e1] at this
      show _ = _
      omega
     clear hoR hoO
     go_wp2
     go_ret2
     exact ⟨_, rfl, ⟨_, _, by rw [← Hk.out]; rfl, HE.out⟩, hbel⟩
    ·have e1' : (1 : Int) < (m : Int) := by omega
     obtain ⟨u1, u2, u3, u4, u5, u6, u7, u8, u9⟩ := up_nums p m hp hm64
     have hlt : p / 2 < hf m ∧ hf m < m := by unfold hf; omega
     have HS2 : Hid (∀ i, i < hf m → (up m R i).size = 16) := Gt.up_size HS.out
     have HU : Hid (∀ W, TxtAt W (some ⟨G, 0, none⟩) m R → Calls Tryz.prog 132 #[.slice (some ⟨G, 0, none⟩) m c] W fun e w' => ∃ g c, e = .returned (.slice (some ⟨g, 0, none⟩) (hf m) c) ∧ OwnT w' W.heap.size (some ⟨g, 0, none⟩) (hf m) c (up m R) ∧ Below W.heap.size W w') := fun W hW => sUp_any _ m c R W hW hm64 HS.out
     by_cases hnb : nb p < m
     ·have hnb' : ((nb p : Nat) : Int) < (m : Int) := by omega
      have HC2 : Hid (k + 1 + pl (p / 2) (hf m) = L) := by have := HC.out; rw [Gt.pl_yes p e1 hnb] at this; show _ = _; omega
      have HP2 : Hid (∀ j, Gt.pf (hf m) (up m R) (p / 2) j = PF (k + 1 + j)) := fun j => by rw [← Gt.pf_tl R p j e1 hnb, HP.out, show k + (j + 1) = k + 1 + j by omega]
      have HQ : Hid (R (nb p) = PF k) := by have := HP.out 0; rw [Gt.pf_hd R p e1 hnb] at this; exact this
      have hck : k + 1 ≤ L := by have := HC2.out; omega
      obtain ⟨b', off', eq, hcc⟩ := (OwnT.at hoR).some (by omega)
      cases eq
      have cq := hcc (nb p) hnb
      simp only [Nat.zero_add] at cq
      generalize R (nb p) = x at cq HQ
      generalize nb p = q at u4 hnb' cq
      generalize p / 2 = p' at u5 u6 hlt HC2 HP2
      generalize hf m = m' at u8 u9 hlt HC2 HP2 HS2 HU
      generalize up m R = R' at HP2 HS2 HU
      have KR : Hid (OwnT wr w.heap.size (some ⟨G, 0, none⟩) m c R) := hoR
      have KO : Hid (OwnT wr w.heap.size (some ⟨Go, 0, none⟩) k co O) := hoO
      have lGo := World.ownsRow.lt hoO _ rfl
      have lG := World.ownsRow.lt hoR _ rfl
      clear hoR hoO hcc hnb HC HP HS
      go_wp2_with (at_builtin; refine wpList_append_lies _ (by rfl) _ _ 30 (by rfl) w.heap.size 9 i0 (.string ByteArray.empty) 1 16 Tryz.underlying30 hi hz0 hz1 hz2 rfl (by decide) (.slice (some ⟨Go, 0, none⟩) k co) k _ (by rfl) (World.ownsRow.alloc KO.out _) ⟨wr.heap.size, 0, none⟩ 1 1 [.string x] (by rfl) (by rfl) (World.news_of_block (cs := #[.string x]) (t := 9) (fr := (0, 0)) (heap_alloc_new wr _)) (by simp [Value.oneCell']) (by omega) (by unfold maxLen; omega) (by omega) (by simp; omega) (wr.heap.size + 1) (by simp) ?_; intro g4 cap4 w4 hown4 hgrow4 hat4 hlt4)
      have hgr : World.grownBy (wr.alloc (.cells #[.string x] 9)) w4 (some Go) := hgrow4
      have KR4 : Hid (OwnT w4 w.heap.size (some ⟨G, 0, none⟩) m c R) := own_kept (World.ownsRow.alloc KR.out _) hgr (fun y e => by cases e; exact hGG)
      have KB4 : Hid (Below w.heap.size w w4) := (hbel.alloc hsz _).grown hgr (by simp; omega) (fun j hj => by cases hj; exact lGo.1)
      have KO4 : Hid (OwnT w4 w.heap.size (some ⟨g4, 0, none⟩) (k + 1) cap4 (fun j => if j = k then x else O j)) := by
       have hx : sL (fun j => if j = k then x else O j) (k + 1) = sL O k ++ [Value.string x] := by
        rw [sL_snoc, sL_congr (S' := O) (fun i hi => by rw [if_neg (by omega)])]
        simp
       show OwnT _ _ _ _ _ _
       unfold OwnT
       rw [hx]
       exact hown4
      clear hown4 hgrow4 hat4 hgr cq KR KO
      refine (HU.out _ (OwnT.at KR4.out)).mono ?_
      rintro e w9 ⟨g9, c9, rfl, ho9, hb9⟩
      have hsz4 := KB4.out.size
      have HR9 : Hid (OwnT w9 w.heap.size (some ⟨g9, 0, none⟩) m' c9 R') := ho9.base hsz4
      have hg9 := (World.ownsRow.lt ho9 _ rfl).1
      have HO9 : Hid (OwnT w9 w.heap.size (some ⟨g4, 0, none⟩) (k + 1) cap4 (fun j => if j = k then x else O j)) := KO4.out.below hb9
      have HB9 : Hid (Below w.heap.size w w9) := KB4.out.trans (hb9.mono hsz4)
      have HQQ : Hid (∀ j, j < k + 1 → (if j = k then x else O j) = PF j) := fun j hj => by
       by_cases e : j = k
       ·rw [if_pos e, e]; exact HQ.out
       ·rw [if_neg e]; exact HO.out j (by omega)
      clear ho9 hb9
      go_wp2
      go_roundg m'
      case measure => exact hlt.2
      case rel => exact ⟨m', g9, c9, p', g4, k + 1, cap4, R', _, rfl, hlt.1, by omega, rfl, rfl, rfl, HR9.out, HO9.out, by omega, hck, HQQ, HC2, HP2, HS2, HB9.out⟩
     ·have hnb' : ¬ ((nb p : Nat) : Int) < (m : Int) := by omega
      have HC2 : Hid (k + pl (p / 2) (hf m) = L) := by have := HC.out; rw [Gt.pl_no p e1 hnb] at this; exact this
      have HP2 : Hid (∀ j, Gt.pf (hf m) (up m R) (p / 2) j = PF (k + j)) := fun j => by rw [← Gt.pf_no R p j e1 hnb, HP.out]
      generalize nb p = q at u4 hnb'
      generalize p / 2 = p' at u5 u6 hlt HC2 HP2
      generalize hf m = m' at u8 u9 hlt HC2 HP2 HS2 HU
      generalize up m R = R' at HP2 HS2 HU
      have KR : Hid (OwnT wr w.heap.size (some ⟨G, 0, none⟩) m c R) := hoR
      have KO : Hid (OwnT wr w.heap.size (some ⟨Go, 0, none⟩) k co O) := hoO
      have lGo := World.ownsRow.lt hoO _ rfl
      clear hoR hoO HC HP HS
      go_wp2_with fail
      refine (HU.out _ (OwnT.at KR.out)).mono ?_
      rintro e w9 ⟨g9, c9, rfl, ho9, hb9⟩
      have HR9 : Hid (OwnT w9 w.heap.size (some ⟨g9, 0, none⟩) m' c9 R') := ho9.base hsz
      have hg9 := (World.ownsRow.lt ho9 _ rfl).1
      have HO9 : Hid (OwnT w9 w.heap.size (some ⟨Go, 0, none⟩) k co O) := KO.out.below hb9
      have HB9 : Hid (Below w.heap.size w w9) := hbel.trans (hb9.mono hsz)
      clear ho9 hb9
      go_wp2
      go_roundg m'
      case measure => exact hlt.2
      case rel => exact ⟨m', g9, c9, p', Go, k, co, R', O, rfl, hlt.1, by omega, rfl, rfl, rfl, HR9.out, HO9.out, by omega, hkL, HO, HC2, HP2, HS2, HB9.out⟩
  ·have KI : inB i 0 ((n : Int) - 1) = false := inB_false hin
   have hB : pfB n S i = false := by unfold pfB; rw [hV]; simp [inT]; omega
   rw [hB]
   clear h hL hB hV hb0
   go_enter Tryz.func111, Tryz.ntmps111
   go_wp2_with (first | (go_at_call 123; refine KV.out.mono ?_; rintro e w' ⟨rfl, hw⟩; obtain rfl := hw.symm) | (go_at_call 63; refine (sIn_any _ _ _ _).mono ?_; rintro e w' ⟨rfl, hw⟩; obtain rfl := hw.symm))
   go_ret2
   exact ⟨_, rfl, ⟨_, _, rfl, KL0.out⟩, KB0.out⟩
end Go.Proofs.YtaenoiffamgcfaaGreatDoor
namespace Go.Proofs.YtaenoiffamgcfaaGreatDoor
theorem grownB {w w' : World} (g : Nat) (hb : Below w.heap.size w w') : w.grownBy w' (some g) := ⟨hb.os, hb.tape, hb.output, hb.size, fun j hj _ => hb.block j hj⟩
theorem OwnT.keptG {w w' : World} {B g : Nat} {a : Option Addr} {n c : Nat} {S : Nat → ByteArray} (h : OwnT w B a n c S) (hg : w.grownBy w' (some g)) (hB : g < B) : OwnT w' B a n c S :=
 own_kept h hg (fun x e => by subst e; have := (World.ownsRow.lt h x.block rfl).1; omega)
theorem pickT_any (Pz : ByteArray → Prop) (g n cap : Nat) (a : Option Addr) (lb off m lc : Nat) (w : World) (hc : Cur w g a n cap) (hm : 0 < m) (hm2 : m ≤ 256) (hl : lb ≠ g)
  (hcell : ∀ i, i < m → ∃ t : ByteArray, Pz t ∧ w.cell? ⟨lb, off + i, none⟩ = some (.string t)) :
  Calls Tryz.prog 28 #[.pointer (some ⟨g, 0, none⟩), .slice (some ⟨lb, off, none⟩) m lc] w fun e w' => ∃ t : ByteArray, Pz t ∧ e = .returned (.string t) ∧ w.grownBy w' (some g) ∧ Cur w' g a n cap := by
 go_enter Tryz.func28, Tryz.ntmps28
 go_wp2_with fail
 refine (belowN_any g n cap a _ _ hc).mono ?_
 rintro e w1 ⟨x, x0, x1, _, rfl, hg, hc1⟩
 have x2 := x1 (by omega)
 obtain ⟨k, rfl⟩ := Int.eq_ofNat_of_zero_le x0
 obtain ⟨t, ht, hz⟩ := hcell k (by omega)
 have hz1 := hg.cell hz (by simpa using hl)
 have HT : Hid (Pz t) := ht
 clear hcell hz x1 ht
 go_wp2
 go_ret
 exact ⟨t, HT.out, rfl, hg, hc1⟩
noncomputable def lvs (k : Int) (n : Nat) (S : Nat → ByteArray) : Nat → ByteArray := fun i => plf k (n : Int) (i : Int) (S i)
theorem lvs_le (k : Int) (n : Nat) (S : Nat → ByteArray) (i : Nat) : (lvs k n S i).size ≤ 16 := plf_le _ _ _ _
theorem encOk_parts {s : ByteArray} {k n : Int} (h : encOk s k n = true) : s.size ≤ 2000 ∧ 1 ≤ k ∧ k ≤ n ∧ n ≤ 16 := by
 unfold encOk at h
 rw [Bool.and_eq_true] at h
 exact ⟨of_decide_eq_true h.1, sprOk_parts h.2⟩
theorem encS_le {s : ByteArray} {k n : Int} (h : encOk s k n = true) (i : Nat) : (encS s k.toNat i).size ≤ 2002 := by
 obtain ⟨h1, h2, h3, h4⟩ := encOk_parts h
 rw [show (encS s k.toNat i).size = blen s.size k.toNat from txt_size _ _]
 have := blen_le (s := s.size) (k := k.toNat) (by omega)
 omega
end Go.Proofs.YtaenoiffamgcfaaGreatDoor
