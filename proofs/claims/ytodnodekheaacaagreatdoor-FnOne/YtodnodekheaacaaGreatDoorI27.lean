import Derived.Test.YtodnodekheaacaaGreatDoorI23
import Derived.Test.YtodnodekheaacaaGreatDoorI24
import Derived.Test.YtodnodekheaacaaGreatDoorI7
set_option maxHeartbeats 8000000
set_option maxRecDepth 2000
open Go.ChangeShapes Go.WideShapes Go.ChangeAt Go.RowKit
namespace Go.Proofs.YtodnodekheaacaaGreatDoor
def Evn (nb : Nat) (S : Nat → ByteArray) (k : Int) : Prop := (nb : Int) = k ∧ ∀ i, i < nb → (S i).size ≠ 0 ∧ (S i).size = (S 0).size
noncomputable def evn (nb : Nat) (S : Nat → ByteArray) (k : Int) : Bool := @decide (Evn nb S k) (Classical.propDecidable _)
theorem evn_yes {nb : Nat} {S : Nat → ByteArray} {k : Int} (h : Evn nb S k) : evn nb S k = true := by unfold evn; exact @decide_eq_true _ (Classical.propDecidable _) h
theorem evn_no {nb : Nat} {S : Nat → ByteArray} {k : Int} (h : ¬ Evn nb S k) : evn nb S k = false := by unfold evn; exact @decide_eq_false _ (Classical.propDecidable _) h
def Rgt (k n : Int) (zs : List Int) (nb : Nat) (S : Nat → ByteArray) : Prop :=
 sprOk k n = true ∧ (zs.length : Int) = k ∧ (nb : Int) = k ∧ (S 0).size ≠ 0 ∧ ∀ i, i < nb → (0 ≤ zs.getD i 0 ∧ zs.getD i 0 < n) ∧ (S i).size = (S 0).size ∧ ∀ j, j < i → zs.getD j 0 ≠ zs.getD i 0
noncomputable def rgt (k n : Int) (zs : List Int) (nb : Nat) (S : Nat → ByteArray) : Bool := @decide (Rgt k n zs nb S) (Classical.propDecidable _)
theorem rgt_yes {k n : Int} {zs : List Int} {nb : Nat} {S : Nat → ByteArray} (h : Rgt k n zs nb S) : rgt k n zs nb S = true := by unfold rgt; exact @decide_eq_true _ (Classical.propDecidable _) h
theorem rgt_no {k n : Int} {zs : List Int} {nb : Nat} {S : Nat → ByteArray} (h : ¬ Rgt k n zs nb S) : rgt k n zs nb S = false := by unfold rgt; exact @decide_eq_false _ (Classical.propDecidable _) h
theorem areEven_any (a : Option Addr) (nb c : Nat) (S : Nat → ByteArray) (k : Int) (w : World) (h : TxtAt w a nb S) (hn : nb ≤ 1048576) :
  Calls Tryz.prog 35 #[.slice a nb c, .int .i64 k] w fun e w' => e = .returned (.bool (evn nb S k)) ∧ w' = w := by
 by_cases hk : (nb : Int) = k
 case neg =>
  have HE : Hid (evn nb S k = false) := evn_no (fun h => hk h.1)
  have hk' : ((nb : Int) != k) = true := by simpa using hk
  clear hk h
  go_enter Tryz.func35, Tryz.ntmps35
  go_wp2
  go_ret
  exact ⟨ret_bool HE.out.symm, rfl⟩
 have hk' : ((nb : Int) != k) = false := by simpa using hk
 have KH : Hid (TxtAt w a nb S) := h
 have KK : Hid ((nb : Int) = k) := hk
 clear h hk
 go_enter Tryz.func35, Tryz.ntmps35
 go_wp2
 go_loop [13] (fun i => ∃ q : Nat, q ≤ nb ∧ i = .int .i64 (q : Int) ∧ Hid (∀ i, i < q → (S i).size ≠ 0 ∧ (S i).size = (S 0).size)) (fun i => nb - (intOf i).toNat)
 case atStart => exact ⟨0, Nat.zero_le _, rfl, fun i hi => absurd hi (by omega)⟩
 case round =>
  obtain ⟨q, hq, rfl, HG⟩ := hrel
  clear hk'
  by_cases hlt : q < nb
  ·have hqi : (q : Int) < (nb : Int) := by omega
   have hn0 : (0 : Int) < (nb : Int) := by omega
   obtain ⟨b, off, rfl, hcs⟩ := KH.out.some (by omega)
   have hc := hcs q hlt
   have hc0 := hcs 0 (by omega)
   rw [Nat.add_zero] at hc0
   obtain ⟨s, hs⟩ : ∃ s, S q = s := ⟨_, rfl⟩
   obtain ⟨s0, hs0⟩ : ∃ s, S 0 = s := ⟨_, rfl⟩
   rw [hs] at hc
   rw [hs0] at hc0
   have KS : Hid (S q = s) := hs
   have KS0 : Hid (S 0 = s0) := hs0
   clear hs hs0 hcs
   by_cases h1 : s.size = 0
   ·have h1' : ((s.size : Int) == 0) = true := by simp [h1]
    have HE : Hid (evn nb S k = false) := evn_no (fun h => by have := (h.2 q hlt).1; rw [KS.out] at this; omega)
    clear HG h1
    go_wp2
    go_ret
    exact ⟨ret_bool HE.out.symm, rfl⟩
   ·have h1' : ((s.size : Int) == 0) = false := by rw [beq_eq_false_iff_ne]; omega
    by_cases h2 : s.size = s0.size
    ·have h2' : ((s.size : Int) != (s0.size : Int)) = false := by simp [h2]
     have HG2 : Hid (∀ i, i < q + 1 → (S i).size ≠ 0 ∧ (S i).size = (S 0).size) := fun i hi => by
      by_cases e : i = q
      ·subst e
       rw [KS.out, KS0.out]
       exact ⟨h1, h2⟩
      ·exact HG.out i (by omega)
     clear HG h1 h2
     go_wp2
     go_round
     case rel => exact ⟨q + 1, by omega, by go_num, HG2.out⟩
     case measure => simp [intOf] <;> omega
    ·have h2' : ((s.size : Int) != (s0.size : Int)) = true := by simp; omega
     have HE : Hid (evn nb S k = false) := evn_no (fun h => by have := (h.2 q hlt).2; rw [KS.out, KS0.out] at this; omega)
     clear HG h1 h2
     go_wp2
     go_ret
     exact ⟨ret_bool HE.out.symm, rfl⟩
  ·obtain rfl : q = nb := by omega
   have HE : Hid (evn q S k = true) := evn_yes ⟨KK.out, HG.out⟩
   clear HG KH
   go_wp2
   go_ret
   exact ⟨ret_bool HE.out.symm, rfl⟩
set_option maxRecDepth 100000 in
theorem sRight_any (k n : Int) (pa : Option Addr) (np pc : Nat) (zs : List Int) (a : Option Addr) (nb c : Nat) (S : Nat → ByteArray) (w : World) (hz : IntsAt w pa np zs) (h : TxtAt w a nb S) :
  Calls Tryz.prog 62 #[.int .i64 k, .int .i64 n, .slice pa np pc, .slice a nb c] w fun e w' => e = .returned (.bool (rgt k n zs nb S)) ∧ Below w.heap.size w w' := by
 have hlen := hz.1
 have KLE : Hid (zs.length = np) := hlen
 have hS4 := fun w => s4Ok_any k n w
 by_cases hok : sprOk k n = true
 case neg =>
  have HE : Hid (rgt k n zs nb S = false) := rgt_no (fun h => hok h.1)
  have hok' : sprOk k n = false := by simpa using hok
  rw [hok'] at hS4
  clear hok hok' h hz hlen
  go_enter Tryz.func62, Tryz.ntmps62
  go_wp2_with (go_at_call 42; refine (hS4 _).mono ?_; rintro e w' ⟨rfl, hw⟩; obtain rfl := hw.symm)
  go_ret
  exact ⟨ret_bool HE.out.symm, Below.refl _ _⟩
 obtain ⟨q1, q2, q3⟩ := sprOk_parts hok
 have KOK : Hid (sprOk k n = true) := hok
 rw [hok] at hS4
 clear hok
 obtain ⟨K, rfl⟩ := Int.eq_ofNat_of_zero_le (show 0 ≤ k by omega)
 obtain ⟨M, rfl⟩ := Int.eq_ofNat_of_zero_le (show 0 ≤ n by omega)
 by_cases e1 : np = K
 case neg =>
  have HE : Hid (rgt (K : Int) (M : Int) zs nb S = false) := rgt_no (fun h => by have := h.2.1; omega)
  have e1' : ((np : Int) != (K : Int)) = true := by simp; omega
  clear h hz hlen e1
  go_enter Tryz.func62, Tryz.ntmps62
  go_wp2_with (go_at_call 42; refine (hS4 _).mono ?_; rintro e w' ⟨rfl, hw⟩; obtain rfl := hw.symm)
  go_ret
  exact ⟨ret_bool HE.out.symm, Below.refl _ _⟩
 have e1' : ((np : Int) != (K : Int)) = false := by simp; omega
 by_cases e2 : nb = K
 case neg =>
  have HE : Hid (rgt (K : Int) (M : Int) zs nb S = false) := rgt_no (fun h => by have := h.2.2.1; omega)
  have e2' : ((nb : Int) != (K : Int)) = true := by simp; omega
  clear h hz hlen e1 e2
  go_enter Tryz.func62, Tryz.ntmps62
  go_wp2_with (go_at_call 42; refine (hS4 _).mono ?_; rintro e w' ⟨rfl, hw⟩; obtain rfl := hw.symm)
  go_ret
  exact ⟨ret_bool HE.out.symm, Below.refl _ _⟩
 have e2' : ((nb : Int) != (K : Int)) = false := by simp; omega
 subst e1
 subst e2
 obtain ⟨b, off, rfl, hcs⟩ := h.some (by omega)
 obtain ⟨pb, poff, rfl, _⟩ := hz.2 0 (by omega)
 have hzs : ∀ i, i < nb → w.cell? ⟨pb, poff + i, none⟩ = some (.int .i64 (zs.getD i 0)) := fun i hi => by
  obtain ⟨b', off', e, hc⟩ := hz.2 i hi
  cases e
  exact hc
 have hc0 := hcs 0 (by omega)
 rw [Nat.add_zero] at hc0
 have hn0 : (0 : Int) < (nb : Int) := by omega
 have KC : Hid (∀ i, i < nb → w.cell? ⟨b, off + i, none⟩ = some (.string (S i))) := hcs
 have KZ : Hid (∀ i, i < nb → w.cell? ⟨pb, poff + i, none⟩ = some (.int .i64 (zs.getD i 0))) := hzs
 obtain ⟨s0, hs0⟩ : ∃ s, S 0 = s := ⟨_, rfl⟩
 rw [hs0] at hc0
 have KS0 : Hid (S 0 = s0) := hs0
 clear hs0 hcs hzs h hz hlen
 by_cases h1 : s0.size = 0
 case pos =>
  have h1' : ((s0.size : Int) == 0) = true := by simp [h1]
  have HE : Hid (rgt (nb : Int) (M : Int) zs nb S = false) := rgt_no (fun h => by have := h.2.2.2.1; rw [KS0.out] at this; omega)
  clear h1
  go_enter Tryz.func62, Tryz.ntmps62
  go_wp2_with (go_at_call 42; refine (hS4 _).mono ?_; rintro e w' ⟨rfl, hw⟩; obtain rfl := hw.symm)
  go_ret
  exact ⟨ret_bool HE.out.symm, Below.refl _ _⟩
 have h1' : ((s0.size : Int) == 0) = false := by rw [beq_eq_false_iff_ne]; omega
 have KH1 : Hid (s0.size ≠ 0) := h1
 obtain ⟨m1, hm1⟩ : ∃ m1, M - 1 = m1 := ⟨_, rfl⟩
 have hwm : IntKind.i64.wrap ((M : Int) - 1) = (m1 : Int) := by rw [IntKind.wrap_i64]; omega
 have KM1 : Hid ((M : Int) = (m1 : Int) + 1) := by show _ = _; omega
 clear h1 hm1
 go_enter Tryz.func62, Tryz.ntmps62
 go_wp2_with (go_at_call 42; refine (hS4 _).mono ?_; rintro e w' ⟨rfl, hw⟩; obtain rfl := hw.symm)
 clear h1' e1' e2' hS4
 go_loopw [9] (fun i wr => ∃ q : Nat, q ≤ nb ∧ i = .int .i64 (q : Int) ∧ Hid (∀ i, i < q → (0 ≤ zs.getD i 0 ∧ zs.getD i 0 < (M : Int)) ∧ (S i).size = (S 0).size ∧ ∀ j, j < i → zs.getD j 0 ≠ zs.getD i 0) ∧ Below w.heap.size w wr) (fun i _ => nb - (intOf i).toNat)
 case atStart => exact ⟨0, Nat.zero_le _, rfl, fun i hi => absurd hi (by omega), Below.refl _ _⟩
 case round =>
  obtain ⟨q, hq, rfl, HG, hbel⟩ := hrel
  by_cases hlt : q < nb
  ·have hqi : (q : Int) < (nb : Int) := by omega
   have hcq := (hbel.cell (p := ⟨b, off + q, none⟩) (block_lt_of_cell (KC.out q hlt))).trans (KC.out q hlt)
   have hcz := (hbel.cell (p := ⟨pb, poff + q, none⟩) (block_lt_of_cell (KZ.out q hlt))).trans (KZ.out q hlt)
   have hc0r := (hbel.cell (p := ⟨b, off, none⟩) (block_lt_of_cell hc0)).trans hc0
   obtain ⟨s, hs⟩ : ∃ s, S q = s := ⟨_, rfl⟩
   obtain ⟨z, hz⟩ : ∃ z, zs.getD q 0 = z := ⟨_, rfl⟩
   rw [hs] at hcq
   rw [hz] at hcz
   have KS : Hid (S q = s) := hs
   have KZQ : Hid (zs.getD q 0 = z) := hz
   clear hs hz
   by_cases hin : 0 ≤ z ∧ z < (M : Int)
   case neg =>
    have hin' : inB z 0 (m1 : Int) = false := by have := KM1.out; unfold inB; simp; omega
    have HE : Hid (rgt (nb : Int) (M : Int) zs nb S = false) := rgt_no (fun h => by have := (h.2.2.2.2 q hlt).1; rw [KZQ.out] at this; exact hin this)
    clear hin HG
    go_wp2_with fail
    go_quiet ((go_at_call 41; exact Calls.quiet_of_same (sIn_any _ _ _ _)))
    go_wp2
    go_ret
    exact ⟨ret_bool HE.out.symm, below_drewN hbel _⟩
   have hin' : inB z 0 (m1 : Int) = true := by have := KM1.out; unfold inB; simp; omega
   have KIN : Hid (0 ≤ z ∧ z < (M : Int)) := hin
   clear hin
   by_cases h2 : s.size = s0.size
   case neg =>
    have h2' : ((s.size : Int) != (s0.size : Int)) = true := by simp; omega
    have HE : Hid (rgt (nb : Int) (M : Int) zs nb S = false) := rgt_no (fun h => by have := (h.2.2.2.2 q hlt).2.1; rw [KS.out, KS0.out] at this; omega)
    clear h2 HG
    go_wp2_with fail
    go_quiet ((go_at_call 41; exact Calls.quiet_of_same (sIn_any _ _ _ _)))
    go_wp2
    go_ret
    exact ⟨ret_bool HE.out.symm, below_drewN hbel _⟩
   have h2' : ((s.size : Int) != (s0.size : Int)) = false := by simp; omega
   have KH2 : Hid (s.size = s0.size) := h2
   clear h2
   go_wp2_with fail
   go_quiet ((go_at_call 41; exact Calls.quiet_of_same (sIn_any _ _ _ _)))
   go_wp2
   clear hcq hcz hc0r hin' h2'
   go_loopw [10] (fun i wr => ∃ p : Nat, p ≤ q ∧ i = .int .i64 (p : Int) ∧ Hid (∀ j, j < p → zs.getD j 0 ≠ zs.getD q 0) ∧ Below w.heap.size w wr) (fun i _ => q - (intOf i).toNat)
   case atStart => exact ⟨0, Nat.zero_le _, rfl, fun i hi => absurd hi (by omega), below_drewN hbel _⟩
   case round =>
    obtain ⟨p, hp, rfl, HP, hbel2⟩ := hrel
    by_cases hpq : p < q
    ·have hpi : (p : Int) < (q : Int) := by omega
     have hpn : (p : Int) < (nb : Int) := by omega
     have hcz := (hbel2.cell (p := ⟨pb, poff + q, none⟩) (block_lt_of_cell (KZ.out q hlt))).trans (KZ.out q hlt)
     have hcp := (hbel2.cell (p := ⟨pb, poff + p, none⟩) (block_lt_of_cell (KZ.out p (by omega)))).trans (KZ.out p (by omega))
     obtain ⟨y, hy⟩ : ∃ y, zs.getD p 0 = y := ⟨_, rfl⟩
     rw [KZQ.out] at hcz
     rw [hy] at hcp
     have KY : Hid (zs.getD p 0 = y) := hy
     clear hy
     by_cases he : y = z
     ·have he' : (y == z) = true := by simp [he]
      have HE : Hid (rgt (nb : Int) (M : Int) zs nb S = false) := rgt_no (fun h => by have := (h.2.2.2.2 q hlt).2.2 p hpq; rw [KZQ.out, KY.out] at this; exact this he)
      clear he HG HP
      go_wp2_with fail
      go_quiet (fail)
      go_wp2
      go_ret
      exact ⟨ret_bool HE.out.symm, below_drewN hbel2 _⟩
     ·have he' : (y == z) = false := by simp [he]
      have HP2 : Hid (∀ j, j < p + 1 → zs.getD j 0 ≠ zs.getD q 0) := fun j hj => by
       by_cases e : j = p
       ·subst e
        rw [KZQ.out, KY.out]
        exact he
       ·exact HP.out j (by omega)
      clear he HP
      go_wp2_with fail
      go_quiet (fail)
      go_wp2
      go_roundw
      case rel => exact ⟨p + 1, by omega, by go_num, HP2.out, below_drewN hbel2 _⟩
      case measure => simp [intOf] <;> omega
    ·obtain rfl : p = q := by omega
     have HG2 : Hid (∀ i, i < p + 1 → (0 ≤ zs.getD i 0 ∧ zs.getD i 0 < (M : Int)) ∧ (S i).size = (S 0).size ∧ ∀ j, j < i → zs.getD j 0 ≠ zs.getD i 0) := fun i hi => by
      by_cases e : i = p
      ·subst e
       refine ⟨?_, ?_, HP.out⟩
       ·rw [KZQ.out]; exact KIN.out
       ·rw [KS.out, KS0.out]; exact KH2.out
      ·exact HG.out i (by omega)
     clear HG HP
     go_wp2
     go_roundw
     case rel => exact ⟨p + 1, by omega, by go_num, HG2.out, hbel2⟩
     case measure => simp [intOf] <;> omega
  ·obtain rfl : q = nb := by omega
   have HE : Hid (rgt (q : Int) (M : Int) zs q S = true) := rgt_yes ⟨KOK.out, by rw [KLE.out], rfl, by rw [KS0.out]; exact KH1.out, HG.out⟩
   clear HG
   go_wp2
   go_ret
   exact ⟨ret_bool HE.out.symm, hbel⟩
def pkM (n k : Nat) (zs : List Int) : Nat → Nat → Nat := pkF (bZ n (fun _ => k) (fun i j => ((Gm.sprd k i j : Nat) : Int))) zs
noncomputable def bkM (n k : Nat) (zs : List Int) : Nat → Nat → Nat := Gm.iv (bZ k (fun _ => k) (fun i j => ((pkM n k zs i j : Nat) : Int))) k
theorem bkM_byt (n k : Nat) (zs : List Int) : Gm.Byt (bkM n k zs) := Gm.iv_byt (bZ_byt _ _ _) k
theorem Rgt.diff {k n : Nat} {zs : List Int} {nb : Nat} {S : Nat → ByteArray} (h : Rgt (k : Int) (n : Int) zs nb S) : Diff n zs := by
 obtain ⟨_, h2, h3, _, h5⟩ := h
 refine ⟨?_, fun x hx => ?_⟩
 ·unfold List.Nodup
  rw [List.pairwise_iff_getElem]
  intro i j hi hj hij
  have := (h5 j (by omega)).2.2 i hij
  simpa [List.getD, hi, hj] using this
 ·obtain ⟨i, hi, rfl⟩ := List.getElem_of_mem hx
  have := (h5 i (by omega)).1
  simpa [List.getD, hi] using this
theorem open_iff {k n : Nat} {zs : List Int} {nb : Nat} {S : Nat → ByteArray} (hok : sprOk (k : Int) (n : Int) = true) :
  (Evn nb S (k : Int) ∧ pkOk n (fun _ => k) (fun i j => ((Gm.sprd k i j : Nat) : Int)) zs = true ∧ InvOk (pkR n (fun _ => k) (fun i j => ((Gm.sprd k i j : Nat) : Int)) zs) (fun _ => k) (fun i j => ((pkM n k zs i j : Nat) : Int))) ↔ Rgt (k : Int) (n : Int) zs nb S := by
 obtain ⟨q1, q2, q3⟩ := sprOk_parts hok
 constructor
 ·rintro ⟨⟨hE1, hE2⟩, hp, hi⟩
  have hR : pkR n (fun _ => k) (fun i j => ((Gm.sprd k i j : Nat) : Int)) zs = zs.length := by unfold pkR; rw [if_pos hp]
  have hpl : Places n zs := Classical.byContradiction fun hno => by
   rw [pkOk_no (fun h => hno h.2)] at hp
   exact absurd hp (by simp)
  rw [hR] at hi
  obtain ⟨ok, hl, hr⟩ := hi
  have hl' : zs.length = k := hl
  refine ⟨hok, by omega, hE1, (hE2 0 (by omega)).1, fun i hi => ⟨?_, (hE2 i hi).2, fun j hj he => ?_⟩⟩
  ·exact hpl.2.2 i (by omega)
  ·rw [hl'] at hr
   have hA := bZ_byt k (fun _ => k) (fun i j => ((pkM n k zs i j : Nat) : Int))
   have d1 := (Gm.iv_both hA hr i i (by omega) (by omega)).1
   have d2 := (Gm.iv_both hA hr j i (by omega) (by omega)).1
   have hB : Gm.Byt (pkM n k zs) := fun a b => by unfold pkM pkF; exact bZ_byt _ _ _ _ _
   have e : Gm.mp k (bZ k (fun _ => k) (fun i j => ((pkM n k zs i j : Nat) : Int))) (Gm.iv (bZ k (fun _ => k) (fun i j => ((pkM n k zs i j : Nat) : Int))) k) i i = Gm.mp k (bZ k (fun _ => k) (fun i j => ((pkM n k zs i j : Nat) : Int))) (Gm.iv (bZ k (fun _ => k) (fun i j => ((pkM n k zs i j : Nat) : Int))) k) j i := by
    unfold Gm.mp
    refine Gm.sm_congr (fun t ht => ?_)
    rw [bZ_at (show i < k by omega) ht (hB i t), bZ_at (show j < k by omega) ht (hB j t)]
    unfold pkM pkF
    rw [he]
   rw [d1, d2] at e
   unfold Gm.dl at e
   rw [if_pos rfl, if_neg (by omega)] at e
   omega
 ·intro h
  obtain ⟨e1, e2, io, _⟩ := spread_pick h.diff (by have := h.2.1; omega) (show 1 ≤ k by omega) (by omega) (by omega)
  obtain ⟨_, h2, h3, h4, h5⟩ := h
  refine ⟨⟨h3, fun i hi => ⟨by rw [(h5 i hi).2.1]; exact h4, (h5 i hi).2.1⟩⟩, e1, ?_⟩
  rw [e2]
  exact io
set_option maxRecDepth 100000 in
theorem opened_any (k n : Int) (pa : Option Addr) (np pc : Nat) (zs : List Int) (a : Option Addr) (nb c : Nat) (S : Nat → ByteArray) (w : World) (hz : IntsAt w pa np zs) (h : TxtAt w a nb S) (hnp : np ≤ 1048576) (hnb : nb ≤ 1048576) :
  Calls Tryz.prog 60 #[.int .i64 k, .int .i64 n, .slice pa np pc, .slice a nb c] w fun e w' => ∃ v u, e = .returned (.tuple #[v, u, .bool (rgt k n zs nb S)]) ∧ (Rgt k n zs nb S → (∃ x y, v = .slice x n.toNat y ∧ MatAt w' x n.toNat (fun _ => k.toNat) (fun i j => ((Gm.sprd k.toNat i j : Nat) : Int))) ∧ ∃ x y, u = .slice x k.toNat y ∧ MatAt w' x k.toNat (fun _ => k.toNat) (fun i j => ((bkM n.toNat k.toNat zs i j : Nat) : Int))) ∧ Below w.heap.size w w' := by
 have KSP : Hid _ := spread_any k n w
 by_cases hok : sprOk k n = true
 case neg =>
  have hno : ¬ Rgt k n zs nb S := fun h => hok h.1
  have HE : Hid (rgt k n zs nb S = false) := rgt_no hno
  have KNO : Hid (¬ Rgt k n zs nb S) := hno
  have hok' : sprOk k n = false := by simpa using hok
  rw [hok'] at KSP
  clear hok hok' h hz hno
  go_enter Tryz.func60, Tryz.ntmps60
  go_wp2_with fail
  refine Calls.mono KSP.out ?_
  rintro e w1 ⟨v, rfl, _, hb1⟩
  go_wp2
  go_ret3
  exact ⟨_, _, by rw [HE.out] <;> rfl, fun h => absurd h KNO.out, hb1⟩
 obtain ⟨q1, q2, q3⟩ := sprOk_parts hok
 obtain ⟨K, rfl⟩ := Int.eq_ofNat_of_zero_le (show 0 ≤ k by omega)
 obtain ⟨M, rfl⟩ := Int.eq_ofNat_of_zero_le (show 0 ≤ n by omega)
 have hR : sprR (K : Int) (M : Int) = M := by unfold sprR; rw [if_pos hok]; simp
 rw [hok, hR, Int.toNat_natCast] at KSP
 rw [Int.toNat_natCast, Int.toNat_natCast]
 have KOI : Hid _ := open_iff (zs := zs) (nb := nb) (S := S) hok
 have KZ : Hid (IntsAt w pa np zs) := hz
 have KH : Hid (TxtAt w a nb S) := h
 have hEv := fun w (h : TxtAt w a nb S) => areEven_any a nb c S (K : Int) w h hnb
 clear hR hok h hz
 by_cases hev : Evn nb S (K : Int)
 case neg =>
  have hno : ¬ Rgt (K : Int) (M : Int) zs nb S := fun h => hev (KOI.out.2 h).1
  have HE : Hid (rgt (K : Int) (M : Int) zs nb S = false) := rgt_no hno
  have KNO : Hid (¬ Rgt (K : Int) (M : Int) zs nb S) := hno
  rw [evn_no hev] at hEv
  clear hno hev
  go_enter Tryz.func60, Tryz.ntmps60
  go_wp2_with fail
  refine Calls.mono KSP.out ?_
  rintro e w1 ⟨v, rfl, _, hb1⟩
  have KH1 : Hid (TxtAt w1 a nb S) := KH.out.below hb1
  go_wp2_with (go_at_call 35; refine (hEv _ KH1.out).mono ?_; rintro e w' ⟨rfl, hw⟩; obtain rfl := hw.symm)
  go_ret3
  exact ⟨_, _, by rw [HE.out] <;> rfl, fun h => absurd h KNO.out, hb1⟩
 rw [evn_yes hev] at hEv
 by_cases hpk : pkOk M (fun _ => K) (fun i j => ((Gm.sprd K i j : Nat) : Int)) zs = true
 case neg =>
  have hno : ¬ Rgt (K : Int) (M : Int) zs nb S := fun h => hpk (KOI.out.2 h).2.1
  have HE : Hid (rgt (K : Int) (M : Int) zs nb S = false) := rgt_no hno
  have KNO : Hid (¬ Rgt (K : Int) (M : Int) zs nb S) := hno
  have hpk' : pkOk M (fun _ => K) (fun i j => ((Gm.sprd K i j : Nat) : Int)) zs = false := by simpa using hpk
  have KPK : Hid (∀ am cm w, MatAt w am M (fun _ => K) (fun i j => ((Gm.sprd K i j : Nat) : Int)) → IntsAt w pa np zs → Calls Tryz.prog 98 #[.slice am M cm, .slice pa np pc] w fun e w' => ∃ v, e = .returned (.tuple #[v, .bool false]) ∧ Below w.heap.size w w') := fun am cm w hm hz => by
   have := pickM_any am M cm (fun _ => K) (fun i j => ((Gm.sprd K i j : Nat) : Int)) pa np pc zs w hm hz (fun i _ => by omega) hnp
   rw [hpk'] at this
   refine Calls.mono this ?_
   rintro e w' ⟨v, he, _, hb⟩
   exact ⟨v, he, hb⟩
  clear hno hev hpk hpk'
  go_enter Tryz.func60, Tryz.ntmps60
  go_wp2_with fail
  refine Calls.mono KSP.out ?_
  rintro e w1 ⟨v, rfl, RM, hb1⟩
  obtain ⟨am, cm, rfl, MM⟩ := RM.at
  have KMM : Hid (MatAt w1 am M (fun _ => K) (fun i j => ((Gm.sprd K i j : Nat) : Int))) := MM
  have KH1 : Hid (TxtAt w1 a nb S) := KH.out.below hb1
  have KZ1 : Hid (IntsAt w1 pa np zs) := KZ.out.below hb1
  clear MM RM
  go_wp2_with (go_at_call 35; refine (hEv _ KH1.out).mono ?_; rintro e w' ⟨rfl, hw⟩; obtain rfl := hw.symm)
  refine Calls.mono (KPK.out _ _ _ KMM.out KZ1.out) ?_
  rintro e w2 ⟨v2, rfl, hb2⟩
  go_wp2
  go_ret3
  exact ⟨_, _, by rw [HE.out] <;> rfl, fun h => absurd h KNO.out, below2 hb1 hb2⟩
 have hpR : pkR M (fun _ => K) (fun i j => ((Gm.sprd K i j : Nat) : Int)) zs = np := by unfold pkR; rw [if_pos hpk]; exact KZ.out.1
 have KPK : Hid (∀ am cm w, MatAt w am M (fun _ => K) (fun i j => ((Gm.sprd K i j : Nat) : Int)) → IntsAt w pa np zs → Calls Tryz.prog 98 #[.slice am M cm, .slice pa np pc] w fun e w' => ∃ v, e = .returned (.tuple #[v, .bool true]) ∧ ResM w w' v np K (pkM M K zs) ∧ Below w.heap.size w w') := fun am cm w hm hz => by
  have := pickM_any am M cm (fun _ => K) (fun i j => ((Gm.sprd K i j : Nat) : Int)) pa np pc zs w hm hz (fun i _ => by omega) hnp
  rw [hpk, hpR] at this
  exact this
 have KIV : Hid (∀ x y w, MatAt w x np (fun _ => K) (fun i j => ((pkM M K zs i j : Nat) : Int)) → Calls Tryz.prog 99 #[.slice x np y] w fun e w' => ∃ v, e = .returned (.tuple #[v, .bool (rgt (K : Int) (M : Int) zs nb S)]) ∧ (Rgt (K : Int) (M : Int) zs nb S → ∃ x y, v = .slice x K y ∧ MatAt w' x K (fun _ => K) (fun i j => ((bkM M K zs i j : Nat) : Int))) ∧ Below w.heap.size w w') := fun x y w hm => by
  have := inv_any' x np y (fun _ => K) (fun i j => ((pkM M K zs i j : Nat) : Int)) w hm (fun i _ => by omega)
  by_cases hi : InvOk np (fun _ => K) (fun i j => ((pkM M K zs i j : Nat) : Int))
  ·have hr : Rgt (K : Int) (M : Int) zs nb S := KOI.out.1 ⟨hev, hpk, by rw [hpR]; exact hi⟩
   have hnK : np = K := hi.2.1
   rw [ivOk_yes hi, ivR_yes hi] at this
   rw [rgt_yes hr]
   refine Calls.mono this ?_
   rintro e w' ⟨v, he, RM, hb⟩
   refine ⟨v, he, fun _ => ?_, hb⟩
   subst hnK
   exact RM.at
  ·have hr : ¬ Rgt (K : Int) (M : Int) zs nb S := fun h => hi (by have := (KOI.out.2 h).2.2; rw [hpR] at this; exact this)
   rw [ivOk_no hi] at this
   rw [rgt_no hr]
   refine Calls.mono this ?_
   rintro e w' ⟨v, he, _, hb⟩
   exact ⟨v, he, fun h => absurd h hr, hb⟩
 generalize rgt (K : Int) (M : Int) zs nb S = ob at KIV
 clear hpk hpR hev KOI
 go_enter Tryz.func60, Tryz.ntmps60
 go_wp2_with fail
 refine Calls.mono KSP.out ?_
 rintro e w1 ⟨v, rfl, RM, hb1⟩
 obtain ⟨am, cm, rfl, MM⟩ := RM.at
 have KMM : Hid (MatAt w1 am M (fun _ => K) (fun i j => ((Gm.sprd K i j : Nat) : Int))) := MM
 have KH1 : Hid (TxtAt w1 a nb S) := KH.out.below hb1
 have KZ1 : Hid (IntsAt w1 pa np zs) := KZ.out.below hb1
 clear MM RM
 go_wp2_with (go_at_call 35; refine (hEv _ KH1.out).mono ?_; rintro e w' ⟨rfl, hw⟩; obtain rfl := hw.symm)
 refine Calls.mono (KPK.out _ _ _ KMM.out KZ1.out) ?_
 rintro e w2 ⟨v2, rfl, RP, hb2⟩
 obtain ⟨ap, cp, rfl, MP⟩ := RP.at
 have KMP : Hid (MatAt w2 ap np (fun _ => K) (fun i j => ((pkM M K zs i j : Nat) : Int))) := MP
 have KM2 : Hid (MatAt w2 am M (fun _ => K) (fun i j => ((Gm.sprd K i j : Nat) : Int))) := KMM.out.below hb2
 clear MP RP KMM
 go_wp2_with fail
 refine Calls.mono (KIV.out _ _ _ KMP.out) ?_
 rintro e w3 ⟨v3, rfl, hv3, hb3⟩
 have KV3 : Hid (Rgt (K : Int) (M : Int) zs nb S → ∃ x y, v3 = .slice x K y ∧ MatAt w3 x K (fun _ => K) (fun i j => ((bkM M K zs i j : Nat) : Int))) := hv3
 have KM3 : Hid (MatAt w3 am M (fun _ => K) (fun i j => ((Gm.sprd K i j : Nat) : Int))) := KM2.out.below hb3
 clear hv3 KM2 KMP
 go_wp2
 go_ret3
 exact ⟨_, _, rfl, fun h => ⟨⟨_, _, rfl, KM3.out⟩, KV3.out h⟩, below2 (below2 hb1 hb2) hb3⟩
noncomputable def bdM (n k : Nat) (zs : List Int) : Nat → Nat → Nat := Gm.mp k (Gm.sprd k) (bkM n k zs)
noncomputable def bdR (k n : Int) (zs : List Int) (nb : Nat) (S : Nat → ByteArray) : Nat := if rgt k n zs nb S = true then n.toNat else 0
noncomputable def bdS (k n : Int) (zs : List Int) (S : Nat → ByteArray) (i : Nat) : ByteArray := bod k.toNat (bdM n.toNat k.toNat zs) (fun i p => tat (S i) p) (S 0).size i
noncomputable def fsS (k n : Int) (zs : List Int) (S : Nat → ByteArray) (i : Nat) : ByteArray := bod k.toNat (bkM n.toNat k.toNat zs) (fun i p => tat (S i) p) (S 0).size i
theorem bd_fs (k n : Int) (zs : List Int) (S : Nat → ByteArray) (i : Nat) : bod k.toNat (Gm.sprd k.toNat) (fun i p => tat (fsS k n zs S i) p) (S 0).size i = bdS k n zs S i := by
 unfold bdS bdM
 refine txt_congr (fun p hp => ?_)
 rw [Gm.mp_assoc]
 exact Gm.mp_congr (fun _ _ => rfl) (fun t _ => tat_bod hp)
set_option maxRecDepth 100000 in
theorem bodies_any (k n : Int) (pa : Option Addr) (np pc : Nat) (zs : List Int) (a : Option Addr) (nb c : Nat) (S : Nat → ByteArray) (w : World) (hz : IntsAt w pa np zs) (h : TxtAt w a nb S) (hnp : np ≤ 1048576) (hnb : nb ≤ 1048576) (hl : 0 < nb → (S 0).size ≤ 1048576) :
  Calls Tryz.prog 59 #[.int .i64 k, .int .i64 n, .slice pa np pc, .slice a nb c] w fun e w' => ∃ v, e = .returned (.tuple #[v, .bool (rgt k n zs nb S)]) ∧ ResT w w' v (bdR k n zs nb S) (bdS k n zs S) ∧ Below w.heap.size w w' := by
 have KOP : Hid _ := opened_any k n pa np pc zs a nb c S w hz h hnp hnb
 by_cases hr : Rgt k n zs nb S
 case neg =>
  rw [show bdR k n zs nb S = 0 from by unfold bdR; rw [rgt_no hr]; rfl]
  rw [rgt_no hr] at KOP ⊢
  clear hr h hz
  go_enter Tryz.func59, Tryz.ntmps59
  go_wp2_with fail
  refine Calls.mono KOP.out ?_
  rintro e w1 ⟨v, u, rfl, _, hb1⟩
  go_wp2
  go_ret2
  exact ⟨_, rfl, ResT.none _ _ _, hb1⟩
 obtain ⟨g1, g2, g3, g4, g5⟩ := hr
 obtain ⟨q1, q2, q3⟩ := sprOk_parts g1
 have hr : Rgt k n zs nb S := ⟨g1, g2, g3, g4, g5⟩
 rw [show bdR k n zs nb S = n.toNat from by unfold bdR; rw [rgt_yes hr]; rfl]
 rw [rgt_yes hr] at KOP ⊢
 obtain ⟨K, rfl⟩ := Int.eq_ofNat_of_zero_le (show 0 ≤ k by omega)
 obtain ⟨M, rfl⟩ := Int.eq_ofNat_of_zero_le (show 0 ≤ n by omega)
 obtain rfl : nb = K := by omega
 have KRG : Hid (Rgt (nb : Int) (M : Int) zs nb S) := hr
 rw [Int.toNat_natCast, Int.toNat_natCast] at KOP
 have KE : Hid (∀ i, bod nb (Gm.mp nb (bZ M (fun _ => nb) (fun i j => ((Gm.sprd nb i j : Nat) : Int))) (bZ nb (fun _ => nb) (fun i j => ((bkM M nb zs i j : Nat) : Int)))) (fun i p => tat (S i) p) (S 0).size i = bod nb (Gm.mp nb (bZ M (fun _ => nb) (fun i j => ((Gm.sprd nb i j : Nat) : Int))) (bZ nb (fun _ => nb) (fun i j => ((bkM M nb zs i j : Nat) : Int)))) (fun i p => tat (S i) p) (S 0).size i) := fun _ => rfl
 have hmu : MulOk M (fun _ => nb) (fun i j => ((Gm.sprd nb i j : Nat) : Int)) nb (fun _ => nb) (fun i j => ((bkM M nb zs i j : Nat) : Int)) :=
  ⟨okM_of (by omega) (by omega) (by omega) (by omega) (Gm.sprd_byt nb), okM_of (by omega) (by omega) (by omega) (by omega) (bkM_byt _ _ _), rfl⟩
 have hmR : muR M (fun _ => nb) (fun i j => ((Gm.sprd nb i j : Nat) : Int)) nb (fun _ => nb) (fun i j => ((bkM M nb zs i j : Nat) : Int)) = M := by unfold muR; rw [if_pos (muOk_yes hmu)]
 have KMU : Hid (∀ x y x' y' w, MatAt w x M (fun _ => nb) (fun i j => ((Gm.sprd nb i j : Nat) : Int)) → MatAt w x' nb (fun _ => nb) (fun i j => ((bkM M nb zs i j : Nat) : Int)) → Calls Tryz.prog 96 #[.slice x M y, .slice x' nb y'] w fun e w' => ∃ v, e = .returned (.tuple #[v, .bool true]) ∧ (∃ x y, v = .slice x M y ∧ MatAt w' x M (fun _ => nb) (fun i j => ((Gm.mp nb (bZ M (fun _ => nb) (fun i j => ((Gm.sprd nb i j : Nat) : Int))) (bZ nb (fun _ => nb) (fun i j => ((bkM M nb zs i j : Nat) : Int))) i j : Nat) : Int))) ∧ Below w.heap.size w w') := fun x y x' y' w h1 h2 => by
  have := mulM_any x M y (fun _ => nb) (fun i j => ((Gm.sprd nb i j : Nat) : Int)) x' nb y' (fun _ => nb) (fun i j => ((bkM M nb zs i j : Nat) : Int)) w h1 h2 (fun i _ => by omega) (fun i _ => by omega)
  rw [muOk_yes hmu, hmR] at this
  refine Calls.mono this ?_
  rintro e w' ⟨v, he, RM, hb⟩
  exact ⟨v, he, RM.at, hb⟩
 have KMB : Hid (∀ i, i < M → bod nb (Gm.mp nb (bZ M (fun _ => nb) (fun i j => ((Gm.sprd nb i j : Nat) : Int))) (bZ nb (fun _ => nb) (fun i j => ((bkM M nb zs i j : Nat) : Int)))) (fun i p => tat (S i) p) (S 0).size i = bdS (nb : Int) (M : Int) zs S i) := fun i hi => by
  unfold bdS bdM
  rw [Int.toNat_natCast, Int.toNat_natCast]
  refine bod_congr (fun t ht => ?_) (fun _ _ _ _ => rfl)
  exact Gm.mp_congr (fun u hu => bZ_at hi hu (Gm.sprd_byt nb _ _)) (fun u hu => bZ_at hu ht (bkM_byt _ _ _ _ _))
 have hFB : Gm.Byt (Gm.mp nb (bZ M (fun _ => nb) (fun i j => ((Gm.sprd nb i j : Nat) : Int))) (bZ nb (fun _ => nb) (fun i j => ((bkM M nb zs i j : Nat) : Int)))) := fun _ _ => Gm.mp_byt _ _ _ _ _
 have KRS : Hid (∀ x y w, MatAt w x M (fun _ => nb) (fun i j => ((Gm.mp nb (bZ M (fun _ => nb) (fun i j => ((Gm.sprd nb i j : Nat) : Int))) (bZ nb (fun _ => nb) (fun i j => ((bkM M nb zs i j : Nat) : Int))) i j : Nat) : Int)) → TxtAt w a nb S → Calls Tryz.prog 97 #[.slice x M y, .slice a nb c] w fun e w' => ∃ u, e = .returned u ∧ ResT w w' u M (bdS (nb : Int) (M : Int) zs S) ∧ Below w.heap.size w w') := fun x y w hm ht => by
  have := rowSumsS_any x y M _ a c nb (S 0).size S w hm ht (fun i hi => (g5 i hi).2.1) (by omega) ⟨by omega, by omega⟩ ⟨by omega, hl (by omega)⟩ hFB
  refine Calls.mono this ?_
  rintro e w' ⟨he, hO, hb⟩
  exact ⟨_, he, ResT.congr ⟨_, _, rfl, hO⟩ KMB.out, hb⟩
 have KH : Hid (TxtAt w a nb S) := h
 rw [Int.toNat_natCast]
 generalize (Gm.mp nb (bZ M (fun _ => nb) (fun i j => ((Gm.sprd nb i j : Nat) : Int))) (bZ nb (fun _ => nb) (fun i j => ((bkM M nb zs i j : Nat) : Int)))) = PR at KMU KRS
 clear hmu hmR hFB KMB KE h hz hr g1 g2 g3 g4 g5 hl
 go_enter Tryz.func59, Tryz.ntmps59
 go_wp2_with fail
 refine Calls.mono KOP.out ?_
 rintro e w1 ⟨v, u, rfl, hvu, hb1⟩
 obtain ⟨⟨x1, y1, rfl, MM⟩, x2, y2, rfl, MB⟩ := hvu KRG.out
 have K1 : Hid (MatAt w1 x1 M (fun _ => nb) (fun i j => ((Gm.sprd nb i j : Nat) : Int))) := MM
 have K2 : Hid (MatAt w1 x2 nb (fun _ => nb) (fun i j => ((bkM M nb zs i j : Nat) : Int))) := MB
 have KH1 : Hid (TxtAt w1 a nb S) := KH.out.below hb1
 clear hvu MM MB KH KOP
 go_wp2_with fail
 refine Calls.mono (KMU.out _ _ _ _ _ K1.out K2.out) ?_
 rintro e w2 ⟨v2, rfl, ⟨x3, y3, rfl, MP⟩, hb2⟩
 have K3 : Hid (MatAt w2 x3 M (fun _ => nb) (fun i j => ((PR i j : Nat) : Int))) := MP
 have KH2 : Hid (TxtAt w2 a nb S) := KH1.out.below hb2
 clear MP KH1 K1 K2 KMU
 go_wp2_with fail
 refine Calls.mono (KRS.out _ _ _ K3.out KH2.out) ?_
 rintro e w3 ⟨u3, rfl, hR3, hb3⟩
 obtain ⟨x4, y4, rfl, hO4⟩ := hR3
 have hs2 : w.heap.size ≤ w2.heap.size := Nat.le_trans hb1.size hb2.size
 have HO4 : Hid (ResT w w3 (.slice x4 M y4) M (bdS (nb : Int) (M : Int) zs S)) := ⟨_, _, rfl, OwnT.base hO4 hs2⟩
 clear hO4 K3 KH2 KRS
 go_wp2
 go_ret2
 exact ⟨_, rfl, HO4.out, below2 (below2 hb1 hb2) hb3⟩
set_option maxRecDepth 100000 in
theorem sFirst_any (K M : Nat) (pa : Option Addr) (np pc : Nat) (zs : List Int) (a : Option Addr) (c : Nat) (S : Nat → ByteArray) (w : World) (hz : IntsAt w pa np zs) (h : TxtAt w a K S) (hr : Rgt (K : Int) (M : Int) zs K S) (hl : (S 0).size ≤ 1048576) :
  Calls Tryz.prog 63 #[.int .i64 (K : Int), .int .i64 (M : Int), .slice pa np pc, .slice a K c] w fun e w' => ∃ v, e = .returned v ∧ ResT w w' v K (fsS (K : Int) (M : Int) zs S) ∧ Below w.heap.size w w' := by
 obtain ⟨g1, g2, g3, g4, g5⟩ := hr
 obtain ⟨q1, q2, q3⟩ := sprOk_parts g1
 have hr : Rgt (K : Int) (M : Int) zs K S := ⟨g1, g2, g3, g4, g5⟩
 have hlen := hz.1
 obtain rfl : np = K := by omega
 have hR : sprR (np : Int) (M : Int) = M := by unfold sprR; rw [if_pos g1]; simp
 have KSP : Hid _ := sSpread_any (np : Int) (M : Int) w
 rw [g1, hR, Int.toNat_natCast] at KSP
 obtain ⟨e1, e2, io, _⟩ := spread_pick hr.diff hlen (show 1 ≤ np by omega) (show np ≤ M by omega) (by omega)
 have KPK : Hid (∀ am cm w, MatAt w am M (fun _ => np) (fun i j => ((Gm.sprd np i j : Nat) : Int)) → IntsAt w pa np zs → Calls Tryz.prog 100 #[.slice am M cm, .slice pa np pc] w fun e w' => ∃ v, e = .returned (.tuple #[v, .bool true]) ∧ (∃ x y, v = .slice x np y ∧ MatAt w' x np (fun _ => np) (fun i j => ((pkM M np zs i j : Nat) : Int))) ∧ Below w.heap.size w w') := fun am cm w hm hz => by
  have := sPick_any am M cm (fun _ => np) (fun i j => ((Gm.sprd np i j : Nat) : Int)) pa np pc zs w hm hz (fun i _ => by omega) (by omega)
  rw [e1, e2] at this
  refine Calls.mono this ?_
  rintro e w' ⟨v, he, RM, hb⟩
  exact ⟨v, he, RM.at, hb⟩
 have io' : InvOk np (fun _ => np) (fun i j => ((pkM M np zs i j : Nat) : Int)) := io
 have KIV : Hid (∀ x y w, MatAt w x np (fun _ => np) (fun i j => ((pkM M np zs i j : Nat) : Int)) → Calls Tryz.prog 101 #[.slice x np y] w fun e w' => ∃ v, e = .returned (.tuple #[v, .bool true]) ∧ (∃ x y, v = .slice x np y ∧ MatAt w' x np (fun _ => np) (fun i j => ((bkM M np zs i j : Nat) : Int))) ∧ Below w.heap.size w w') := fun x y w hm => by
  have := sInv_mat x np y (fun _ => np) (fun i j => ((pkM M np zs i j : Nat) : Int)) w hm (fun i _ => by omega)
  rw [ivOk_yes io', ivR_yes io'] at this
  refine Calls.mono this ?_
  rintro e w' ⟨v, he, RM, hb⟩
  exact ⟨v, he, RM.at, hb⟩
 have KRS : Hid (∀ x y w, MatAt w x np (fun _ => np) (fun i j => ((bkM M np zs i j : Nat) : Int)) → TxtAt w a np S → Calls Tryz.prog 86 #[.slice x np y, .slice a np c] w fun e w' => ∃ u, e = .returned u ∧ ResT w w' u np (fsS (np : Int) (M : Int) zs S) ∧ Below w.heap.size w w') := fun x y w hm ht => by
  have := sRows_any x y np (bkM M np zs) a c np (S 0).size S w hm ht (fun i hi => (g5 i hi).2.1) (by omega) ⟨by omega, by omega⟩ hl (bkM_byt _ _ _)
  refine Calls.mono this ?_
  rintro e w' ⟨G, c', he, hO, hb⟩
  exact ⟨_, he, ⟨_, _, rfl, by unfold fsS; rw [Int.toNat_natCast, Int.toNat_natCast]; exact hO⟩, hb⟩
 have KH : Hid (TxtAt w a np S) := h
 have KZ : Hid (IntsAt w pa np zs) := hz
 clear g1 g2 g3 g4 g5 hr hlen hR e1 e2 io io' h hz hl
 go_enter Tryz.func63, Tryz.ntmps63
 go_wp2_with fail
 refine Calls.mono KSP.out ?_
 rintro e w1 ⟨v1, rfl, RM, hb1⟩
 obtain ⟨am, cm, rfl, MM⟩ := RM.at
 have K1 : Hid (MatAt w1 am M (fun _ => np) (fun i j => ((Gm.sprd np i j : Nat) : Int))) := MM
 have KZ1 : Hid (IntsAt w1 pa np zs) := KZ.out.below hb1
 have KH1 : Hid (TxtAt w1 a np S) := KH.out.below hb1
 clear RM MM KZ KH KSP
 go_wp2_with fail
 refine Calls.mono (KPK.out _ _ _ K1.out KZ1.out) ?_
 rintro e w2 ⟨v2, rfl, ⟨x2, y2, rfl, MP⟩, hb2⟩
 have K2 : Hid (MatAt w2 x2 np (fun _ => np) (fun i j => ((pkM M np zs i j : Nat) : Int))) := MP
 have KH2 : Hid (TxtAt w2 a np S) := KH1.out.below hb2
 clear MP K1 KZ1 KH1 KPK
 go_wp2_with fail
 refine Calls.mono (KIV.out _ _ _ K2.out) ?_
 rintro e w3 ⟨v3, rfl, ⟨x3, y3, rfl, MB⟩, hb3⟩
 have K3 : Hid (MatAt w3 x3 np (fun _ => np) (fun i j => ((bkM M np zs i j : Nat) : Int))) := MB
 have KH3 : Hid (TxtAt w3 a np S) := KH2.out.below hb3
 clear MB K2 KH2 KIV
 go_wp2_with fail
 refine Calls.mono (KRS.out _ _ _ K3.out KH3.out) ?_
 rintro e w4 ⟨u4, rfl, hR4, hb4⟩
 obtain ⟨x4, y4, rfl, hO4⟩ := hR4
 have hs3 : w.heap.size ≤ w3.heap.size := Nat.le_trans hb1.size (Nat.le_trans hb2.size hb3.size)
 have HO4 : Hid (ResT w w4 (.slice x4 np y4) np (fsS (np : Int) (M : Int) zs S)) := ⟨_, _, rfl, OwnT.base hO4 hs3⟩
 clear hO4 K3 KH3 KRS
 go_wp2
 go_ret
 exact ⟨_, rfl, HO4.out, below2 (below2 (below2 hb1 hb2) hb3) hb4⟩
set_option maxRecDepth 100000 in
theorem sBodies_any (k n : Int) (pa : Option Addr) (np pc : Nat) (zs : List Int) (a : Option Addr) (nb c : Nat) (S : Nat → ByteArray) (w : World) (hz : IntsAt w pa np zs) (h : TxtAt w a nb S) (hl : 0 < nb → (S 0).size ≤ 1048576) :
  Calls Tryz.prog 51 #[.int .i64 k, .int .i64 n, .slice pa np pc, .slice a nb c] w fun e w' => ∃ v, e = .returned (.tuple #[v, .bool (rgt k n zs nb S)]) ∧ ResT w w' v (bdR k n zs nb S) (bdS k n zs S) ∧ Below w.heap.size w w' := by
 have KRT : Hid _ := sRight_any k n pa np pc zs a nb c S w hz h
 by_cases hr : Rgt k n zs nb S
 case neg =>
  rw [show bdR k n zs nb S = 0 from by unfold bdR; rw [rgt_no hr]; rfl]
  rw [rgt_no hr] at KRT ⊢
  clear hr h hz
  go_enter Tryz.func51, Tryz.ntmps51
  go_wp2_with fail
  refine Calls.mono KRT.out ?_
  rintro e w1 ⟨rfl, hb1⟩
  have HR : Hid (ResT w (w1.alloc (.cells #[] 9)) (.slice (some ⟨w1.heap.size, 0, none⟩) 0 0) 0 (bdS k n zs S)) := ⟨_, _, rfl, OwnT.base (litT w1 _) hb1.size⟩
  have HB : Hid (Below w.heap.size w (w1.alloc (.cells #[] 9))) := hb1.alloc hb1.size _
  go_wp2
  go_ret2
  exact ⟨_, rfl, HR.out, HB.out⟩
 obtain ⟨g1, g2, g3, g4, g5⟩ := hr
 obtain ⟨q1, q2, q3⟩ := sprOk_parts g1
 have hr : Rgt k n zs nb S := ⟨g1, g2, g3, g4, g5⟩
 rw [show bdR k n zs nb S = n.toNat from by unfold bdR; rw [rgt_yes hr]; rfl]
 rw [rgt_yes hr] at KRT ⊢
 obtain ⟨K, rfl⟩ := Int.eq_ofNat_of_zero_le (show 0 ≤ k by omega)
 obtain ⟨M, rfl⟩ := Int.eq_ofNat_of_zero_le (show 0 ≤ n by omega)
 obtain rfl : nb = K := by omega
 have hR : sprR (nb : Int) (M : Int) = M := by unfold sprR; rw [if_pos g1]; simp
 have KSP : Hid (∀ w, Calls Tryz.prog 85 #[.int .i64 (nb : Int), .int .i64 (M : Int)] w fun e w' => ∃ v, e = .returned (.tuple #[v, .bool true]) ∧ (∃ x y, v = .slice x M y ∧ MatAt w' x M (fun _ => nb) (fun i j => ((Gm.sprd nb i j : Nat) : Int))) ∧ Below w.heap.size w w') := fun w => by
  have := sSpread_any (nb : Int) (M : Int) w
  rw [g1, hR, Int.toNat_natCast] at this
  refine Calls.mono this ?_
  rintro e w' ⟨v, he, RM, hb⟩
  exact ⟨v, he, RM.at, hb⟩
 have hl' : (S 0).size ≤ 1048576 := hl (by omega)
 have KFS : Hid (∀ w, IntsAt w pa np zs → TxtAt w a nb S → Calls Tryz.prog 63 #[.int .i64 (nb : Int), .int .i64 (M : Int), .slice pa np pc, .slice a nb c] w fun e w' => ∃ v, e = .returned v ∧ ResT w w' v nb (fsS (nb : Int) (M : Int) zs S) ∧ Below w.heap.size w w') := fun w h1 h2 => sFirst_any nb M pa np pc zs a c S w h1 h2 hr hl'
 have KRS : Hid (∀ x y x' y' w, MatAt w x M (fun _ => nb) (fun i j => ((Gm.sprd nb i j : Nat) : Int)) → TxtAt w x' nb (fsS (nb : Int) (M : Int) zs S) → Calls Tryz.prog 86 #[.slice x M y, .slice x' nb y'] w fun e w' => ∃ u, e = .returned u ∧ ResT w w' u M (bdS (nb : Int) (M : Int) zs S) ∧ Below w.heap.size w w') := fun x y x' y' w hm ht => by
  have := sRows_any x y M (Gm.sprd nb) x' y' nb (S 0).size (fsS (nb : Int) (M : Int) zs S) w hm ht (fun i hi => bod_size _ _ _ _ _) (by omega) ⟨by omega, by omega⟩ hl' (Gm.sprd_byt nb)
  refine Calls.mono this ?_
  rintro e w' ⟨G, c', he, hO, hb⟩
  refine ⟨_, he, ResT.congr ⟨_, _, rfl, hO⟩ (fun i _ => ?_), hb⟩
  have := bd_fs (nb : Int) (M : Int) zs S i
  rw [Int.toNat_natCast] at this
  exact this
 have KH : Hid (TxtAt w a nb S) := h
 have KZ : Hid (IntsAt w pa np zs) := hz
 rw [Int.toNat_natCast]
 clear g1 g2 g3 g4 g5 hr hR h hz hl hl'
 go_enter Tryz.func51, Tryz.ntmps51
 go_wp2_with fail
 refine Calls.mono KRT.out ?_
 rintro e w0 ⟨rfl, hb0⟩
 have KZ0 : Hid (IntsAt w0 pa np zs) := KZ.out.below hb0
 have KH0 : Hid (TxtAt w0 a nb S) := KH.out.below hb0
 clear KZ KH KRT
 go_wp2_with fail
 refine Calls.mono (KSP.out _) ?_
 rintro e w1 ⟨v1, rfl, ⟨am, cm, rfl, MM⟩, hb1⟩
 have K1 : Hid (MatAt w1 am M (fun _ => nb) (fun i j => ((Gm.sprd nb i j : Nat) : Int))) := MM
 have KZ1 : Hid (IntsAt w1 pa np zs) := KZ0.out.below hb1
 have KH1 : Hid (TxtAt w1 a nb S) := KH0.out.below hb1
 clear MM KZ0 KH0 KSP
 go_wp2_with fail
 refine Calls.mono (KFS.out _ KZ1.out KH1.out) ?_
 rintro e w2 ⟨v2, rfl, hR2, hb2⟩
 obtain ⟨x2, y2, rfl, hO2⟩ := hR2
 have K2 : Hid (TxtAt w2 x2 nb (fsS (nb : Int) (M : Int) zs S)) := OwnT.at hO2
 have KM2 : Hid (MatAt w2 am M (fun _ => nb) (fun i j => ((Gm.sprd nb i j : Nat) : Int))) := K1.out.below hb2
 clear hO2 KZ1 KH1 K1 KFS
 go_wp2_with fail
 refine Calls.mono (KRS.out _ _ _ _ _ KM2.out K2.out) ?_
 rintro e w4 ⟨u4, rfl, hR4, hb4⟩
 obtain ⟨x4, y4, rfl, hO4⟩ := hR4
 have hs3 : w.heap.size ≤ w2.heap.size := Nat.le_trans hb0.size (Nat.le_trans hb1.size hb2.size)
 have HO4 : Hid (ResT w w4 (.slice x4 M y4) M (bdS (nb : Int) (M : Int) zs S)) := ⟨_, _, rfl, OwnT.base hO4 hs3⟩
 clear hO4 K2 KM2 KRS
 go_wp2
 go_ret2
 exact ⟨_, rfl, HO4.out, below2 (below2 (below2 hb0 hb1) hb2) hb4⟩
def Agr (k n : Int) (nb : Nat) (S : Nat → ByteArray) : Prop := sprOk k n = true ∧ Evn nb S n ∧ ∀ i, i < nb → bod k.toNat (Gm.sprd k.toNat) (fun i p => tat (S i) p) (S 0).size i = S i
noncomputable def agr (k n : Int) (nb : Nat) (S : Nat → ByteArray) : Bool := @decide (Agr k n nb S) (Classical.propDecidable _)
theorem agr_yes {k n : Int} {nb : Nat} {S : Nat → ByteArray} (h : Agr k n nb S) : agr k n nb S = true := by unfold agr; exact @decide_eq_true _ (Classical.propDecidable _) h
theorem agr_no {k n : Int} {nb : Nat} {S : Nat → ByteArray} (h : ¬ Agr k n nb S) : agr k n nb S = false := by unfold agr; exact @decide_eq_false _ (Classical.propDecidable _) h
theorem ba_eq {s u : ByteArray} (h : s = u) : (s.toList == u.toList) = true := by rw [h]; simp
set_option maxRecDepth 100000 in
theorem agree_any (k n : Int) (a : Option Addr) (nb c : Nat) (S : Nat → ByteArray) (w : World) (h : TxtAt w a nb S) (hc : nb ≤ c) (hcm : c ≤ maxLen) (hnb : nb ≤ 1048576) (hl : 0 < nb → (S 0).size ≤ 1048576) :
  Calls Tryz.prog 9 #[.int .i64 k, .int .i64 n, .slice a nb c] w fun e w' => e = .returned (.bool (agr k n nb S)) ∧ Below w.heap.size w w' := by
 unfold maxLen at hcm
 have KSP : Hid _ := spread_any k n w
 by_cases hok : sprOk k n = true
 case neg =>
  have HE : Hid (agr k n nb S = false) := agr_no (fun h => hok h.1)
  have hok' : sprOk k n = false := by simpa using hok
  rw [hok'] at KSP
  clear hok hok' h
  go_enter Tryz.func9, Tryz.ntmps9
  go_wp2_with fail
  refine Calls.mono KSP.out ?_
  rintro e w1 ⟨v, rfl, _, hb1⟩
  go_wp2
  go_ret
  exact ⟨ret_bool HE.out.symm, hb1⟩
 obtain ⟨q1, q2, q3⟩ := sprOk_parts hok
 obtain ⟨K, rfl⟩ := Int.eq_ofNat_of_zero_le (show 0 ≤ k by omega)
 obtain ⟨M, rfl⟩ := Int.eq_ofNat_of_zero_le (show 0 ≤ n by omega)
 have KOK : Hid (sprOk (K : Int) (M : Int) = true) := hok
 have hR : sprR (K : Int) (M : Int) = M := by unfold sprR; rw [if_pos hok]; simp
 rw [hok, hR, Int.toNat_natCast] at KSP
 have KH : Hid (TxtAt w a nb S) := h
 have hEv := fun w (h : TxtAt w a nb S) => areEven_any a nb c S (M : Int) w h hnb
 clear hR hok h
 by_cases hev : Evn nb S (M : Int)
 case neg =>
  have HE : Hid (agr (K : Int) (M : Int) nb S = false) := agr_no (fun h => hev h.2.1)
  rw [evn_no hev] at hEv
  clear hev
  go_enter Tryz.func9, Tryz.ntmps9
  go_wp2_with fail
  refine Calls.mono KSP.out ?_
  rintro e w1 ⟨v, rfl, _, hb1⟩
  have KH1 : Hid (TxtAt w1 a nb S) := KH.out.below hb1
  go_wp2_with (go_at_call 35; refine (hEv _ KH1.out).mono ?_; rintro e w' ⟨rfl, hw⟩; obtain rfl := hw.symm)
  go_ret
  exact ⟨ret_bool HE.out.symm, hb1⟩
 rw [evn_yes hev] at hEv
 have KEV : Hid (Evn nb S (M : Int)) := hev
 obtain rfl : nb = M := by have := hev.1; omega
 obtain ⟨b, off, rfl, hcs⟩ := KH.out.some (by omega)
 have KCS : Hid (∀ i, i < nb → w.cell? ⟨b, off + i, none⟩ = some (.string (S i))) := hcs
 obtain ⟨l, hll⟩ : ∃ l, (S 0).size = l := ⟨_, rfl⟩
 have hl1 : 1 ≤ l ∧ l ≤ 1048576 := by have := (hev.2 0 (by omega)).1; have := hl (by omega); omega
 have KSZ : Hid (∀ i, i < nb → (S i).size = l) := fun i hi => by rw [(hev.2 i hi).2, hll]
 have KLL : Hid ((S 0).size = l) := hll
 have hKc : (K : Int) ≤ (c : Int) := by omega
 have hc0 : (0 : Int) < (c : Int) := by omega
 have hK1 : 1 ≤ K := by omega
 have hKb : K ≤ nb := by omega
 clear hev hcs hll hl
 go_enter Tryz.func9, Tryz.ntmps9
 go_wp2_with fail
 refine Calls.mono KSP.out ?_
 rintro e w1 ⟨v, rfl, RM, hb1⟩
 obtain ⟨am, cm, rfl, MM⟩ := RM.at
 have KMM : Hid (MatAt w1 am nb (fun _ => K) (fun i j => ((Gm.sprd K i j : Nat) : Int))) := MM
 have KH1 : Hid (TxtAt w1 (some ⟨b, off, none⟩) nb S) := KH.out.below hb1
 clear MM RM KSP
 go_wp2_with (go_at_call 35; refine (hEv _ KH1.out).mono ?_; rintro e w' ⟨rfl, hw⟩; obtain rfl := hw.symm)
 clear hEv
 go_loopw [27] (fun i wr => ∃ q : Nat, q ≤ nb ∧ i = .int .i64 (q : Int) ∧ Hid (∀ i, i < q → bod K (Gm.sprd K) (fun i p => tat (S i) p) l i = S i) ∧ Below w1.heap.size w1 wr) (fun i _ => nb - (intOf i).toNat)
 case atStart => exact ⟨0, Nat.zero_le _, rfl, fun i hi => absurd hi (by omega), Below.refl _ _⟩
 case round =>
  obtain ⟨q, hq, rfl, HG, hbel⟩ := hrel
  by_cases hlt : q < nb
  ·have hqi : (q : Int) < (nb : Int) := by omega
   obtain ⟨b1, off1, ai, ci, rfl, hc1, hr1⟩ := (KMM.out.below hbel).rowE hlt
   have hTT := KH1.out.below hbel
   obtain ⟨b', off', eb, hcq⟩ := hTT q hlt
   cases eb
   have KRS : Hid (∀ W, Below wr.heap.size wr W → Calls Tryz.prog 36 #[.slice ai K ci, .slice (some ⟨b, off, none⟩) K c] W fun e w' => ∃ G, e = .returned (.slice (some ⟨G, 0, none⟩) l l) ∧ (∀ p, p < l → w'.cell? ⟨G, p, none⟩ = some (.int .u8 ((rs (Gm.sprd K q) (fun i p => tat (S i) p) K p : Nat) : Int))) ∧ Below W.heap.size W w') := fun W hW => by
    have := rowSumS_any ai ci (Gm.sprd K q) (some ⟨b, off, none⟩) c K l S W (hr1.below hW) ((hTT.below hW).less hKb) (fun i hi => KSZ.out i (by omega)) ⟨hK1, by omega⟩ hl1 (fun i => Gm.sprd_byt K q i)
    refine Calls.mono this ?_
    rintro e w' ⟨he, hO, hb⟩
    exact ⟨_, he, fun p hp => hO.cell hp, hb⟩
   obtain ⟨s, hs⟩ : ∃ s, S q = s := ⟨_, rfl⟩
   rw [hs] at hcq
   have KS : Hid (S q = s) := hs
   have hl1c := block_lt_of_cell hc1
   have KBD : Hid (strOfNums (eI (rs (Gm.sprd K q) (fun i p => tat (S i) p) K) l) = bod K (Gm.sprd K) (fun i p => tat (S i) p) l q) := rfl
   have KB : Hid (Below w1.heap.size w1 wr) := hbel
   clear hr1 hTT hs hbel
   by_cases hE : bod K (Gm.sprd K) (fun i p => tat (S i) p) l q = s
   ·have hbq : ((bod K (Gm.sprd K) (fun i p => tat (S i) p) l q).toList == s.toList) = true := ba_eq hE
    have HG2 : Hid (∀ i, i < q + 1 → bod K (Gm.sprd K) (fun i p => tat (S i) p) l i = S i) := fun i hi => by
     by_cases e : i = q
     ·subst e
      rw [KS.out]
      exact hE
     ·exact HG.out i (by omega)
    clear HG hE
    generalize bod K (Gm.sprd K) (fun i p => tat (S i) p) l q = sv at hbq KBD
    go_wp2_with fail
    go_region_with ((go_at_call 36; refine Calls.mono (KRS.out _ ⟨rfl, rfl, rfl, Nat.le_refl _, fun _ _ => rfl⟩) ?_; rintro e w5 ⟨G, rfl, hO5, hb5'⟩; have hb5 := below_of_drew hb5'; clear hb5'; have h51 := (hb5.cell (p := ⟨b1, off1 + q, none⟩) hl1c).trans hc1; have hcv := run_convert_bytes_arg (P := Tryz.prog) w5 22 5 Tryz.underlying22 Tryz.underlying5 G 0 l l (eI (rs (Gm.sprd K q) (fun i p => tat (S i) p) K) l) (eI_len _ _) (fun i hi => by rw [Nat.zero_add, hO5 i hi, eI_getD _ _ _ hi]) 9 Tryz.underlying9; rw [KBD.out] at hcv; clear hO5))
    all_goals
     have HB : Hid (Below w1.heap.size w1 w5) := below2 KB.out hb5
     clear hb5 h51 hcv KB KRS
     go_wp2
     go_roundw
     case rel => exact ⟨q + 1, by omega, by go_num, HG2.out, HB.out⟩
     case measure => simp [intOf] <;> omega
   ·have hbq : ((bod K (Gm.sprd K) (fun i p => tat (S i) p) l q).toList == s.toList) = false := ba_ne hE
    have HE : Hid (agr (K : Int) (nb : Int) nb S = false) := agr_no (fun h => hE (by
     have := h.2.2 q hlt
     rw [KLL.out, KS.out, Int.toNat_natCast] at this
     exact this))
    clear HG hE
    generalize bod K (Gm.sprd K) (fun i p => tat (S i) p) l q = sv at hbq KBD
    go_wp2_with fail
    go_region_with ((go_at_call 36; refine Calls.mono (KRS.out _ ⟨rfl, rfl, rfl, Nat.le_refl _, fun _ _ => rfl⟩) ?_; rintro e w5 ⟨G, rfl, hO5, hb5'⟩; have hb5 := below_of_drew hb5'; clear hb5'; have h51 := (hb5.cell (p := ⟨b1, off1 + q, none⟩) hl1c).trans hc1; have hcv := run_convert_bytes_arg (P := Tryz.prog) w5 22 5 Tryz.underlying22 Tryz.underlying5 G 0 l l (eI (rs (Gm.sprd K q) (fun i p => tat (S i) p) K) l) (eI_len _ _) (fun i hi => by rw [Nat.zero_add, hO5 i hi, eI_getD _ _ _ hi]) 9 Tryz.underlying9; rw [KBD.out] at hcv; clear hO5))
    all_goals
     have HB : Hid (Below w.heap.size w w5) := below2 (below2 hb1 KB.out) hb5
     clear hb5 h51 hcv KB KRS
     go_wp2
     go_ret
     exact ⟨ret_bool HE.out.symm, HB.out⟩
  ·obtain rfl : q = nb := by omega
   have HE : Hid (agr (K : Int) (q : Int) q S = true) := agr_yes ⟨KOK.out, KEV.out, by rw [KLL.out, Int.toNat_natCast]; exact HG.out⟩
   clear HG
   go_wp2
   go_ret
   exact ⟨ret_bool HE.out.symm, below2 hb1 hbel⟩
noncomputable def tlB (W : Nat → Nat) (N k : Nat) : Bool := @decide (tells W N k) (Classical.propDecidable _)
noncomputable def tlS (W : Nat → Nat) (N k : Nat) : ByteArray := if tlB W N k = true then told W else ByteArray.empty
theorem tl_yes {W : Nat → Nat} {N k : Nat} (h : tells W N k) : tlB W N k = true ∧ tlS W N k = told W := by
 have e : tlB W N k = true := by unfold tlB; exact @decide_eq_true _ (Classical.propDecidable _) h
 exact ⟨e, by unfold tlS; rw [if_pos e]⟩
theorem tl_no {W : Nat → Nat} {N k : Nat} (h : ¬ tells W N k) : tlB W N k = false ∧ tlS W N k = ByteArray.empty := by
 have e : tlB W N k = false := by unfold tlB; exact @decide_eq_false _ (Classical.propDecidable _) h
 exact ⟨e, by unfold tlS; rw [if_neg (by rw [e]; simp)]⟩
set_option maxRecDepth 100000 in
theorem unframed_any (g N K : Nat) (W : Nat → Nat) (w : World) (h : ∀ q, q < N → w.cell? ⟨g, q, none⟩ = some (.int .u8 ((W q : Nat) : Int))) (hW : ∀ q, W q < 256) (hN : N ≤ 100000000) (hK : 1 ≤ K ∧ K ≤ 16) :
  Calls Tryz.prog 61 #[.slice (some ⟨g, 0, none⟩) N N, .int .i64 (K : Int)] w fun e w' => e = .returned (.tuple #[.string (tlS W N K), .bool (tlB W N K)]) ∧ Below w.heap.size w w' := by
 obtain ⟨hK1, hK16⟩ := hK
 have KH : Hid (∀ q, q < N → w.cell? ⟨g, q, none⟩ = some (.int .u8 ((W q : Nat) : Int))) := h
 have KW : Hid (∀ q, W q < 256) := hW
 by_cases h2 : N < 2
 case pos =>
  obtain ⟨e1, e2⟩ := tl_no (W := W) (N := N) (k := K) (fun h => by have := h.1; omega)
  rw [e1, e2]
  have h2' : (N : Int) < 2 := by omega
  clear h hW
  go_enter Tryz.func61, Tryz.ntmps61
  go_wp2
  go_ret2
  exact ⟨rfl, Below.refl _ _⟩
 have h2' : ¬ (N : Int) < 2 := by omega
 have hc0 := h 0 (by omega)
 have hc1 := h 1 (by omega)
 have hx := hW 0
 have hy := hW 1
 have hN0 : (0 : Int) < (N : Int) := by omega
 have hN1 : (1 : Int) < (N : Int) := by omega
 obtain ⟨x, ex⟩ : ∃ x, W 0 = x := ⟨_, rfl⟩
 obtain ⟨y, ey⟩ : ∃ y, W 1 = y := ⟨_, rfl⟩
 obtain ⟨sz, hsz⟩ : ∃ sz, W 0 * 256 + W 1 = sz := ⟨_, rfl⟩
 have KSZ : Hid (W 0 * 256 + W 1 = sz) := hsz
 rw [ex] at hc0 hx hsz
 rw [ey] at hc1 hy hsz
 have hsum : (x : Int) * 256 + (y : Int) = (sz : Int) := by omega
 clear ex ey h hW hsz
 by_cases h3 : sz ≤ 2000
 case neg =>
  obtain ⟨e1, e2⟩ := tl_no (W := W) (N := N) (k := K) (fun h => by have := h.2.1; rw [KSZ.out] at this; omega)
  rw [e1, e2]
  have hB := fun w => bodyLen_any (sz : Int) (K : Int) w
  rw [blI_no (by omega)] at hB
  have hne : ((N : Int) != -(K : Int)) = true := by rw [bne_iff_ne]; omega
  clear h3
  go_enter Tryz.func61, Tryz.ntmps61
  go_wp2_with fail
  go_quiet (fail)
  go_wp2_with (go_at_call 78; refine (hB _).mono ?_; rintro e w' ⟨rfl, hw⟩; obtain rfl := hw.symm)
  go_ret2
  exact ⟨rfl, below_drewN (Below.refl _ _) _⟩
 have hB := fun w => bodyLen_any (sz : Int) (K : Int) w
 rw [blI_yes h3 hK1 hK16] at hB
 have hbg := blen_ge (s := sz) hK1
 have hble := blen_le (s := sz) hK1
 obtain ⟨l, hl⟩ : ∃ l, blen sz K = l := ⟨_, rfl⟩
 have KL : Hid (blen sz K = l) := hl
 rw [hl] at hB hbg hble
 obtain ⟨NN, hNN⟩ : ∃ NN, K * l = NN := ⟨_, rfl⟩
 have hNb : NN ≤ 100000 := by rw [← hNN]; exact Nat.le_trans (Nat.mul_le_mul hK16 hble) (by omega)
 rw [hNN] at hbg
 have hm : (K : Int) * (l : Int) = (NN : Int) := by rw [← hNN, Int.natCast_mul]
 have hwm : IntKind.i64.wrap ((K : Int) * (l : Int)) = (NN : Int) := by rw [hm, IntKind.wrap_i64]; omega
 have KNN : Hid (K * l = NN) := hNN
 clear hl hNN hm
 by_cases h4 : N = NN
 case neg =>
  obtain ⟨e1, e2⟩ := tl_no (W := W) (N := N) (k := K) (fun h => by have := h.2.2.1; rw [KSZ.out, KL.out, KNN.out] at this; omega)
  rw [e1, e2]
  have hne : ((N : Int) != (NN : Int)) = true := by rw [bne_iff_ne]; omega
  clear h4
  go_enter Tryz.func61, Tryz.ntmps61
  go_wp2_with fail
  go_quiet (fail)
  go_wp2_with (go_at_call 78; refine (hB _).mono ?_; rintro e w' ⟨rfl, hw⟩; obtain rfl := hw.symm)
  go_ret2
  exact ⟨rfl, below_drewN (Below.refl _ _) _⟩
 subst h4
 have hne : ((N : Int) != (N : Int)) = false := by simp
 obtain ⟨E, hE⟩ : ∃ E, 2 + sz = E := ⟨_, rfl⟩
 have hwe : IntKind.i64.wrap (2 + (sz : Int)) = (E : Int) := by rw [IntKind.wrap_i64]; omega
 have hsE : (2 : Int) + (sz : Int) = (E : Int) := by omega
 have hEN : (E : Int) ≤ (N : Int) := by omega
 have hE2 : (2 : Int) ≤ (E : Int) := by omega
 have KE : Hid (2 + sz = E) := hE
 obtain ⟨R, hR⟩ : ∃ R, N - E = R := ⟨_, rfl⟩
 have KTL : Hid ((∀ p, p < R → W (E + p) = 0) → tlB W N K = true ∧ tlS W N K = strOfNums (eI (fun q => W (q + 2)) sz)) := fun hz => by
  have ht : tells W N K := ⟨by omega, by rw [KSZ.out]; omega, by rw [KSZ.out, KL.out, KNN.out], fun q h1 h2 => by
   rw [KSZ.out] at h1
   have := hz (q - E) (by omega)
   rw [show E + (q - E) = q by omega] at this
   exact this⟩
  obtain ⟨e1, e2⟩ := tl_yes ht
  refine ⟨e1, e2.trans ?_⟩
  unfold told txt
  rw [KSZ.out]
 have KNO : Hid (∀ p, p < R → W (E + p) ≠ 0 → tlB W N K = false ∧ tlS W N K = ByteArray.empty) := fun p hp hne => tl_no (fun h => hne (h.2.2.2 (E + p) (by rw [KSZ.out]; omega) (by omega)))
 have hN2 : (2 : Int) ≤ (N : Int) := by omega
 have hE2n : 2 ≤ E := by omega
 by_cases h6 : N = 2
 case pos =>
  subst h6
  obtain rfl : sz = 0 := by omega
  obtain rfl : R = 0 := by omega
  obtain rfl : E = 2 := by omega
  obtain ⟨e1, e2⟩ := KTL.out (fun p hp => absurd hp (by omega))
  rw [e1, e2]
  clear e1 e2
  go_enter Tryz.func61, Tryz.ntmps61
  go_wp2_with fail
  go_quiet (fail)
  have hcv := run_convert_bytes_arg (P := Tryz.prog) (w.drewN nq) 22 5 Tryz.underlying22 Tryz.underlying5 g 0 0 0 (eI (fun q => W (q + 2)) 0) (eI_len _ _) (fun i hi => absurd hi (by omega)) 9 Tryz.underlying9
  go_wp2_with (go_at_call 78; refine (hB _).mono ?_; rintro e w' ⟨rfl, hw⟩; obtain rfl := hw.symm)
  go_loop [37] (fun i => i = .int .i64 0) (fun _ => 0)
  case atStart => exact rfl
  case round =>
   subst hrel
   go_wp2
   go_ret2
   exact ⟨rfl, below_drewN (Below.refl _ _) _⟩
 have hNE : ¬ N - 2 = 0 := by omega
 have hsz2 : E - 2 = sz := by omega
 by_cases h5 : R = 0
 case pos =>
  subst h5
  obtain ⟨e1, e2⟩ := KTL.out (fun p hp => absurd hp (by omega))
  rw [e1, e2]
  clear e1 e2
  go_enter Tryz.func61, Tryz.ntmps61
  go_wp2_with fail
  go_quiet (fail)
  have hcv := run_convert_bytes_arg (P := Tryz.prog) (w.drewN nq) 22 5 Tryz.underlying22 Tryz.underlying5 g 2 sz (N - 2) (eI (fun q => W (q + 2)) sz) (eI_len _ _) (fun i hi => by
   have h1 := KH.out (i + 2) (by omega)
   rw [eI_getD _ _ _ hi, Nat.add_comm 2 i]
   exact ((below_drewN (Below.refl w.heap.size w) nq).cell (p := ⟨g, i + 2, none⟩) (block_lt_of_cell h1)).trans h1) 9 Tryz.underlying9
  go_wp2_with (go_at_call 78; refine (hB _).mono ?_; rintro e w' ⟨rfl, hw⟩; obtain rfl := hw.symm)
  go_loop [37] (fun i => i = .int .i64 0) (fun _ => 0)
  case atStart => exact rfl
  case round =>
   subst hrel
   go_wp2
   go_ret2
   exact ⟨rfl, below_drewN (Below.refl _ _) _⟩
 have h5' : ¬ N - E = 0 := by omega
 have hRb : R ≤ 100000 := by omega
 have KRN : Hid (E + R = N) := by show _ = _; omega
 go_enter Tryz.func61, Tryz.ntmps61
 go_wp2_with fail
 go_quiet (fail)
 have hcv := run_convert_bytes_arg (P := Tryz.prog) (w.drewN nq) 22 5 Tryz.underlying22 Tryz.underlying5 g 2 sz (N - 2) (eI (fun q => W (q + 2)) sz) (eI_len _ _) (fun i hi => by
  have h1 := KH.out (i + 2) (by omega)
  rw [eI_getD _ _ _ hi, Nat.add_comm 2 i]
  exact ((below_drewN (Below.refl w.heap.size w) nq).cell (p := ⟨g, i + 2, none⟩) (block_lt_of_cell h1)).trans h1) 9 Tryz.underlying9
 have KHD : Hid (∀ q, q < N → (w.drewN nq).cell? ⟨g, q, none⟩ = some (.int .u8 ((W q : Nat) : Int))) := fun q hq => by
  have h1 := KH.out q hq
  exact ((below_drewN (Below.refl w.heap.size w) nq).cell (p := ⟨g, q, none⟩) (block_lt_of_cell h1)).trans h1
 go_wp2_with (go_at_call 78; refine (hB _).mono ?_; rintro e w' ⟨rfl, hw⟩; obtain rfl := hw.symm)
 clear hB hwm
 go_loop [37] (fun i => ∃ q : Nat, q ≤ R ∧ i = .int .i64 (q : Int) ∧ Hid (∀ p, p < q → W (E + p) = 0)) (fun i => R - (intOf i).toNat)
 case atStart => exact ⟨0, Nat.zero_le _, rfl, fun p hp => absurd hp (by omega)⟩
 case round =>
  obtain ⟨q, hq, rfl, HG⟩ := hrel
  by_cases hlt : q < R
  ·have hqi : (q : Int) < (R : Int) := by omega
   have hcq := KHD.out (E + q) (by have := KRN.out; omega)
   obtain ⟨v, hv⟩ : ∃ v, W (E + q) = v := ⟨_, rfl⟩
   rw [hv] at hcq
   have KV : Hid (W (E + q) = v) := hv
   clear hv
   by_cases hv0 : v = 0
   ·have hv' : ((v : Int) != 0) = false := by simp [hv0]
    have HG2 : Hid (∀ p, p < q + 1 → W (E + p) = 0) := fun p hp => by
     by_cases e : p = q
     ·subst e
      rw [KV.out]
      exact hv0
     ·exact HG.out p (by omega)
    clear HG hv0
    go_wp2
    go_round
    case rel => exact ⟨q + 1, by omega, by go_num, HG2.out⟩
    case measure => simp [intOf] <;> omega
   ·have hv' : ((v : Int) != 0) = true := by rw [bne_iff_ne]; omega
    obtain ⟨e1, e2⟩ := KNO.out q hlt (by rw [KV.out]; exact hv0)
    have HE : Hid (tlB W N K = false ∧ tlS W N K = ByteArray.empty) := ⟨e1, e2⟩
    clear HG hv0 e1 e2
    go_wp2
    go_ret2
    exact ⟨by rw [HE.out.1, HE.out.2] <;> rfl, below_drewN (Below.refl _ _) _⟩
  ·obtain rfl : q = R := by omega
   obtain ⟨e1, e2⟩ := KTL.out HG.out
   have HE : Hid (tlB W N K = true ∧ tlS W N K = strOfNums (eI (fun q => W (q + 2)) sz)) := ⟨e1, e2⟩
   clear HG e1 e2
   go_wp2
   go_ret2
   exact ⟨by rw [HE.out.1, HE.out.2] <;> rfl, below_drewN (Below.refl _ _) _⟩
theorem agr_rgt {K M : Nat} {S : Nat → ByteArray} (h : Agr (K : Int) (M : Int) M S) : Rgt (K : Int) (M : Int) (eI (fun i => i) K) K S := by
 obtain ⟨h1, h2, _⟩ := h
 obtain ⟨q1, q2, q3⟩ := sprOk_parts h1
 refine ⟨h1, by rw [eI_len], rfl, (h2.2 0 (by omega)).1, fun i hi => ⟨?_, (h2.2 i (by omega)).2, fun j hj => ?_⟩⟩
 ·rw [eI_getD _ _ _ hi]; omega
 ·rw [eI_getD _ _ _ hi, eI_getD _ _ _ (by omega)]; omega
noncomputable def fsT (k n : Nat) (zs : List Int) (S : Nat → ByteArray) : Nat → Nat → Nat := Gm.mp k (bkM n k zs) (fun i p => tat (S i) p)
noncomputable def fsW (k n : Nat) (zs : List Int) (S : Nat → ByteArray) : Nat → Nat := whl (fsT k n zs S) (S 0).size
theorem fsW_lt (k n : Nat) (zs : List Int) (S : Nat → ByteArray) (q : Nat) : fsW k n zs S q < 256 := whl_byt (fun _ _ => Gm.mp_byt _ _ _ _ _) _ _
noncomputable def dcB (k n : Int) (zs : List Int) (nb : Nat) (S : Nat → ByteArray) : Bool := if rgt k n zs nb S = true then tlB (fsW k.toNat n.toNat zs S) (k.toNat * (S 0).size) k.toNat else false
noncomputable def dcS (k n : Int) (zs : List Int) (nb : Nat) (S : Nat → ByteArray) : ByteArray := if rgt k n zs nb S = true then tlS (fsW k.toNat n.toNat zs S) (k.toNat * (S 0).size) k.toNat else ByteArray.empty
theorem dc_no {k n : Int} {zs : List Int} {nb : Nat} {S : Nat → ByteArray} (h : ¬ Rgt k n zs nb S) : dcB k n zs nb S = false ∧ dcS k n zs nb S = ByteArray.empty := by
 unfold dcB dcS
 rw [rgt_no h]
 exact ⟨rfl, rfl⟩
theorem dc_yes {K M : Nat} {zs : List Int} {nb : Nat} {S : Nat → ByteArray} (h : Rgt (K : Int) (M : Int) zs nb S) : dcB (K : Int) (M : Int) zs nb S = tlB (fsW K M zs S) (K * (S 0).size) K ∧ dcS (K : Int) (M : Int) zs nb S = tlS (fsW K M zs S) (K * (S 0).size) K := by
 unfold dcB dcS
 rw [rgt_yes h]
 exact ⟨rfl, rfl⟩
def upto (W : Nat → Nat) (m i : Nat) : Nat := if i < m then W i else 0
theorem upto_step {T : Nat → Nat → Nat} {l q : Nat} (i : Nat) : ovl (upto (whl T l) (q * l)) (q * l) l (T q) i = upto (whl T l) (q * l + l) i := by
 unfold ovl upto
 by_cases h1 : q * l ≤ i ∧ i < q * l + l
 ·rw [if_pos h1, if_pos h1.2]
  have := whl_at (T := T) (l := l) (i := q) (p := i - q * l) (by omega)
  rw [show q * l + (i - q * l) = i by omega] at this
  exact this.symm
 ·rw [if_neg h1]
  by_cases h2 : i < q * l
  ·rw [if_pos h2, if_pos (by omega)]
  ·rw [if_neg h2, if_neg (by omega)]
set_option maxRecDepth 100000 in
theorem decode_any (k n : Int) (pa : Option Addr) (np pc : Nat) (zs : List Int) (a : Option Addr) (nb c : Nat) (S : Nat → ByteArray) (w : World) (hz : IntsAt w pa np zs) (h : TxtAt w a nb S) (hnp : np ≤ 1048576) (hnb : nb ≤ 1048576) (hl : 0 < nb → (S 0).size ≤ 1048576) :
  Calls Tryz.prog 29 #[.int .i64 k, .int .i64 n, .slice pa np pc, .slice a nb c] w fun e w' => e = .returned (.tuple #[.string (dcS k n zs nb S), .bool (dcB k n zs nb S)]) ∧ Below w.heap.size w w' := by
 obtain ⟨i0, hi, hz0, hz1, hz2⟩ := info_parts Tryz.infoByte
 have KOP : Hid _ := opened_any k n pa np pc zs a nb c S w hz h hnp hnb
 by_cases hr : Rgt k n zs nb S
 case neg =>
  obtain ⟨e1, e2⟩ := dc_no hr
  rw [e1, e2]
  rw [rgt_no hr] at KOP
  clear hr h hz e1 e2 hi hz0 hz1 hz2
  go_enter Tryz.func29, Tryz.ntmps29
  go_wp2_with fail
  refine Calls.mono KOP.out ?_
  rintro e w1 ⟨v, u, rfl, _, hb1⟩
  go_wp2
  go_ret2
  exact ⟨rfl, hb1⟩
 obtain ⟨g1, g2, g3, g4, g5⟩ := hr
 obtain ⟨q1, q2, q3⟩ := sprOk_parts g1
 have hr : Rgt k n zs nb S := ⟨g1, g2, g3, g4, g5⟩
 rw [rgt_yes hr] at KOP
 obtain ⟨K, rfl⟩ := Int.eq_ofNat_of_zero_le (show 0 ≤ k by omega)
 obtain ⟨M, rfl⟩ := Int.eq_ofNat_of_zero_le (show 0 ≤ n by omega)
 obtain rfl : nb = K := by omega
 obtain ⟨e1, e2⟩ := dc_yes hr
 have HDC : Hid (dcB (nb : Int) (M : Int) zs nb S = tlB (fsW nb M zs S) (nb * (S 0).size) nb ∧ dcS (nb : Int) (M : Int) zs nb S = tlS (fsW nb M zs S) (nb * (S 0).size) nb) := ⟨e1, e2⟩
 clear e1 e2
 have KRG : Hid (Rgt (nb : Int) (M : Int) zs nb S) := hr
 rw [Int.toNat_natCast, Int.toNat_natCast] at KOP
 obtain ⟨b, off, rfl, hcs⟩ := h.some (show 0 < nb by omega)
 have hc0 := hcs 0 (by omega)
 rw [Nat.add_zero] at hc0
 have hn0 : (0 : Int) < (nb : Int) := by omega
 have hn1 : 1 ≤ nb := by omega
 have hn16 : nb ≤ 16 := by omega
 obtain ⟨l, hll⟩ : ∃ l, (S 0).size = l := ⟨_, rfl⟩
 have hl1 : 1 ≤ l ∧ l ≤ 1048576 := by have := hl (by omega); omega
 have KSZ : Hid (∀ i, i < nb → (S i).size = l) := fun i hi => by rw [(g5 i hi).2.1, hll]
 have KFW : Hid (fsW nb M zs S = whl (fsT nb M zs S) l) := by show _ = _; unfold fsW; rw [hll]
 rw [hll] at HDC
 obtain ⟨s0, hs0⟩ : ∃ s, S 0 = s := ⟨_, rfl⟩
 rw [hs0] at hc0 hll
 obtain ⟨N, hNN⟩ : ∃ N, nb * l = N := ⟨_, rfl⟩
 have hNb : N ≤ 16777216 := by rw [← hNN]; exact Nat.le_trans (Nat.mul_le_mul hn16 hl1.2) (by omega)
 have hm : (nb : Int) * (l : Int) = (N : Int) := by rw [← hNN, Int.natCast_mul]
 have hwm : IntKind.i64.wrap ((nb : Int) * (l : Int)) = (N : Int) := by rw [hm, IntKind.wrap_i64]; omega
 have KNN : Hid (nb * l = N) := hNN
 rw [hNN] at HDC
 have KH : Hid (TxtAt w (some ⟨b, off, none⟩) nb S) := h
 have KC0 : Hid (w.cell? ⟨b, off, none⟩ = some (.string s0)) := hc0
 clear hm hNN hs0 hc0 hcs h hz hr g1 g2 g3 g4 g5 hl
 go_enter Tryz.func29, Tryz.ntmps29
 go_wp2_with fail
 refine Calls.mono KOP.out ?_
 rintro e w1 ⟨v, u, rfl, hvu, hb1⟩
 obtain ⟨⟨x1, y1, rfl, MM⟩, x2, y2, rfl, MB⟩ := hvu KRG.out
 have K2 : Hid (MatAt w1 x2 nb (fun _ => nb) (fun i j => ((bkM M nb zs i j : Nat) : Int))) := MB
 have KH1 : Hid (TxtAt w1 (some ⟨b, off, none⟩) nb S) := KH.out.below hb1
 have hc0 := (hb1.cell (p := ⟨b, off, none⟩) (block_lt_of_cell KC0.out)).trans KC0.out
 clear hvu MM MB KH KOP KC0
 go_wp2_with (at_make; refine wpList_make_full _ rfl _ _ 22 rfl w1.heap.size 5 i0 (.int .u8 0) 1 Tryz.underlying22 hi hz0 hz1 .i64 .i64 _ _ N rfl rfl rfl rfl (by rw [hz2]; omega) (by unfold maxLen; omega) (Nat.le_refl _) ?_; intro w2 hown hgrow)
 have hb2 : Below w1.heap.size w1 w2 := (Below.refl _ _).grown hgrow (Nat.le_refl _) (by simp)
 have K3 : Hid (OwnB w2 w1.heap.size w1.heap.size N N (upto (whl (fsT nb M zs S) l) (0 * l))) := (madeB hown).congr (fun i _ => by unfold upto; rw [if_neg (by omega)])
 clear hown hgrow hi hz0 hz1 hz2 hc0 hwm
 go_loopw [38] (fun i wr => ∃ q : Nat, q ≤ nb ∧ i = .int .i64 (q : Int) ∧ OwnB wr w1.heap.size w1.heap.size N N (upto (whl (fsT nb M zs S) l) (q * l)) ∧ Below w1.heap.size w1 wr) (fun i _ => nb - (intOf i).toNat)
 case atStart => exact ⟨0, Nat.zero_le _, rfl, K3.out, hb2⟩
 case round =>
  obtain ⟨q, hq, rfl, hown, hbel⟩ := hrel
  clear K3 hb2
  by_cases hlt : q < nb
  ·have hqi : (q : Int) < (nb : Int) := by omega
   obtain ⟨b1, off1, ai, ci, rfl, hc1, hr1⟩ := (K2.out.below hbel).rowE hlt
   have hTT := KH1.out.below hbel
   have KRS : Hid (∀ W, Below wr.heap.size wr W → Calls Tryz.prog 36 #[.slice ai nb ci, .slice (some ⟨b, off, none⟩) nb c] W fun e w' => ∃ G, e = .returned (.slice (some ⟨G, 0, none⟩) l l) ∧ (∀ p, p < l → w'.cell? ⟨G, p, none⟩ = some (.int .u8 ((fsT nb M zs S q p : Nat) : Int))) ∧ Below W.heap.size W w') := fun W hW => by
    have := rowSumS_any ai ci (bkM M nb zs q) (some ⟨b, off, none⟩) c nb l S W (hr1.below hW) (hTT.below hW) KSZ.out ⟨hn1, hn16⟩ hl1 (fun i => bkM_byt _ _ _ q i)
    refine Calls.mono this ?_
    rintro e w' ⟨he, hO, hb⟩
    exact ⟨_, he, fun p hp => hO.cell hp, hb⟩
   obtain ⟨o, ho⟩ : ∃ o, q * l = o := ⟨_, rfl⟩
   have hol : o + l ≤ N := by
    rw [← ho, ← KNN.out]
    have := Nat.mul_le_mul_right l (show q + 1 ≤ nb by omega)
    rw [Nat.succ_mul] at this
    exact this
   have hm : (q : Int) * (l : Int) = (o : Int) := by rw [← ho, Int.natCast_mul]
   have hwo : IntKind.i64.wrap ((q : Int) * (l : Int)) = (o : Int) := by rw [hm, IntKind.wrap_i64]; omega
   have KST : Hid (∀ i, ovl (upto (whl (fsT nb M zs S) l) o) o l (fsT nb M zs S q) i = upto (whl (fsT nb M zs S) l) ((q + 1) * l) i) := fun i => by rw [← ho, Nat.succ_mul]; exact upto_step i
   rw [ho] at hown
   have hoN : (o : Int) ≤ (N : Int) := by omega
   have hoN2 : ¬ N - o = 0 := by omega
   have hl20 := hl1.2
   have KO : Hid (OwnB wr w1.heap.size w1.heap.size N N (upto (whl (fsT nb M zs S) l) o)) := hown
   have KB : Hid (Below w1.heap.size w1 wr) := hbel
   have hgB := hown.lt
   clear hr1 hTT hown hbel hm ho
   go_wp2_with fail
   go_region_law ((first | (guard_hyp KO5; refine step_copyB (by rfl) _ _ (by rfl) (some ⟨w1.heap.size, o, none⟩) (N - o) (N - o) G l l (by rfl) (by rfl) w1.heap.size w1.heap.size N (upto (whl (fsT nb M zs S) l) o) (fsT nb M zs S q) KO5.out o (by rfl) (by omega) (by omega) hO5 ?_; intro w6 hO6 hg6) | (go_simp; go_wp2_with (go_at_call 36; refine Calls.mono (KRS.out _ ⟨rfl, rfl, rfl, Nat.le_refl _, fun _ _ => rfl⟩) ?_; rintro e w5 ⟨G, rfl, hO5, hb5'⟩; have hb5 := below_of_drew hb5'; clear hb5'; have KO5 : Hid (OwnB w5 w1.heap.size w1.heap.size N N (upto (whl (fsT nb M zs S) l) o)) := KO.out.below hb5))))
   all_goals
    have HO : Hid (OwnB w6 w1.heap.size w1.heap.size N N (upto (whl (fsT nb M zs S) l) ((q + 1) * l))) := OwnB.congr hO6 (fun i _ => KST.out i)
    have HB : Hid (Below w1.heap.size w1 w6) := (below2 KB.out hb5).grown hg6 (below2 KB.out hb5).size (fun j hj => by cases hj; exact Nat.le_refl _)
    clear hO6 hg6 hb5 hO5 KO5 KO KB KRS KST
    go_wp2
    go_roundw
    case rel => exact ⟨q + 1, by omega, by go_num, HO.out, HB.out⟩
    case measure => simp [intOf] <;> omega
  ·obtain rfl : q = nb := by omega
   have KW : Hid (∀ i, i < N → wr.cell? ⟨w1.heap.size, i, none⟩ = some (.int .u8 ((fsW q M zs S i : Nat) : Int))) := fun i hi => by
    rw [hown.cell hi, KFW.out]
    unfold upto
    rw [KNN.out, if_pos hi]
   have KB : Hid (Below w1.heap.size w1 wr) := hbel
   have KUN : Hid _ := unframed_any w1.heap.size N q (fsW q M zs S) wr KW.out (fsW_lt _ _ _ _) (by omega) ⟨hn1, hn16⟩
   clear hown hbel
   go_wp2_with fail
   refine Calls.mono KUN.out ?_
   rintro e w7 ⟨rfl, hb7⟩
   go_wp2
   go_ret2
   exact ⟨by rw [HDC.out.1, HDC.out.2] <;> rfl, below2 hb1 (below2 KB.out hb7)⟩
end Go.Proofs.YtodnodekheaacaaGreatDoor
