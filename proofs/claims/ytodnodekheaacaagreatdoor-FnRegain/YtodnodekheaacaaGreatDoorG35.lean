import Derived.Test.YtodnodekheaacaaGreatDoorG32
import Derived.Test.YtodnodekheaacaaGreatDoorG33
import Derived.Test.YtodnodekheaacaaGreatDoorG29
set_option maxHeartbeats 8000000
set_option maxRecDepth 2000
open Go.ChangeShapes Go.WideShapes Go.ChangeAt Go.RowKit
namespace Go.Proofs.YtodnodekheaacaaGreatDoor
theorem tells_congr {W W' : Nat → Nat} {N k : Nat} (h : ∀ q, q < N → W q = W' q) (ht : tells W N k) : tells W' N k := by
 obtain ⟨h1, h2, h3, h4⟩ := ht
 have e0 := h 0 (by omega)
 have e1 := h 1 (by omega)
 refine ⟨h1, by rw [← e0, ← e1]; exact h2, by rw [← e0, ← e1]; exact h3, fun q hq hq2 => ?_⟩
 rw [← h q hq2]
 exact h4 q (by rw [e0, e1]; exact hq) hq2
theorem tl_congr {W W' : Nat → Nat} {N k : Nat} (hk : 1 ≤ k) (h : ∀ q, q < N → W q = W' q) : tlB W N k = tlB W' N k ∧ tlS W N k = tlS W' N k := by
 by_cases ht : tells W N k
 ·have ht' := tells_congr h ht
  refine ⟨(tl_yes ht).1.trans (tl_yes ht').1.symm, ?_⟩
  rw [(tl_yes ht).2, (tl_yes ht').2]
  have e0 := h 0 (by have := ht.1; omega)
  have e1 := h 1 (by have := ht.1; omega)
  unfold told
  rw [← e0, ← e1]
  refine txt_congr fun q hq => h (q + 2) ?_
  have h1 := blen_ge (s := W 0 * 256 + W 1) hk
  have h2 := ht.2.2.1
  rw [← h2] at h1
  omega
 ·have ht' : ¬ tells W' N k := fun h' => ht (tells_congr (fun q hq => (h q hq).symm) h')
  exact ⟨(tl_no ht).1.trans (tl_no ht').1.symm, (tl_no ht).2.trans (tl_no ht').2.symm⟩
theorem first_fs {K M : Nat} {S : Nat → ByteArray} (h : Rgt (K : Int) (M : Int) (eI (fun i => i) K) K S) {t : Nat} (ht : t < K) (p : Nat) : fsT K M (eI (fun i => i) K) S t p = tat (S t) p := by
 obtain ⟨q1, q2, q3⟩ := sprOk_parts h.1
 obtain ⟨_, _, io, hbz⟩ := spread_pick h.diff (eI_len _ _) (show 1 ≤ K by omega) (show K ≤ M by omega) (by omega)
 have hbk : ∀ t j, t < K → j < K → bkM M K (eI (fun i => i) K) t j = Gm.dl t j := fun t j ht hj =>
  iv_dl (bZ_byt _ _ _) (fun a b ha hb => by
   have := hbz a b ha hb
   rw [eI_getD _ _ _ ha, Int.toNat_natCast] at this
   refine Eq.trans this ?_
   unfold Gm.sprd
   rw [if_pos ha]) io.2.2 ht hj
 unfold fsT
 rw [Gm.mp_congr (A' := Gm.dl) (B' := fun i p => tat (S i) p) (fun u hu => hbk t u ht hu) (fun _ _ => rfl)]
 exact Gm.mp_dl ht (tat_lt _ _)
theorem dc_again {K M : Nat} {zs : List Int} {S : Nat → ByteArray} (hr : Rgt (K : Int) (M : Int) zs K S) :
  dcB (K : Int) (M : Int) (eI (fun i => i) K) K (bdS (K : Int) (M : Int) zs S) = dcB (K : Int) (M : Int) zs K S ∧ dcS (K : Int) (M : Int) (eI (fun i => i) K) K (bdS (K : Int) (M : Int) zs S) = dcS (K : Int) (M : Int) zs K S := by
 have hr' := agr_rgt (bd_agr hr)
 obtain ⟨q1, q2, q3⟩ := sprOk_parts hr.1
 obtain ⟨e1, e2⟩ := dc_yes hr
 obtain ⟨f1, f2⟩ := dc_yes hr'
 rw [e1, e2, f1, f2, bd_size]
 have key : ∀ q, q < K * (S 0).size → fsW K M (eI (fun i => i) K) (bdS (K : Int) (M : Int) zs S) q = fsW K M zs S q := fun q hq => by
  unfold fsW
  rw [bd_size]
  obtain ⟨l, hl⟩ : ∃ l, (S 0).size = l := ⟨_, rfl⟩
  rw [hl] at hq ⊢
  have hl0 : 0 < l := by
   rcases Nat.eq_zero_or_pos l with h | h
   ·rw [h, Nat.mul_zero] at hq; omega
   ·exact h
  have ht : q / l < K := (Nat.div_lt_iff_lt_mul hl0).2 hq
  have hp : q % l < (S 0).size := by rw [hl]; exact Nat.mod_lt _ hl0
  unfold whl
  rw [first_fs hr' ht, bdS_is, tat_txt hp (Gm.mp_byt _ _ _ _ _)]
  exact bod_first (fsT_byt K M zs S) ht
 exact tl_congr (show 1 ≤ K by omega) key
theorem zsQ_all (K : Nat) (Q : Nat → Pc) : zsQ K (allQ K Q) = eI (fun i => i) K := rfl
theorem sQ_all (K : Nat) (Q : Nat → Pc) : sQ (allQ K Q) = alQ K Q := rfl
theorem rs_rg {root : ByteArray} {K : Nat} {Q : Nat → Pc} {e : Ending} (h : RsE root K Q e) : RgE root K Q e := by
 have key : Cm root K Q → dcB (Q 0).k (Q 0).n (zsQ K (allQ K Q)) K (sQ (allQ K Q)) = dcB (Q 0).k (Q 0).n (zsQ K Q) K (sQ Q) ∧ dcS (Q 0).k (Q 0).n (zsQ K (allQ K Q)) K (sQ (allQ K Q)) = dcS (Q 0).k (Q 0).n (zsQ K Q) K (sQ Q) := fun hc => by
  have hr := hc.1
  obtain ⟨q1, q2, q3⟩ := sprOk_parts hr.1
  have hk : (Q 0).k = (K : Int) := hr.2.2.1.symm
  obtain ⟨N, hN⟩ := Int.eq_ofNat_of_zero_le (show 0 ≤ (Q 0).n by omega)
  rw [zsQ_all, sQ_all]
  unfold alQ
  rw [hk, hN] at hr ⊢
  exact dc_again hr
 rcases h with ⟨h1, h2⟩ | ⟨h1, h2, h3⟩ | ⟨h1, h2, h3⟩
 ·exact .inl ⟨h1, h2⟩
 ·exact .inr (.inl ⟨h1, by rw [← (key h1).1]; exact h2, h3⟩)
 ·exact .inr (.inr ⟨h1, by rw [← (key h1).1]; exact h2, by rw [← (key h1).2]; exact h3⟩)
end Go.Proofs.YtodnodekheaacaaGreatDoor
