import Derived.Test.YtmhcdkbgjjibeaaGreatDoorG18
set_option maxHeartbeats 8000000
set_option maxRecDepth 2000
open Go.ChangeShapes Go.WideShapes Go.ChangeAt Go.RowKit
namespace Go.Proofs.YtmhcdkbgjjibeaaGreatDoor
noncomputable def tlB (W : Nat → Nat) (N k : Nat) : Bool := @decide (tells W N k) (Classical.propDecidable _)
noncomputable def tlS (W : Nat → Nat) (N k : Nat) : ByteArray := if tlB W N k = true then told W else ByteArray.empty
theorem tl_yes {W : Nat → Nat} {N k : Nat} (h : tells W N k) : tlB W N k = true ∧ tlS W N k = told W := by
 have e : tlB W N k = true := by unfold tlB; exact @decide_eq_true _ (Classical.propDecidable _) h
 exact ⟨e, by unfold tlS; rw [if_pos e]⟩
theorem tl_no {W : Nat → Nat} {N k : Nat} (h : ¬ tells W N k) : tlB W N k = false ∧ tlS W N k = ByteArray.empty := by
 have e : tlB W N k = false := by unfold tlB; exact @decide_eq_false _ (Classical.propDecidable _) h
 exact ⟨e, by unfold tlS; rw [if_neg (by rw [e]; simp)]⟩
set_option maxRecDepth 100000 in
theorem unframed_any (g N K : Nat) (W : Nat → Nat) (w : World) (h : ∀ q, q < N → w.cell? ⟨g, q, none⟩ = some (.int .u8 ((W q : Nat) : Int))) (hW : ∀ q, W q < 256) (hN : N ≤ 100000000) (hK : 1 ≤ K ∧ K ≤ 16) :
  Calls Tryz.prog 73 #[.slice (some ⟨g, 0, none⟩) N N, .int .i64 (K : Int)] w fun e w' => e = .returned (.tuple #[.string (tlS W N K), .bool (tlB W N K)]) ∧ Below w.heap.size w w' := by
 obtain ⟨hK1, hK16⟩ := hK
 have KH : Hid (∀ q, q < N → w.cell? ⟨g, q, none⟩ = some (.int .u8 ((W q : Nat) : Int))) := h
 have KW : Hid (∀ q, W q < 256) := hW
 by_cases h2 : N < 2
 case pos =>
  obtain ⟨e1, e2⟩ := tl_no (W := W) (N := N) (k := K) (fun h => by have := h.1; omega)
  rw [e1, e2]
  have h2' : (N : Int) < 2 := by omega
  clear h hW
  go_enter Tryz.func73, Tryz.ntmps73
  go_wp2
  go_ret2
  exact ⟨rfl, Below.refl _ _⟩
 have h2' : ¬ (N : Int) < 2 := by omega
 have hc0 := h 0 (by omega)
 have hc1 := h 1 (by omega)
 have hx := hW 0
 have hy := hW 1
 have hN0 : (0 : Int) < (N : Int) := by omega
 have hN1 : (1 : Int) < (N : Int) := by omega
 obtain ⟨x, ex⟩ : ∃ x, W 0 = x := ⟨_, rfl⟩
 obtain ⟨y, ey⟩ : ∃ y, W 1 = y := ⟨_, rfl⟩
 obtain ⟨sz, hsz⟩ : ∃ sz, W 0 * 256 + W 1 = sz := ⟨_, rfl⟩
 have KSZ : Hid (W 0 * 256 + W 1 = sz) := hsz
 rw [ex] at hc0 hx hsz
 rw [ey] at hc1 hy hsz
 have hsum : (x : Int) * 256 + (y : Int) = (sz : Int) := by omega
 clear ex ey h hW hsz
 by_cases h3 : sz ≤ 2000
 case neg =>
  obtain ⟨e1, e2⟩ := tl_no (W := W) (N := N) (k := K) (fun h => by have := h.2.1; rw [KSZ.out] at this; omega)
  rw [e1, e2]
  have hB := fun w => bodyLen_any (sz : Int) (K : Int) w
  rw [blI_no (by omega)] at hB
  have hne : ((N : Int) != -(K : Int)) = true := by rw [bne_iff_ne]; omega
  clear h3
  go_enter Tryz.func73, Tryz.ntmps73
  go_wp2_with fail
  go_quiet (fail)
  go_wp2_with (go_at_call 112; refine (hB _).mono ?_; rintro e w' ⟨rfl, hw⟩; obtain rfl := hw.symm)
  go_ret2
  exact ⟨rfl, below_drewN (Below.refl _ _) _⟩
 have hB := fun w => bodyLen_any (sz : Int) (K : Int) w
 rw [blI_yes h3 hK1 hK16] at hB
 have hbg := blen_ge (s := sz) hK1
 have hble := blen_le (s := sz) hK1
 obtain ⟨l, hl⟩ : ∃ l, blen sz K = l := ⟨_, rfl⟩
 have KL : Hid (blen sz K = l) := hl
 rw [hl] at hB hbg hble
 obtain ⟨NN, hNN⟩ : ∃ NN, K * l = NN := ⟨_, rfl⟩
 have hNb : NN ≤ 100000 := by rw [← hNN]; exact Nat.le_trans (Nat.mul_le_mul hK16 hble) (by omega)
 rw [hNN] at hbg
 have hm : (K : Int) * (l : Int) = (NN : Int) := by rw [← hNN, Int.natCast_mul]
 have hwm : IntKind.i64.wrap ((K : Int) * (l : Int)) = (NN : Int) := by rw [hm, IntKind.wrap_i64]; omega
 have KNN : Hid (K * l = NN) := hNN
 clear hl hNN hm
 by_cases h4 : N = NN
 case neg =>
  obtain ⟨e1, e2⟩ := tl_no (W := W) (N := N) (k := K) (fun h => by have := h.2.2.1; rw [KSZ.out, KL.out, KNN.out] at this; omega)
  rw [e1, e2]
  have hne : ((N : Int) != (NN : Int)) = true := by rw [bne_iff_ne]; omega
  clear h4
  go_enter Tryz.func73, Tryz.ntmps73
  go_wp2_with fail
  go_quiet (fail)
  go_wp2_with (go_at_call 112; refine (hB _).mono ?_; rintro e w' ⟨rfl, hw⟩; obtain rfl := hw.symm)
  go_ret2
  exact ⟨rfl, below_drewN (Below.refl _ _) _⟩
 subst h4
 have hne : ((N : Int) != (N : Int)) = false := by simp
 obtain ⟨E, hE⟩ : ∃ E, 2 + sz = E := ⟨_, rfl⟩
 have hwe : IntKind.i64.wrap (2 + (sz : Int)) = (E : Int) := by rw [IntKind.wrap_i64]; omega
 have hsE : (2 : Int) + (sz : Int) = (E : Int) := by omega
 have hEN : (E : Int) ≤ (N : Int) := by omega
 have hE2 : (2 : Int) ≤ (E : Int) := by omega
 have KE : Hid (2 + sz = E) := hE
 obtain ⟨R, hR⟩ : ∃ R, N - E = R := ⟨_, rfl⟩
 have KTL : Hid ((∀ p, p < R → W (E + p) = 0) → tlB W N K = true ∧ tlS W N K = strOfNums (eI (fun q => W (q + 2)) sz)) := fun hz => by
  have ht : tells W N K := ⟨by omega, by rw [KSZ.out]; omega, by rw [KSZ.out, KL.out, KNN.out], fun q h1 h2 => by
   rw [KSZ.out] at h1
   have := hz (q - E) (by omega)
   rw [show E + (q - E) = q by omega] at this
   exact this⟩
  obtain ⟨e1, e2⟩ := tl_yes ht
  refine ⟨e1, e2.trans ?_⟩
  unfold told txt
  rw [KSZ.out]
 have KNO : Hid (∀ p, p < R → W (E + p) ≠ 0 → tlB W N K = false ∧ tlS W N K = ByteArray.empty) := fun p hp hne => tl_no (fun h => hne (h.2.2.2 (E + p) (by rw [KSZ.out]; omega) (by omega)))
 have hN2 : (2 : Int) ≤ (N : Int) := by omega
 have hE2n : 2 ≤ E := by omega
 by_cases h6 : N = 2
 case pos =>
  subst h6
  obtain rfl : sz = 0 := by omega
  obtain rfl : R = 0 := by omega
  obtain rfl : E = 2 := by omega
  obtain ⟨e1, e2⟩ := KTL.out (fun p hp => absurd hp (by omega))
  rw [e1, e2]
  clear e1 e2
  go_enter Tryz.func73, Tryz.ntmps73
  go_wp2_with fail
  go_quiet (fail)
  have hcv := run_convert_bytes_arg (P := Tryz.prog) (w.drewN nq) 129 5 Tryz.underlying129 Tryz.underlying5 g 0 0 0 (eI (fun q => W (q + 2)) 0) (eI_len _ _) (fun i hi => absurd hi (by omega)) 9 Tryz.underlying9
  go_wp2_with (go_at_call 112; refine (hB _).mono ?_; rintro e w' ⟨rfl, hw⟩; obtain rfl := hw.symm)
  go_loop [37] (fun i => i = .int .i64 0) (fun _ => 0)
  case atStart => exact rfl
  case round =>
   subst hrel
   go_wp2
   go_ret2
   exact ⟨rfl, below_drewN (Below.refl _ _) _⟩
 have hNE : ¬ N - 2 = 0 := by omega
 have hsz2 : E - 2 = sz := by omega
 by_cases h5 : R = 0
 case pos =>
  subst h5
  obtain ⟨e1, e2⟩ := KTL.out (fun p hp => absurd hp (by omega))
  rw [e1, e2]
  clear e1 e2
  go_enter Tryz.func73, Tryz.ntmps73
  go_wp2_with fail
  go_quiet (fail)
  have hcv := run_convert_bytes_arg (P := Tryz.prog) (w.drewN nq) 129 5 Tryz.underlying129 Tryz.underlying5 g 2 sz (N - 2) (eI (fun q => W (q + 2)) sz) (eI_len _ _) (fun i hi => by
   have h1 := KH.out (i + 2) (by omega)
   rw [eI_getD _ _ _ hi, Nat.add_comm 2 i]
   exact ((below_drewN (Below.refl w.heap.size w) nq).cell (p := ⟨g, i + 2, none⟩) (block_lt_of_cell h1)).trans h1) 9 Tryz.underlying9
  go_wp2_with (go_at_call 112; refine (hB _).mono ?_; rintro e w' ⟨rfl, hw⟩; obtain rfl := hw.symm)
  go_loop [37] (fun i => i = .int .i64 0) (fun _ => 0)
  case atStart => exact rfl
  case round =>
   subst hrel
   go_wp2
   go_ret2
   exact ⟨rfl, below_drewN (Below.refl _ _) _⟩
 have h5' : ¬ N - E = 0 := by omega
 have hRb : R ≤ 100000 := by omega
 have KRN : Hid (E + R = N) := by show _ = _; omega
 go_enter Tryz.func73, Tryz.ntmps73
 go_wp2_with fail
 go_quiet (fail)
 have hcv := run_convert_bytes_arg (P := Tryz.prog) (w.drewN nq) 129 5 Tryz.underlying129 Tryz.underlying5 g 2 sz (N - 2) (eI (fun q => W (q + 2)) sz) (eI_len _ _) (fun i hi => by
  have h1 := KH.out (i + 2) (by omega)
  rw [eI_getD _ _ _ hi, Nat.add_comm 2 i]
  exact ((below_drewN (Below.refl w.heap.size w) nq).cell (p := ⟨g, i + 2, none⟩) (block_lt_of_cell h1)).trans h1) 9 Tryz.underlying9
 have KHD : Hid (∀ q, q < N → (w.drewN nq).cell? ⟨g, q, none⟩ = some (.int .u8 ((W q : Nat) : Int))) := fun q hq => by
  have h1 := KH.out q hq
  exact ((below_drewN (Below.refl w.heap.size w) nq).cell (p := ⟨g, q, none⟩) (block_lt_of_cell h1)).trans h1
 go_wp2_with (go_at_call 112; refine (hB _).mono ?_; rintro e w' ⟨rfl, hw⟩; obtain rfl := hw.symm)
 clear hB hwm
 go_loop [37] (fun i => ∃ q : Nat, q ≤ R ∧ i = .int .i64 (q : Int) ∧ Hid (∀ p, p < q → W (E + p) = 0)) (fun i => R - (intOf i).toNat)
 case atStart => exact ⟨0, Nat.zero_le _, rfl, fun p hp => absurd hp (by omega)⟩
 case round =>
  obtain ⟨q, hq, rfl, HG⟩ := hrel
  by_cases hlt : q < R
  ·have hqi : (q : Int) < (R : Int) := by omega
   have hcq := KHD.out (E + q) (by have := KRN.out; omega)
   obtain ⟨v, hv⟩ : ∃ v, W (E + q) = v := ⟨_, rfl⟩
   rw [hv] at hcq
   have KV : Hid (W (E + q) = v) := hv
   clear hv
   by_cases hv0 : v = 0
   ·have hv' : ((v : Int) != 0) = false := by simp [hv0]
    have HG2 : Hid (∀ p, p < q + 1 → W (E + p) = 0) := fun p hp => by
     by_cases e : p = q
     ·subst e
      rw [KV.out]
      exact hv0
     ·exact HG.out p (by omega)
    clear HG hv0
    go_wp2
    go_round
    case rel => exact ⟨q + 1, by omega, by go_num, HG2.out⟩
    case measure => simp [intOf] <;> omega
   ·have hv' : ((v : Int) != 0) = true := by rw [bne_iff_ne]; omega
    obtain ⟨e1, e2⟩ := KNO.out q hlt (by rw [KV.out]; exact hv0)
    have HE : Hid (tlB W N K = false ∧ tlS W N K = ByteArray.empty) := ⟨e1, e2⟩
    clear HG hv0 e1 e2
    go_wp2
    go_ret2
    exact ⟨by rw [HE.out.1, HE.out.2] <;> rfl, below_drewN (Below.refl _ _) _⟩
  ·obtain rfl : q = R := by omega
   obtain ⟨e1, e2⟩ := KTL.out HG.out
   have HE : Hid (tlB W N K = true ∧ tlS W N K = strOfNums (eI (fun q => W (q + 2)) sz)) := ⟨e1, e2⟩
   clear HG e1 e2
   go_wp2
   go_ret2
   exact ⟨by rw [HE.out.1, HE.out.2] <;> rfl, below_drewN (Below.refl _ _) _⟩
noncomputable def fsT (k n : Nat) (zs : List Int) (S : Nat → ByteArray) : Nat → Nat → Nat := Gm.mp k (bkM n k zs) (fun i p => tat (S i) p)
noncomputable def fsW (k n : Nat) (zs : List Int) (S : Nat → ByteArray) : Nat → Nat := whl (fsT k n zs S) (S 0).size
theorem fsW_lt (k n : Nat) (zs : List Int) (S : Nat → ByteArray) (q : Nat) : fsW k n zs S q < 256 := whl_byt (fun _ _ => Gm.mp_byt _ _ _ _ _) _ _
noncomputable def dcB (k n : Int) (zs : List Int) (nb : Nat) (S : Nat → ByteArray) : Bool := if rgt k n zs nb S = true then tlB (fsW k.toNat n.toNat zs S) (k.toNat * (S 0).size) k.toNat else false
noncomputable def dcS (k n : Int) (zs : List Int) (nb : Nat) (S : Nat → ByteArray) : ByteArray := if rgt k n zs nb S = true then tlS (fsW k.toNat n.toNat zs S) (k.toNat * (S 0).size) k.toNat else ByteArray.empty
theorem dc_no {k n : Int} {zs : List Int} {nb : Nat} {S : Nat → ByteArray} (h : ¬ Rgt k n zs nb S) : dcB k n zs nb S = false ∧ dcS k n zs nb S = ByteArray.empty := by
 unfold dcB dcS
 rw [rgt_no h]
 exact ⟨rfl, rfl⟩
theorem dc_yes {K M : Nat} {zs : List Int} {nb : Nat} {S : Nat → ByteArray} (h : Rgt (K : Int) (M : Int) zs nb S) : dcB (K : Int) (M : Int) zs nb S = tlB (fsW K M zs S) (K * (S 0).size) K ∧ dcS (K : Int) (M : Int) zs nb S = tlS (fsW K M zs S) (K * (S 0).size) K := by
 unfold dcB dcS
 rw [rgt_yes h]
 exact ⟨rfl, rfl⟩
def upto (W : Nat → Nat) (m i : Nat) : Nat := if i < m then W i else 0
theorem upto_step {T : Nat → Nat → Nat} {l q : Nat} (i : Nat) : ovl (upto (whl T l) (q * l)) (q * l) l (T q) i = upto (whl T l) (q * l + l) i := by
 unfold ovl upto
 by_cases h1 : q * l ≤ i ∧ i < q * l + l
 ·rw [if_pos h1, if_pos h1.2]
  have := whl_at (T := T) (l := l) (i := q) (p := i - q * l) (by omega)
  rw [show q * l + (i - q * l) = i by omega] at this
  exact this.symm
 ·rw [if_neg h1]
  by_cases h2 : i < q * l
  ·rw [if_pos h2, if_pos (by omega)]
  ·rw [if_neg h2, if_neg (by omega)]
set_option maxRecDepth 100000 in
theorem decode_any (k n : Int) (pa : Option Addr) (np pc : Nat) (zs : List Int) (a : Option Addr) (nb c : Nat) (S : Nat → ByteArray) (w : World) (hz : IntsAt w pa np zs) (h : TxtAt w a nb S) (hnp : np ≤ 1048576) (hnb : nb ≤ 1048576) (hl : 0 < nb → (S 0).size ≤ 1048576) :
  Calls Tryz.prog 47 #[.int .i64 k, .int .i64 n, .slice pa np pc, .slice a nb c] w fun e w' => e = .returned (.tuple #[.string (dcS k n zs nb S), .bool (dcB k n zs nb S)]) ∧ Below w.heap.size w w' := by
 obtain ⟨i0, hi, hz0, hz1, hz2⟩ := info_parts Tryz.infoByte
 have KOP : Hid _ := opened_any k n pa np pc zs a nb c S w hz h hnp hnb
 by_cases hr : Rgt k n zs nb S
 case neg =>
  obtain ⟨e1, e2⟩ := dc_no hr
  rw [e1, e2]
  rw [rgt_no hr] at KOP
  clear hr h hz e1 e2 hi hz0 hz1 hz2
  go_enter Tryz.func47, Tryz.ntmps47
  go_wp2_with fail
  refine Calls.mono KOP.out ?_
  rintro e w1 ⟨v, u, rfl, _, hb1⟩
  go_wp2
  go_ret2
  exact ⟨rfl, hb1⟩
 obtain ⟨g1, g2, g3, g4, g5⟩ := hr
 obtain ⟨q1, q2, q3⟩ := sprOk_parts g1
 have hr : Rgt k n zs nb S := ⟨g1, g2, g3, g4, g5⟩
 rw [rgt_yes hr] at KOP
 obtain ⟨K, rfl⟩ := Int.eq_ofNat_of_zero_le (show 0 ≤ k by omega)
 obtain ⟨M, rfl⟩ := Int.eq_ofNat_of_zero_le (show 0 ≤ n by omega)
 obtain rfl : nb = K := by omega
 obtain ⟨e1, e2⟩ := dc_yes hr
 have HDC : Hid (dcB (nb : Int) (M : Int) zs nb S = tlB (fsW nb M zs S) (nb * (S 0).size) nb ∧ dcS (nb : Int) (M : Int) zs nb S = tlS (fsW nb M zs S) (nb * (S 0).size) nb) := ⟨e1, e2⟩
 clear e1 e2
 have KRG : Hid (Rgt (nb : Int) (M : Int) zs nb S) := hr
 rw [Int.toNat_natCast, Int.toNat_natCast] at KOP
 obtain ⟨b, off, rfl, hcs⟩ := h.some (show 0 < nb by omega)
 have hc0 := hcs 0 (by omega)
 rw [Nat.add_zero] at hc0
 have hn0 : (0 : Int) < (nb : Int) := by omega
 have hn1 : 1 ≤ nb := by omega
 have hn16 : nb ≤ 16 := by omega
 obtain ⟨l, hll⟩ : ∃ l, (S 0).size = l := ⟨_, rfl⟩
 have hl1 : 1 ≤ l ∧ l ≤ 1048576 := by have := hl (by omega); omega
 have KSZ : Hid (∀ i, i < nb → (S i).size = l) := fun i hi => by rw [(g5 i hi).2.1, hll]
 have KFW : Hid (fsW nb M zs S = whl (fsT nb M zs S) l) := by show _ = _; unfold fsW; rw [hll]
 rw [hll] at HDC
 obtain ⟨s0, hs0⟩ : ∃ s, S 0 = s := ⟨_, rfl⟩
 rw [hs0] at hc0 hll
 obtain ⟨N, hNN⟩ : ∃ N, nb * l = N := ⟨_, rfl⟩
 have hNb : N ≤ 16777216 := by rw [← hNN]; exact Nat.le_trans (Nat.mul_le_mul hn16 hl1.2) (by omega)
 have hm : (nb : Int) * (l : Int) = (N : Int) := by rw [← hNN, Int.natCast_mul]
 have hwm : IntKind.i64.wrap ((nb : Int) * (l : Int)) = (N : Int) := by rw [hm, IntKind.wrap_i64]; omega
 have KNN : Hid (nb * l = N) := hNN
 rw [hNN] at HDC
 have KH : Hid (TxtAt w (some ⟨b, off, none⟩) nb S) := h
 have KC0 : Hid (w.cell? ⟨b, off, none⟩ = some (.string s0)) := hc0
 clear hm hNN hs0 hc0 hcs h hz hr g1 g2 g3 g4 g5 hl
 go_enter Tryz.func47, Tryz.ntmps47
 go_wp2_with fail
 refine Calls.mono KOP.out ?_
 rintro e w1 ⟨v, u, rfl, hvu, hb1⟩
 obtain ⟨⟨x1, y1, rfl, MM⟩, x2, y2, rfl, MB⟩ := hvu KRG.out
 have K2 : Hid (MatAt w1 x2 nb (fun _ => nb) (fun i j => ((bkM M nb zs i j : Nat) : Int))) := MB
 have KH1 : Hid (TxtAt w1 (some ⟨b, off, none⟩) nb S) := KH.out.below hb1
 have hc0 := (hb1.cell (p := ⟨b, off, none⟩) (block_lt_of_cell KC0.out)).trans KC0.out
 clear hvu MM MB KH KOP KC0
 go_wp2_with (at_make; refine wpList_make_full _ rfl _ _ 129 rfl w1.heap.size 5 i0 (.int .u8 0) 1 Tryz.underlying129 hi hz0 hz1 .i64 .i64 _ _ N rfl rfl rfl rfl (by rw [hz2]; omega) (by unfold maxLen; omega) (Nat.le_refl _) ?_; intro w2 hown hgrow)
 have hb2 : Below w1.heap.size w1 w2 := (Below.refl _ _).grown hgrow (Nat.le_refl _) (by simp)
 have K3 : Hid (OwnB w2 w1.heap.size w1.heap.size N N (upto (whl (fsT nb M zs S) l) (0 * l))) := (madeB hown).congr (fun i _ => by unfold upto; rw [if_neg (by omega)])
 clear hown hgrow hi hz0 hz1 hz2 hc0 hwm
 go_loopw [38] (fun i wr => ∃ q : Nat, q ≤ nb ∧ i = .int .i64 (q : Int) ∧ OwnB wr w1.heap.size w1.heap.size N N (upto (whl (fsT nb M zs S) l) (q * l)) ∧ Below w1.heap.size w1 wr) (fun i _ => nb - (intOf i).toNat)
 case atStart => exact ⟨0, Nat.zero_le _, rfl, K3.out, hb2⟩
 case round =>
  obtain ⟨q, hq, rfl, hown, hbel⟩ := hrel
  clear K3 hb2
  by_cases hlt : q < nb
  ·have hqi : (q : Int) < (nb : Int) := by omega
   obtain ⟨b1, off1, ai, ci, rfl, hc1, hr1⟩ := (K2.out.below hbel).rowE hlt
   have hTT := KH1.out.below hbel
   have KRS : Hid (∀ W, Below wr.heap.size wr W → Calls Tryz.prog 72 #[.slice ai nb ci, .slice (some ⟨b, off, none⟩) nb c] W fun e w' => ∃ G, e = .returned (.slice (some ⟨G, 0, none⟩) l l) ∧ (∀ p, p < l → w'.cell? ⟨G, p, none⟩ = some (.int .u8 ((fsT nb M zs S q p : Nat) : Int))) ∧ Below W.heap.size W w') := fun W hW => by
    have := rowSumS_any ai ci (bkM M nb zs q) (some ⟨b, off, none⟩) c nb l S W (hr1.below hW) (hTT.below hW) KSZ.out ⟨hn1, hn16⟩ hl1 (fun i => bkM_byt _ _ _ q i)
    refine Calls.mono this ?_
    rintro e w' ⟨he, hO, hb⟩
    exact ⟨_, he, fun p hp => hO.cell hp, hb⟩
   obtain ⟨o, ho⟩ : ∃ o, q * l = o := ⟨_, rfl⟩
   have hol : o + l ≤ N := by
    rw [← ho, ← KNN.out]
    have := Nat.mul_le_mul_right l (show q + 1 ≤ nb by omega)
    rw [Nat.succ_mul] at this
    exact this
   have hm : (q : Int) * (l : Int) = (o : Int) := by rw [← ho, Int.natCast_mul]
   have hwo : IntKind.i64.wrap ((q : Int) * (l : Int)) = (o : Int) := by rw [hm, IntKind.wrap_i64]; omega
   have KST : Hid (∀ i, ovl (upto (whl (fsT nb M zs S) l) o) o l (fsT nb M zs S q) i = upto (whl (fsT nb M zs S) l) ((q + 1) * l) i) := fun i => by rw [← ho, Nat.succ_mul]; exact upto_step i
   rw [ho] at hown
   have hoN : (o : Int) ≤ (N : Int) := by omega
   have hoN2 : ¬ N - o = 0 := by omega
   have hl20 := hl1.2
   have KO : Hid (OwnB wr w1.heap.size w1.heap.size N N (upto (whl (fsT nb M zs S) l) o)) := hown
   have KB : Hid (Below w1.heap.size w1 wr) := hbel
   have hgB := hown.lt
   clear hr1 hTT hown hbel hm ho
   go_wp2_with fail
   go_region_law ((first | (guard_hyp KO5; refine step_copyB (by rfl) _ _ (by rfl) (some ⟨w1.heap.size, o, none⟩) (N - o) (N - o) G l l (by rfl) (by rfl) w1.heap.size w1.heap.size N (upto (whl (fsT nb M zs S) l) o) (fsT nb M zs S q) KO5.out o (by rfl) (by omega) (by omega) hO5 ?_; intro w6 hO6 hg6) | (go_simp; go_wp2_with (go_at_call 72; refine Calls.mono (KRS.out _ ⟨rfl, rfl, rfl, Nat.le_refl _, fun _ _ => rfl⟩) ?_; rintro e w5 ⟨G, rfl, hO5, hb5'⟩; have hb5 := below_of_drew hb5'; clear hb5'; have KO5 : Hid (OwnB w5 w1.heap.size w1.heap.size N N (upto (whl (fsT nb M zs S) l) o)) := KO.out.below hb5))))
   all_goals
    have HO : Hid (OwnB w6 w1.heap.size w1.heap.size N N (upto (whl (fsT nb M zs S) l) ((q + 1) * l))) := OwnB.congr hO6 (fun i _ => KST.out i)
    have HB : Hid (Below w1.heap.size w1 w6) := (below2 KB.out hb5).grown hg6 (below2 KB.out hb5).size (fun j hj => by cases hj; exact Nat.le_refl _)
    clear hO6 hg6 hb5 hO5 KO5 KO KB KRS KST
    go_wp2
    go_roundw
    case rel => exact ⟨q + 1, by omega, by go_num, HO.out, HB.out⟩
    case measure => simp [intOf] <;> omega
  ·obtain rfl : q = nb := by omega
   have KW : Hid (∀ i, i < N → wr.cell? ⟨w1.heap.size, i, none⟩ = some (.int .u8 ((fsW q M zs S i : Nat) : Int))) := fun i hi => by
    rw [hown.cell hi, KFW.out]
    unfold upto
    rw [KNN.out, if_pos hi]
   have KB : Hid (Below w1.heap.size w1 wr) := hbel
   have KUN : Hid _ := unframed_any w1.heap.size N q (fsW q M zs S) wr KW.out (fsW_lt _ _ _ _) (by omega) ⟨hn1, hn16⟩
   clear hown hbel
   go_wp2_with fail
   refine Calls.mono KUN.out ?_
   rintro e w7 ⟨rfl, hb7⟩
   go_wp2
   go_ret2
   exact ⟨by rw [HDC.out.1, HDC.out.2] <;> rfl, below2 hb1 (below2 KB.out hb7)⟩
theorem ba_eq' {s u : ByteArray} (h : s = u) : (s.toList == u.toList) = true := by rw [h]; simp
theorem txt_app {W f : Nat → Nat} {m l : Nat} (hf : ∀ p, p < l → f p = W (m + p)) (hW : ∀ q, W q < 256) : txt W m ++ txt f l = txt W (m + l) := by
 refine txt_is (by rw [ByteArray.size_append, txt_size, txt_size]) (fun k hk => ?_)
 have hs : k < (txt W m ++ txt f l).size := by rw [ByteArray.size_append, txt_size, txt_size]; exact hk
 rw [tat_in _ _ hs]
 by_cases h : k < m
 ·have h1 : k < (txt W m).size := by rw [txt_size]; exact h
  rw [ByteArray.getElem_append_left h1, ← tat_in _ _ h1, tat_txt h (hW k)]
 ·have h1 : (txt W m).size ≤ k := by rw [txt_size]; omega
  have h2 : k - (txt W m).size < (txt f l).size := by rw [txt_size, txt_size]; omega
  rw [ByteArray.getElem_append_right h1, ← tat_in _ _ h2, txt_size]
  have hp := hf (k - m) (by omega)
  rw [show m + (k - m) = k by omega] at hp
  rw [tat_txt (by omega) (by rw [hp]; exact hW k), hp]
theorem txt_cut {W : Nat → Nat} {N sz : Nat} (h : 2 + sz ≤ N) (hW : ∀ q, W q < 256) : (txt W N).extract 2 (2 + sz) = txt (fun q => W (q + 2)) sz := by
 refine txt_is (by rw [ByteArray.size_extract, txt_size]; omega) (fun k hk => ?_)
 have hs : k < ((txt W N).extract 2 (2 + sz)).size := by rw [ByteArray.size_extract, txt_size]; omega
 have h1 : 2 + k < (txt W N).size := by rw [txt_size]; omega
 rw [tat_in _ _ hs, ByteArray.getElem_extract hs, ← tat_in _ _ h1, tat_txt (by omega) (hW _), Nat.add_comm]
theorem dec_iff {T : Nat → Nat → Nat} {l k : Nat} (hT : Gm.Byt T) (hk : 1 ≤ k) (h0 : 2 ≤ k * l) (h1 : whl T l 0 * 256 + whl T l 1 ≤ 2000) :
  tells (whl T l) (k * l) k ↔ ∀ i, i < k → encS (told (whl T l)) k i = txt (T i) l := by
 have hW : ∀ q, whl T l q < 256 := whl_byt hT l
 have hl : 0 < l := Nat.pos_of_ne_zero fun e => by rw [e] at h0; omega
 have hz : (told (whl T l)).size = whl T l 0 * 256 + whl T l 1 := txt_size _ _
 have hE : ∀ i, encS (told (whl T l)) k i = txt (Gm.mp k (Gm.sprd k) (pcs (frm (told (whl T l))) (blen (whl T l 0 * 256 + whl T l 1) k)) i) (blen (whl T l 0 * 256 + whl T l 1) k) := fun i => by
  unfold encS enc
  rw [hz]
  rfl
 have hF : ∀ q, frm (told (whl T l)) q < 256 := fun q => frm_lt (by omega) q
 have hFB : ∀ m, Gm.Byt (pcs (frm (told (whl T l))) m) := fun m i p => hF _
 rw [tells_iff hW hk h0 h1]
 constructor
 ·rintro ⟨h2, h3⟩ i hi
  rw [hE i, h2]
  refine txt_congr (fun p hp => ?_)
  rw [bod_first (hFB l) hi]
  show frm (told (whl T l)) (i * l + p) = T i p
  have : i * l + p < k * l := by
   have := Nat.mul_le_mul_right l (show i + 1 ≤ k by omega)
   rw [Nat.succ_mul] at this
   omega
  rw [h3 _ this, whl_at hp]
 ·intro h
  have h2 : blen (whl T l 0 * 256 + whl T l 1) k = l := by
   have := congrArg ByteArray.size (h 0 (by omega))
   rw [hE 0, txt_size, txt_size] at this
   exact this
  refine ⟨h2, fun q hq => ?_⟩
  have hi : q / l < k := Nat.div_lt_of_lt_mul (by rw [Nat.mul_comm]; exact hq)
  have hp : q % l < l := Nat.mod_lt _ hl
  have h3 : tat (encS (told (whl T l)) k (q / l)) (q % l) = tat (txt (T (q / l)) l) (q % l) := by rw [h (q / l) hi]
  rw [hE, h2, tat_txt hp (Gm.mp_byt _ _ _ _ _), tat_txt hp (hT _ _), bod_first (hFB l) hi] at h3
  have e : q / l * l + q % l = q := by rw [Nat.mul_comm, Nat.div_add_mod]
  have h4 : frm (told (whl T l)) (q / l * l + q % l) = T (q / l) (q % l) := h3
  rw [e] at h4
  exact h4
set_option maxRecDepth 100000 in
theorem sDecode_any (k n : Int) (pa : Option Addr) (np pc : Nat) (zs : List Int) (a : Option Addr) (nb c : Nat) (S : Nat → ByteArray) (w : World) (hz : IntsAt w pa np zs) (h : TxtAt w a nb S) (hl : 0 < nb → (S 0).size ≤ 1048576) :
  Calls Tryz.prog 36 #[.int .i64 k, .int .i64 n, .slice pa np pc, .slice a nb c] w fun e w' => e = .returned (.tuple #[.string (dcS k n zs nb S), .bool (dcB k n zs nb S)]) ∧ Below w.heap.size w w' := by
 have KRT : Hid _ := sRight_any k n pa np pc zs a nb c S w hz h
 by_cases hr : Rgt k n zs nb S
 case neg =>
  obtain ⟨e1, e2⟩ := dc_no hr
  rw [e1, e2]
  rw [rgt_no hr] at KRT
  clear hr h hz e1 e2
  go_enter Tryz.func36, Tryz.ntmps36
  go_wp2_with fail
  refine Calls.mono KRT.out ?_
  rintro e w1 ⟨rfl, hb1⟩
  go_wp2
  go_ret2
  exact ⟨rfl, hb1⟩
 obtain ⟨g1, g2, g3, g4, g5⟩ := hr
 obtain ⟨q1, q2, q3⟩ := sprOk_parts g1
 have hr : Rgt k n zs nb S := ⟨g1, g2, g3, g4, g5⟩
 rw [rgt_yes hr] at KRT
 obtain ⟨K, rfl⟩ := Int.eq_ofNat_of_zero_le (show 0 ≤ k by omega)
 obtain ⟨M, rfl⟩ := Int.eq_ofNat_of_zero_le (show 0 ≤ n by omega)
 obtain rfl : nb = K := by omega
 obtain ⟨e1, e2⟩ := dc_yes hr
 rw [e1, e2]
 clear e1 e2
 have hl' : (S 0).size ≤ 1048576 := hl (by omega)
 have KFS : Hid (∀ w, IntsAt w pa np zs → TxtAt w a nb S → Calls Tryz.prog 59 #[.int .i64 (nb : Int), .int .i64 (M : Int), .slice pa np pc, .slice a nb c] w fun e w' => ∃ v, e = .returned v ∧ ResT w w' v nb (fsS (nb : Int) (M : Int) zs S) ∧ Below w.heap.size w w') := fun w h1 h2 => sFirst_any nb M pa np pc zs a c S w h1 h2 hr hl'
 obtain ⟨l, hll⟩ : ∃ l, (S 0).size = l := ⟨_, rfl⟩
 have hfs : fsS (nb : Int) (M : Int) zs S = fun i => txt (fsT nb M zs S i) l := by
  funext i
  unfold fsS fsT
  rw [Int.toNat_natCast, Int.toNat_natCast, hll]
  rfl
 have hfw : fsW nb M zs S = whl (fsT nb M zs S) l := by unfold fsW; rw [hll]
 have hT : Gm.Byt (fsT nb M zs S) := fun _ _ => Gm.mp_byt _ _ _ _ _
 rw [hfs] at KFS
 rw [hfw, hll]
 rw [hll] at hl' g4
 have hn1 : 1 ≤ nb := by omega
 have hn16 : nb ≤ 16 := by omega
 have KOK : Hid (sprOk (nb : Int) (M : Int) = true) := g1
 generalize fsT nb M zs S = T at KFS hT
 clear hfs hfw hr g1 g2 g3 g5 hll hl
 have hl1 : 1 ≤ l := by omega
 clear g4
 have hW : ∀ q, whl T l q < 256 := whl_byt hT l
 obtain ⟨N, hNN⟩ : ∃ N, nb * l = N := ⟨_, rfl⟩
 have hNb : N ≤ 16777216 := by rw [← hNN]; exact Nat.le_trans (Nat.mul_le_mul hn16 hl') (by omega)
 have KNN : Hid (nb * l = N) := hNN
 have KIF : Hid (2 ≤ N → whl T l 0 * 256 + whl T l 1 ≤ 2000 → (tells (whl T l) N nb ↔ ∀ i, i < nb → encS (told (whl T l)) nb i = txt (T i) l)) := fun h0 h1 => by
  rw [← hNN] at h0 ⊢
  exact dec_iff hT hn1 h0 h1
 rw [hNN]
 have KWH : Hid (∀ q p, p < l → T q p = whl T l (q * l + p)) := fun q p hp => (whl_at hp).symm
 have KTT : Hid (Gm.Byt T) := hT
 have KW : Hid (∀ q, whl T l q < 256) := hW
 generalize whl T l = W at KIF KWH KW hW
 have KH : Hid (TxtAt w a nb S) := h
 have KZ : Hid (IntsAt w pa np zs) := hz
 have KAP : Hid (∀ q, txt W (q * l) ++ txt (T q) l = txt W ((q + 1) * l)) := fun q => by
  rw [Nat.succ_mul]
  exact txt_app (fun p hp => KWH.out q p hp) hW
 clear h hz hNN hT hW
 go_enter Tryz.func36, Tryz.ntmps36
 go_wp2_with fail
 refine Calls.mono KRT.out ?_
 rintro e w0 ⟨rfl, hb0⟩
 have KZ0 : Hid (IntsAt w0 pa np zs) := KZ.out.below hb0
 have KH0 : Hid (TxtAt w0 a nb S) := KH.out.below hb0
 clear KZ KH KRT
 go_wp2_with fail
 refine Calls.mono (KFS.out _ KZ0.out KH0.out) ?_
 rintro e w2 ⟨v2, rfl, hR2, hb2⟩
 obtain ⟨x2, y2, rfl, hO2⟩ := hR2
 have K2 : Hid (TxtAt w2 x2 nb (fun i => txt (T i) l)) := OwnT.at hO2
 have hb02 := below2 hb0 hb2
 clear hO2 KFS KZ0 KH0
 go_wp2
 go_loop [11, 12] (fun v i => ∃ q : Nat, q ≤ nb ∧ i = .int .i64 (q : Int) ∧ v = .string (txt W (q * l))) (fun _ i => nb - (intOf i).toNat)
 case atStart => exact ⟨0, Nat.zero_le _, rfl, by rw [Nat.zero_mul] <;> rfl⟩
 case round =>
  obtain ⟨q, hq, rfl, rfl⟩ := hrel
  by_cases hlt : q < nb
  ·have hqi : (q : Int) < (nb : Int) := by omega
   obtain ⟨b, off, rfl, hcq⟩ := K2.out q hlt
   have hap := KAP.out q
   have hs1 : (txt W (q * l)).size ≤ 16777216 := by
    rw [txt_size]
    have := Nat.mul_le_mul_right l (show q ≤ nb by omega)
    have := KNN.out
    omega
   have hs2 : (txt (T q) l).size ≤ 1048576 := by rw [txt_size]; exact hl'
   have HNX : Hid (txt W ((q + 1) * l) = txt W ((q + 1) * l)) := rfl
   obtain ⟨nx, hnx⟩ : ∃ nx, txt W ((q + 1) * l) = nx := ⟨_, rfl⟩
   have KNX : Hid (txt W ((q + 1) * l) = nx) := hnx
   rw [hnx] at hap
   clear hnx HNX
   generalize txt W (q * l) = cur at hap hs1
   simp only at hcq
   generalize txt (T q) l = tq at hcq hap hs2
   go_wp2
   go_round
   case rel => exact ⟨q + 1, by omega, by go_num, by rw [KNX.out]⟩
   case measure => simp [intOf] <;> omega
  ·obtain rfl : q = nb := by omega
   rw [KNN.out]
   clear KAP
   have hasz := txt_size W N
   by_cases h2 : N < 2
   case pos =>
    have HE : Hid (tlB W N q = false ∧ tlS W N q = ByteArray.empty) := tl_no (fun h => by have := h.1; omega)
    have h2' : (N : Int) < 2 := by omega
    clear h2
    generalize txt W N = all at hasz
    go_wp2
    go_ret2
    exact ⟨by rw [HE.out.1, HE.out.2] <;> rfl, hb02⟩
   have h2' : ¬ (N : Int) < 2 := by omega
   have h0s : 0 < (txt W N).size := by rw [hasz]; omega
   have h1s : 1 < (txt W N).size := by rw [hasz]; omega
   have hx := KW.out 0
   have hy := KW.out 1
   have hx0 : (txt W N)[0].toNat = W 0 := by rw [← tat_in _ _ h0s, tat_txt (by omega) hx]
   have hy0 : (txt W N)[1].toNat = W 1 := by rw [← tat_in _ _ h1s, tat_txt (by omega) hy]
   have KCT : Hid (∀ z, 2 + z ≤ N → (txt W N).extract 2 (2 + z) = txt (fun q => W (q + 2)) z) := fun z hz => txt_cut hz KW.out
   obtain ⟨x, ex⟩ : ∃ x, W 0 = x := ⟨_, rfl⟩
   obtain ⟨y, ey⟩ : ∃ y, W 1 = y := ⟨_, rfl⟩
   obtain ⟨sz, hsz⟩ : ∃ sz, W 0 * 256 + W 1 = sz := ⟨_, rfl⟩
   have KSZ : Hid (W 0 * 256 + W 1 = sz) := hsz
   rw [hsz] at KIF
   rw [ex] at hx hx0 hsz
   rw [ey] at hy hy0 hsz
   have hsum : (x : Int) * 256 + (y : Int) = (sz : Int) := by omega
   generalize txt W N = all at hasz h0s h1s hx0 hy0 KCT
   clear ex ey hsz
   by_cases h3 : sz ≤ 2000
   case neg =>
    have HE : Hid (tlB W N q = false ∧ tlS W N q = ByteArray.empty) := tl_no (fun h => by have := h.2.1; rw [KSZ.out] at this; omega)
    have h3' : (2000 : Int) < (sz : Int) := by omega
    clear h3
    go_wp2_with fail
    go_quiet (fail)
    go_wp2
    go_ret2
    exact ⟨by rw [HE.out.1, HE.out.2] <;> rfl, below_drewN hb02 _⟩
   have h3' : ¬ (2000 : Int) < (sz : Int) := by omega
   obtain ⟨E, hE⟩ : ∃ E, 2 + sz = E := ⟨_, rfl⟩
   have hE1 : (sz : Int) + 2 = (E : Int) := by omega
   have hE2 : 2 + (sz : Int) = (E : Int) := by omega
   by_cases h4 : E ≤ N
   case neg =>
    have HE : Hid (tlB W N q = false ∧ tlS W N q = ByteArray.empty) := tl_no (fun h => by
     have h5 := h.2.2.1
     rw [KSZ.out] at h5
     have h6 := blen_ge (s := sz) (k := q) (by omega)
     omega)
    have h4' : (N : Int) < (E : Int) := by omega
    clear h4
    go_wp2_with fail
    go_quiet (fail)
    go_wp2
    go_ret2
    exact ⟨by rw [HE.out.1, HE.out.2] <;> rfl, below_drewN hb02 _⟩
   have h4' : ¬ (N : Int) < (E : Int) := by omega
   have h40 : (E : Int) ≤ (N : Int) := by omega
   have h42 : (2 : Int) ≤ (E : Int) := by omega
   have h43 : (E : Int) ≤ (all.size : Int) := by rw [hasz]; omega
   have hdat : all.extract 2 E = told W := by
    rw [← hE, KCT.out sz (by omega)]
    unfold told
    rw [KSZ.out]
   have hdz : (told W).size = sz := by unfold told; rw [txt_size, KSZ.out]
   have hif := KIF.out (by omega) h3
   have KYES : Hid ((∀ i, i < q → encS (told W) q i = txt (T i) l) → tlB W N q = true ∧ tlS W N q = told W) := fun h => tl_yes (hif.2 h)
   have KNOT : Hid (∀ i, i < q → encS (told W) q i ≠ txt (T i) l → tlB W N q = false ∧ tlS W N q = ByteArray.empty) := fun i hi hne => tl_no (fun h => hne (hif.1 h i hi))
   have hok : encOk (told W) (q : Int) (M : Int) = true := by unfold encOk; rw [KOK.out]; simp; omega
   have hR : encR (told W) (q : Int) (M : Int) = M := by unfold encR; rw [if_pos hok]; simp
   have KEN : Hid (∀ w, Calls Tryz.prog 60 #[.string (told W), .int .i64 (q : Int), .int .i64 (M : Int)] w fun e w' => ∃ v, e = .returned (.tuple #[v, .bool true]) ∧ ResT w w' v M (encS (told W) q) ∧ Below w.heap.size w w') := fun w => by
    have := sEncode_any (told W) (q : Int) (M : Int) w (by omega)
    rw [hok, hR, Int.toNat_natCast] at this
    exact this
   clear hok hR hif hdz KIF KCT
   generalize told W = dat at hdat KYES KNOT KEN
   clear h3 h4 hE
   go_wp2_with fail
   go_quiet (fail)
   go_wp2_with fail
   refine Calls.mono (KEN.out _) ?_
   rintro e w5 ⟨v5, rfl, hR5, hb5⟩
   obtain ⟨x5, y5, rfl, hO5⟩ := hR5
   have K5 : Hid (TxtAt w5 x5 M (encS dat q)) := OwnT.at hO5
   have hb25 : Below w2.heap.size w2 w5 := below2 (below_drewN (Below.refl _ _) _) hb5
   have K25 : Hid (TxtAt w5 x2 q (fun i => txt (T i) l)) := K2.out.below hb25
   have hb05 := below2 hb02 hb25
   clear hO5 hb5 hb25 K2 KEN
   go_wp2
   clear hx0 hy0 hasz h0s h1s hdat
   go_loopw [17] (fun i wr => ∃ p : Nat, p ≤ q ∧ i = .int .i64 (p : Int) ∧ Hid (∀ i, i < p → encS dat q i = txt (T i) l) ∧ Below w5.heap.size w5 wr) (fun i _ => q - (intOf i).toNat)
   case atStart => exact ⟨0, Nat.zero_le _, rfl, fun i hi => absurd hi (by omega), Below.refl _ _⟩
   case round =>
    obtain ⟨p, hp, rfl, HG, hbel⟩ := hrel
    by_cases hpq : p < q
    ·have hpi : (p : Int) < (q : Int) := by omega
     have hpM : (p : Int) < (M : Int) := by omega
     obtain ⟨b5, off5, rfl, hc5⟩ := K5.out.below hbel p (by omega)
     obtain ⟨b2, off2, rfl, hc2⟩ := K25.out.below hbel p hpq
     simp only at hc2
     by_cases hE : encS dat q p = txt (T p) l
     ·have hbq : ((encS dat q p).toList == (txt (T p) l).toList) = true := ba_eq' hE
      have HG2 : Hid (∀ i, i < p + 1 → encS dat q i = txt (T i) l) := fun i hi => by
       by_cases e : i = p
       ·subst e
        exact hE
       ·exact HG.out i (by omega)
      generalize encS dat q p = s5 at hc5 hbq
      generalize txt (T p) l = s2 at hc2 hbq
      clear HG hE
      go_wp2_with fail
      go_quiet (fail)
      go_wp2
      go_roundw
      case rel => exact ⟨p + 1, by omega, by go_num, HG2.out, below_drewN hbel _⟩
      case measure => simp [intOf] <;> omega
     ·have hbq : ((encS dat q p).toList == (txt (T p) l).toList) = false := ba_ne hE
      have HE : Hid (tlB W N q = false ∧ tlS W N q = ByteArray.empty) := KNOT.out p hpq hE
      generalize encS dat q p = s5 at hc5 hbq
      generalize txt (T p) l = s2 at hc2 hbq
      clear HG hE
      go_wp2_with fail
      go_quiet (fail)
      go_wp2
      go_ret2
      exact ⟨by rw [HE.out.1, HE.out.2] <;> rfl, below2 hb05 (below_drewN hbel _)⟩
    ·obtain rfl : p = q := by omega
     have HE : Hid (tlB W N p = true ∧ tlS W N p = dat) := KYES.out HG.out
     clear HG
     go_wp2
     go_ret2
     exact ⟨by rw [HE.out.1, HE.out.2] <;> rfl, below2 hb05 hbel⟩
end Go.Proofs.YtmhcdkbgjjibeaaGreatDoor
namespace Go.Proofs.YtmhcdkbgjjibeaaGreatDoor
open Go.Proofs.YtmhcdkbgjjibeaaGreatDoor.Gp (m m_lt m_comm m_one)
end Go.Proofs.YtmhcdkbgjjibeaaGreatDoor
namespace Go.Proofs.YtmhcdkbgjjibeaaGreatDoor
theorem fsT_byt (k n : Nat) (zs : List Int) (S : Nat → ByteArray) : Gm.Byt (fsT k n zs S) := fun _ _ => Gm.mp_byt _ _ _ _ _
theorem bdS_is (K M : Nat) (zs : List Int) (S : Nat → ByteArray) (i : Nat) : bdS (K : Int) (M : Int) zs S i = txt (Gm.mp K (Gm.sprd K) (fsT K M zs S) i) (S 0).size := by
 rw [← bd_fs, Int.toNat_natCast]
 refine txt_congr (fun p hp => Gm.mp_congr (fun _ _ => rfl) (fun t _ => ?_))
 have e : fsS (K : Int) (M : Int) zs S t = txt (fsT K M zs S t) (S 0).size := by
  unfold fsS fsT
  rw [Int.toNat_natCast, Int.toNat_natCast]
  rfl
 rw [e, tat_txt hp (fsT_byt K M zs S t p)]
theorem bd_size (K M : Nat) (zs : List Int) (S : Nat → ByteArray) (i : Nat) : (bdS (K : Int) (M : Int) zs S i).size = (S 0).size := by rw [bdS_is, txt_size]
theorem bd_self {K M : Nat} {zs : List Int} {S : Nat → ByteArray} {i p : Nat} (hp : p < (S 0).size) : Gm.mp K (Gm.sprd K) (fun t p => tat (bdS (K : Int) (M : Int) zs S t) p) i p = tat (bdS (K : Int) (M : Int) zs S i) p := by
 rw [bdS_is, tat_txt hp (Gm.mp_byt _ _ _ _ _)]
 refine Gm.mp_congr (fun _ _ => rfl) (fun t ht => ?_)
 show tat (bdS (K : Int) (M : Int) zs S t) p = _
 rw [bdS_is, tat_txt hp (Gm.mp_byt _ _ _ _ _)]
 exact bod_first (fsT_byt K M zs S) ht
theorem bd_agr {K M : Nat} {zs : List Int} {nb : Nat} {S : Nat → ByteArray} (hr : Rgt (K : Int) (M : Int) zs nb S) : Agr (K : Int) (M : Int) M (bdS (K : Int) (M : Int) zs S) := by
 refine ⟨hr.1, ⟨rfl, fun i _ => ⟨by rw [bd_size]; exact hr.2.2.2.1, by rw [bd_size, bd_size]⟩⟩, fun i _ => ?_⟩
 rw [Int.toNat_natCast, bd_size]
 symm
 exact txt_is (bd_size _ _ _ _ _) (fun p hp => (bd_self hp).symm)
end Go.Proofs.YtmhcdkbgjjibeaaGreatDoor
