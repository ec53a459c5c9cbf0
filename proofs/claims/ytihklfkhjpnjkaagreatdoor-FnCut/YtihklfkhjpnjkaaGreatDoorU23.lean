import Derived.Test.YtihklfkhjpnjkaaGreatDoorU20
import Derived.Test.YtihklfkhjpnjkaaGreatDoorU16
set_option maxHeartbeats 8000000
set_option maxRecDepth 2000
open Go.ChangeShapes Go.WideShapes Go.ChangeAt Go.RowKit
namespace Go.Proofs.YtihklfkhjpnjkaaGreatDoor
open Gt (nb hf up jn)
def upTo (k m : Nat) (T : Nat → ByteArray) : Nat → ByteArray := fun i => if i < k then up m T i else ByteArray.empty
theorem results_row {fn : Func} {p : Tmp} (h : fn.results = #[.cell p 119]) (tmps : Array Value) (w : World) (g : Nat) (T : Nat → ByteArray) (m : Nat)
  (hp : tmps.getD p undef = .pointer (some ⟨g, 0, none⟩)) (hr : Row w g 119 (rowC T m)) : (results fn tmps).run Tryz.prog w = .ok (RwV T m) w :=
 results_cell_row h tmps w g 119 (rowC T m) (0, 0) _ hp hr Tryz.underlying119 rfl (by rw [Tryz.infoRw, rowC_size])
theorem upTo_set (k m : Nat) (T : Nat → ByteArray) (s : ByteArray) (hs : s = up m T k) : (fun j => if j = k then s else upTo k m T j) = upTo (k + 1) m T := by
 funext j
 unfold upTo
 by_cases e : j = k
 ·subst e; simp [hs]
 ·by_cases e2 : j < k
  ·simp [e, e2, show j < k + 1 by omega]
  ·simp [e, e2, show ¬ j < k + 1 by omega]
theorem upTo_set2 (k m : Nat) (T : Nat → ByteArray) (r s : ByteArray) (hs : s = up m T k) : (fun j => if j = k then s else (if j = k then r else upTo k m T j)) = upTo (k + 1) m T := by
 rw [← upTo_set k m T s hs]
 funext j
 by_cases e : j = k <;> simp [e]
theorem rowAbove_any (T : Nat → ByteArray) (m : Nat) (w : World) (hm : 1 ≤ m) (hm64 : m ≤ 64) (hS : ∀ i, i < m → (T i).size = 16) :
  Calls Tryz.prog 141 #[RwV T m] w fun e w' => e = .returned (RwV (up m T) (hf m)) ∧ Below w.heap.size w w' := by
 have hq : hf m ≤ 32 := by unfold hf; omega
 have hmq : hf m ≤ m := by unfold hf; omega
 obtain ⟨q, Hq⟩ : ∃ q, Hid (hf m = q) := ⟨_, rfl⟩
 have KA : Hid (∀ W, Calls Tryz.prog 142 #[.int .i64 (m : Int)] W fun e w' => e = .returned (.int .i64 (q : Int)) ∧ w' = W) := fun W => by rw [← Hq.out]; exact sizeAbove_any m W (by omega)
 rw [Hq.out] at hq hmq ⊢
 obtain ⟨B, hB⟩ : ∃ B, w.heap.size = B := ⟨_, rfl⟩
 obtain ⟨w1, HW1⟩ : ∃ w1, Hid (w1 = w.alloc (.cells (rowC T m) 119)) := ⟨_, rfl⟩
 have K1 : Hid (Row w1 B 119 (rowC T m) ∧ Below B w w1 ∧ w1.heap.size = B + 1) := by rw [HW1.out, ← hB]; exact ⟨Row.new w _ _, (Below.refl _ _).alloc (Nat.le_refl _) _, by simp⟩
 obtain ⟨w2, HW2⟩ : ∃ w2, Hid (w2 = w1.alloc (.cells (rowC noT 0) 119)) := ⟨_, rfl⟩
 have K2 : Hid (Row w2 B 119 (rowC T m) ∧ Row w2 (B + 1) 119 (rowC noT 0) ∧ Below B w w2 ∧ w2.heap.size = B + 2) := by
  rw [HW2.out]
  have h1 := K1.out.2.2
  refine ⟨K1.out.1.alloc _, ?_, K1.out.2.1.alloc (by omega) _, by simp; omega⟩
  have := Row.new w1 (rowC noT 0) 119
  rw [h1] at this
  exact this
 obtain ⟨w3, HW3⟩ : ∃ w3, Hid (w3 = w2.alloc (.cells (rowC noT q) 119)) := ⟨_, rfl⟩
 have HS3 : Hid ((w2.alloc (.cells (rowC noT 0) 119)).setRow w2.heap.size (rowC noT q) = w3) := by rw [HW3.out]; exact setRow_alloc _ _ _ _
 have K3 : Hid (Row w3 B 119 (rowC T m) ∧ Row w3 (B + 1) 119 (rowC noT 0) ∧ Row w3 (B + 2) 119 (rowC noT q) ∧ Below B w w3) := by
  rw [HW3.out]
  have h1 := K2.out.2.2.2
  refine ⟨K2.out.1.alloc _, K2.out.2.1.alloc _, ?_, K2.out.2.2.1.alloc (by omega) _⟩
  have := Row.new w2 (rowC noT q) 119
  rw [h1] at this
  exact this
 have hz1 := K1.out.2.2
 have hz2 := K2.out.2.2.2
 have c64 : w2.cell? ⟨B, 64, none⟩ = some (.int .i64 (m : Int)) := by rw [K2.out.1.cell 64, rowC_last]
 have d64 : w3.cell? ⟨B + 2, 64, none⟩ = some (.int .i64 (q : Int)) := by rw [K3.out.2.2.1.cell 64, rowC_last]
 have KT : Hid (∀ i, i < m → (T i).size = 16) := hS
 clear hS
 go_enter Tryz.func141, Tryz.ntmps141
 go_wp2_with (first | (refine p_box (by rfl) _ (by rfl) T m (by rfl) ?_; rw [← HW1.out]) | (refine p_alloc (by rfl) (by rfl) ?_; first | rw [← HW2.out] | skip) | (refine p_build (by rfl) _ (by rfl) q (by rfl) ?_) | (refine p_store (by rfl) _ _ (by rfl) w2.heap.size (by rfl) noT q (by rfl) noT 0 (Row.new w2 _ _) ?_; rw [HS3.out]) | (go_at_call 142; refine (KA.out _).mono ?_; rintro e w' ⟨rfl, hw⟩; obtain rfl := hw.symm))
 go_loopw [14] (fun vi wr => ∃ k : Nat, k ≤ q ∧ vi = .int .i64 (k : Int) ∧ Row wr B 119 (rowC T m) ∧ Row wr (B + 1) 119 (rowC noT 0) ∧ Row wr (B + 2) 119 (rowC (upTo k m T) q) ∧ Below B w wr) (fun vi _ => q - (intOf vi).toNat)
 case atStart =>
  refine ⟨0, Nat.zero_le _, rfl, K3.out.1, K3.out.2.1, ?_, K3.out.2.2.2⟩
  have := K3.out.2.2.1
  rw [rowC_congr q (T' := upTo 0 m T) (fun i _ => by simp [noT, upTo])] at this
  exact this
 case round =>
  obtain ⟨k, hk, rfl, r0, r1, r2, hbel⟩ := hrel
  clear c64 d64 hz1 hz2 K1 K2 K3 HW1 HW2 HW3 HS3 KA
  by_cases hlt : k < q
  ·have hlti : (k : Int) < (q : Int) := by omega
   have h2k : 2 * k < m := by have := Hq.out; unfold hf at this; omega
   have c64 : wr.cell? ⟨B, 64, none⟩ = some (.int .i64 (m : Int)) := by rw [r0.cell 64, rowC_last]
   obtain ⟨p, hp⟩ : ∃ p, 2 * k = p := ⟨_, rfl⟩
   have hw2 : IntKind.i64.wrap (2 * (k : Int)) = (p : Int) := by rw [IntKind.wrap_i64]; omega
   have hp64 : (p : Int) < 64 := by omega
   have h2k' : p < m := by omega
   have hk64' : k < 64 := by omega
   have hk64 : (k : Int) < 64 := by omega
   obtain ⟨R, hR⟩ : ∃ R, wr.heap.size = R := ⟨_, rfl⟩
   have hRB : B + 2 < R := by have := r2.lt; omega
   obtain ⟨w4, HW4⟩ : ∃ w4, Hid (w4 = wr.alloc (.cells #[.int .i64 (p : Int), .int .i64 (m : Int)] 124)) := ⟨_, rfl⟩
   have K4 : Hid (Row w4 B 119 (rowC T m) ∧ Row w4 (B + 1) 119 (rowC noT 0) ∧ Row w4 (B + 2) 119 (rowC (upTo k m T) q) ∧ Row w4 R 124 #[.int .i64 (p : Int), .int .i64 (m : Int)] ∧ Below B w w4) := by
    rw [HW4.out, ← hR]
    exact ⟨r0.alloc _, r1.alloc _, r2.alloc _, Row.new wr _ _, hbel.alloc (by omega) _⟩
   obtain ⟨w5, HW5⟩ : ∃ w5, Hid (w5 = (wr.setCell ⟨B + 2, k, none⟩ (.string (T p))).alloc (.cells #[.int .i64 (p : Int), .int .i64 (m : Int)] 124)) := ⟨_, rfl⟩
   have K5 : Hid (Row w5 B 119 (rowC T m) ∧ Row w5 (B + 1) 119 (rowC noT 0) ∧ Row w5 (B + 2) 119 (rowC (fun j => if j = k then T p else upTo k m T j) q) ∧ Row w5 R 124 #[.int .i64 (p : Int), .int .i64 (m : Int)] ∧ Below B w w5) := by
    rw [HW5.out]
    refine ⟨(r0.other _ _ (by omega)).alloc _, (r1.other _ _ (by omega)).alloc _, ?_, ?_, (hbel.setCell (by simp) _).alloc (by simp; omega) _⟩
    ·have := r2.set k (.string (T p))
     rw [rowC_set _ _ _ _ (by omega)] at this
     exact this.alloc _
    ·have := Row.new (wr.setCell ⟨B + 2, k, none⟩ (.string (T p))) #[.int .i64 (p : Int), .int .i64 (m : Int)] 124
     rw [show (wr.setCell ⟨B + 2, k, none⟩ (.string (T p))).heap.size = R by simp [hR]] at this
     exact this
   have e0 := K4.out.2.2.2.1.cell 0
   have e1 : w4.cell? ⟨B, p, none⟩ = some (.string (T p)) := by rw [K4.out.1.cell p, rowC_get _ _ _ (by omega)]
   have e2 : w4.cell? ⟨B + 2, k, none⟩ = some (.string (upTo k m T k)) := by rw [K4.out.2.2.1.cell k, rowC_get _ _ _ (by omega)]
   have g2 := K4.out.2.2.1.free k
   have s0 := K5.out.2.2.2.1.cell 0
   have s1 := K5.out.2.2.2.1.cell 1
   simp at e0 s0 s1
   generalize upTo k m T k = old at e2
   obtain ⟨tp, htp⟩ : ∃ tp, T p = tp := ⟨_, rfl⟩
   rw [htp] at e1
   have HW5' : Hid ((wr.setCell ⟨B + 2, k, none⟩ (.string tp)).alloc (.cells #[.int .i64 (p : Int), .int .i64 (m : Int)] 124) = w5) := by show _ = _; rw [HW5.out, htp]
   rw [← HW5'.out] at s0 s1
   rw [HW4.out] at e0 e1 e2 g2
   have KN : Hid (∀ w0, Calls Tryz.prog 107 #[SpV (p : Int) (m : Int)] w0 fun e w' => e = .returned (.tuple #[.int .i64 ((p + 1 : Nat) : Int), .bool (decide (p + 1 < m))]) ∧ Below w0.heap.size w0 w') := by
    have hnb : nb p = p + 1 := by unfold nb; rw [if_pos (by omega)]
    have := fun w0 => neighbour_any p m w0 (by omega)
    rw [hnb] at this
    exact this
   obtain ⟨p1, hp1⟩ : ∃ p1, p + 1 = p1 := ⟨_, rfl⟩
   rw [hp1] at KN
   clear hbel r0 r1 r2
   go_wp2_with fail
   rw [HW5'.out]
   refine (KN.out _).mono ?_
   rintro e w6 ⟨rfl, hb6⟩
   have K6 : Hid (Row w6 B 119 (rowC T m) ∧ Row w6 (B + 1) 119 (rowC noT 0) ∧ Row w6 (B + 2) 119 (rowC (fun j => if j = k then T p else upTo k m T j) q) ∧ Row w6 R 124 #[.int .i64 (p : Int), .int .i64 (m : Int)] ∧ Below B w w6) := by
    obtain ⟨a0, a1, a2, a3, a4⟩ := K5.out
    exact ⟨a0.below hb6 a0.lt, a1.below hb6 a1.lt, a2.below hb6 a2.lt, a3.below hb6 a3.lt, a4.trans (hb6.mono (by have := a0.lt; omega))⟩
   clear e0 e1 e2 g2 s0 s1 c64 HW5' HW5 HW4 K4 K5 hb6
   by_cases hok : p1 < m
   ·have hd : decide (p1 < m) = true := by simpa using hok
    have HU : Hid (jn tp (T p1) = up m T k) := by
     show _ = _
     unfold up
     rw [if_pos (by omega), show 2 * k + 1 = p1 by omega, hp, htp]
    obtain ⟨t1, ht1⟩ : ∃ t1, T p1 = t1 := ⟨_, rfl⟩
    have z0 := KT.out p h2k'
    have z1 := KT.out p1 hok
    rw [htp] at z0
    rw [ht1] at z1 HU
    have HJ : Hid (∀ w0, Calls Tryz.prog 119 #[.string tp, .string t1] w0 fun e w' => e = .returned (.string (jn tp t1)) ∧ Below w0.heap.size w0 w') := fun w0 => join_any _ _ w0 (by omega) (by omega)
    have e0 := K6.out.2.2.2.1.cell 0
    have e1 : w6.cell? ⟨B, p, none⟩ = some (.string tp) := by rw [K6.out.1.cell p, rowC_get _ _ _ (by omega), htp]
    have e2 : w6.cell? ⟨B, p1, none⟩ = some (.string t1) := by rw [K6.out.1.cell p1, rowC_get _ _ _ (by omega), ht1]
    have hp164 : (p1 : Int) < 64 := by omega
    simp at e0
    have lB := K6.out.1.lt
    have hne1 : ¬ R = B + 2 := by omega
    have hne2 : ¬ B + 2 = R := by omega
    have lR := K6.out.2.2.2.1.lt
    generalize jn tp t1 = z at HJ HU
    clear htp ht1 z0 z1 hok
    go_wp2_with fail
    go_region_held3 (fun w' => w'.cell? ⟨R, 0, none⟩ = some (.int .i64 (p : Int)) ∧ w'.cell? ⟨B, p, none⟩ = some (.string tp) ∧ w'.cell? ⟨B, p1, none⟩ = some (.string t1)) (go_keep) ((go_at_call 119; refine Calls.mono (HJ.out _) ?_; rintro e w9 ⟨rfl, hb9'⟩; have hb9 := below_of_drew hb9'; clear hb9'; have g0 := (hb9.cell (p := ⟨R, 0, none⟩) lR).trans e0; have g1 := (hb9.cell (p := ⟨B, p, none⟩) lB).trans e1; have g2 := (hb9.cell (p := ⟨B, p1, none⟩) lB).trans e2; have g3 := (K6.out.2.2.1.below hb9 K6.out.2.2.1.lt).cell k; have g4 := (K6.out.2.2.1.below hb9 K6.out.2.2.1.lt).free k; rw [rowC_get _ _ _ hk64'] at g3))
    have HR : Hid (Row (w9.setCell ⟨B + 2, k, none⟩ (.string z)) B 119 (rowC T m) ∧ Row (w9.setCell ⟨B + 2, k, none⟩ (.string z)) (B + 1) 119 (rowC noT 0) ∧ Row (w9.setCell ⟨B + 2, k, none⟩ (.string z)) (B + 2) 119 (rowC (upTo (k + 1) m T) q) ∧ Below B w (w9.setCell ⟨B + 2, k, none⟩ (.string z))) := by
     obtain ⟨a0, a1, a2, a3, a4⟩ := K6.out
     refine ⟨(a0.below hb9 a0.lt).other _ _ (by omega), (a1.below hb9 a1.lt).other _ _ (by omega), ?_, (a4.trans (hb9.mono (Nat.le_of_lt a0.lt))).setCell (by simp) _⟩
     have := (a2.below hb9 a2.lt).set k (.string z)
     rw [rowC_set _ _ _ _ hk64', upTo_set2 k m T _ _ HU.out] at this
     exact this
    clear g0 g1 g2 g3 g4 e0 e1 e2
    go_wp2
    go_roundw
    case rel => exact ⟨k + 1, by omega, by go_num, HR.out.1, HR.out.2.1, HR.out.2.2.1, HR.out.2.2.2⟩
    case measure => simp [intOf]; omega
   ·have hd : decide (p1 < m) = false := by simpa using hok
    have HU : Hid (T p = up m T k) := by
     show _ = _
     unfold up
     rw [if_neg (by omega), if_pos (by omega), hp]
    have HR : Hid (Row w6 (B + 2) 119 (rowC (upTo (k + 1) m T) q)) := by
     have := K6.out.2.2.1
     rw [upTo_set k m T _ HU.out] at this
     exact this
    go_wp2
    go_roundw
    case rel => exact ⟨k + 1, by omega, by go_num, K6.out.1, K6.out.2.1, HR.out, K6.out.2.2.2.2⟩
    case measure => simp [intOf]; omega
  ·obtain rfl : k = q := by omega
   have HE : Hid (rowC (upTo k m T) k = rowC (up m T) k) := by
    show _ = _
    refine rowC_congr k (fun i _ => ?_)
    unfold upTo
    by_cases e : i < k
    ·rw [if_pos e]
    ·rw [if_neg e, Gt.up_pad m T i (by have := Hq.out; omega)]
   rw [HE.out] at r2
   have HF : Hid (Row (wr.setRow (B + 1) (rowC (up m T) k)) (B + 1) 119 (rowC (up m T) k) ∧ Below B w (wr.setRow (B + 1) (rowC (up m T) k))) := ⟨r1.row, belowSetRow hbel (by omega) _⟩
   go_wp2_with (first | (refine p_load (by rfl) _ (by rfl) (B + 2) (by rfl) (up m T) k r2 ?_) | (refine p_store (by rfl) _ _ (by rfl) (B + 1) (by rfl) (up m T) k (by rfl) noT 0 r1 ?_))
   refine bodyPost_ret (results_row Tryz.results141 _ _ (B + 1) (up m T) k (by rfl) HF.out.1) rfl ⟨rfl, ?_⟩
   rw [hB]
   exact HF.out.2
end Go.Proofs.YtihklfkhjpnjkaaGreatDoor
namespace Go.Proofs.YtihklfkhjpnjkaaGreatDoor
open Go.ChangeShapes Go.WideShapes Go.ChangeAt Go.RowKit Go.Shelf
open Gt (hf up)
abbrev RSt := Bool × Nat × (Nat → ByteArray)
abbrev rEnc (s : RSt) : Array Value := #[RwV s.2.2 s.2.1]
abbrev rOk (s : RSt) : Prop := s.1 = false ∧ 1 ≤ s.2.1 ∧ s.2.1 ≤ 64 ∧ ∀ i, i < s.2.1 → (s.2.2 i).size = 16
def rNx (s : RSt) : RSt := if s.2.1 ≤ 1 then (true, s.2.1, s.2.2) else (false, hf s.2.1, up s.2.1 s.2.2)
abbrev rFin (s : RSt) : Prop := s.1 = true
theorem rows_iter (T0 : Nat → ByteArray) (n : Nat) (h1n : 1 ≤ n) (hn : n ≤ 64) (hS : ∀ i, i < n → (T0 i).size = 16) : IterM Tryz.prog 105 (RwV T0 n) rEnc rOk rNx rFin (false, n, T0) := by
 intro nn m l J W hJ hY hm h0
 subst hm
 have KY : Hid (∀ s W1, rOk s → J s W1 → W.heap.size < W1.heap.size → YieldAt Fence.wide m Tryz.prog l (rEnc s) W1 fun e W' => e = .returned (.bool true) ∧ J (rNx s) W' ∧ W.heap.size < W'.heap.size ∧ W'.heap[W.heap.size]? = W1.heap[W.heap.size]?) := hY
 clear hY
 have KJ : Hid (∀ s A B, J s A → A.grownBy B (some W.heap.size) → J s B) := hJ
 clear hJ
 have hfn := wideFn
 have hdp := wideDepth
 have KS : Hid (∀ i, i < n → (T0 i).size = 16) := hS
 clear hS
 obtain ⟨b, hb⟩ : ∃ b, W.heap.size = b := ⟨_, rfl⟩
 have KW : Hid (W.heap.size = b) := hb
 refine callsIn_of_wp Tryz.func105 rfl trivial ?_ rfl
 simp only [Tryz.ntmps105, List.size_toArray, List.length_cons, List.length_nil, Nat.reduceAdd, Nat.reduceSub, Array.replicate_succ, Array.replicate_zero, List.push_toArray, List.append_toArray, List.nil_append, List.cons_append]
 gi_wp2_with (refine i_box (by rfl) _ (by rfl) T0 n (by rfl) ?_)
 go_simp
 gi_loopg [] n (fun gk wr => ∃ (k : Nat) (T : Nat → ByteArray), k = gk ∧ 1 ≤ k ∧ k ≤ 64 ∧ Hid (∀ i, i < k → (T i).size = 16) ∧ Row wr b 119 (rowC T k) ∧ Hid (J (false, k, T) wr))
 case atStart =>
  refine ⟨n, T0, rfl, h1n, hn, KS, ?_, KJ.out _ _ _ h0 (World.grownBy_alloc _ _ _)⟩
  rw [← hb]
  exact Row.new W _ _
 case round =>
  obtain ⟨k, T, rfl, hk1, hk64, HS, hr, HJ⟩ := hrel
  clear h0 KS
  have hlb : b < wr.heap.size := hr.lt
  obtain ⟨fn, tmps, assign, body, hy, hR⟩ := KY.out (false, k, T) wr ⟨rfl, hk1, hk64, HS.out⟩ HJ.out (by rw [KW.out]; exact hlb)
  have HR : Hid (RoundIn Fence.wide m Tryz.prog l fn tmps assign body wr fun e W' => e = .returned (.bool true) ∧ J (rNx (false, k, T)) W' ∧ W.heap.size < W'.heap.size ∧ W'.heap[W.heap.size]? = wr.heap[W.heap.size]?) := hR
  clear hR
  simp only [rEnc] at hy
  have hmm : m + 1 - 1 = m := rfl
  by_cases h1 : k ≤ 1
  ·have h1' : ¬ (1 : Int) < (k : Int) := by omega
   gi_wp2_with (refine i_load (by rfl) _ (by rfl) b (by rfl) T k hr ?_)
   refine HR.out.mono ?_
   rintro e w2 ⟨rfl, hJ2, hs2, hk2⟩
   have R2 : Row w2 b 119 (rowC T k) := by
    unfold Row
    rw [← KW.out, hk2, KW.out]
    exact hr
   have e64 : w2.cell? ⟨b, 64, none⟩ = some (.int .i64 (k : Int)) := by rw [R2.cell 64, rowC_last]
   have HJ2 : Hid (J (true, k, T) w2) := by unfold rNx at hJ2; rw [if_pos h1] at hJ2; exact hJ2
   clear hJ2 hs2 hk2 hr
   gi_wp2
   go_end0
   first | exact ⟨⟨_, rfl⟩, (true, k, T), rfl, HJ2.out⟩ | exact ⟨⟨_, rfl⟩, true, ⟨k, T, HJ2.out⟩, rfl⟩ | exact ⟨⟨_, rfl⟩, true, k, T, rfl, HJ2.out⟩ | exact ⟨⟨_, rfl⟩, true, rfl, k, T, HJ2.out⟩ | exact ⟨⟨_, rfl⟩, true, ⟨k, T, rfl, HJ2.out⟩⟩
  ·have h1' : (1 : Int) < (k : Int) := by omega
   gi_wp2_with (refine i_load (by rfl) _ (by rfl) b (by rfl) T k hr ?_)
   refine HR.out.mono ?_
   rintro e w2 ⟨rfl, hJ2, hs2, hk2⟩
   have R2 : Row w2 b 119 (rowC T k) := by
    unfold Row
    rw [← KW.out, hk2, KW.out]
    exact hr
   have e64 : w2.cell? ⟨b, 64, none⟩ = some (.int .i64 (k : Int)) := by rw [R2.cell 64, rowC_last]
   have HJ2 : Hid (J (false, hf k, up k T) w2) := by unfold rNx at hJ2; rw [if_neg h1] at hJ2; exact hJ2
   have KA : Hid (Calls Tryz.prog 141 #[RwV T k] w2 fun e w' => e = .returned (RwV (up k T) (hf k)) ∧ Below w2.heap.size w2 w') := rowAbove_any T k w2 hk1 hk64 HS.out
   have HU : Hid (∀ i, i < hf k → (up k T i).size = 16) := Gt.up_size HS.out
   have hlt : 1 ≤ hf k ∧ hf k < k := by unfold hf; omega
   clear hJ2 hs2 hk2 hr
   generalize hf k = k' at *
   generalize up k T = T' at *
   gi_wp2_with (refine i_load (by rfl) _ (by rfl) b (by rfl) T k R2 ?_)
   refine (callsIn_wide.2 KA.out).mono ?_
   rintro e w3 ⟨rfl, hb3⟩
   have R3 := R2.below hb3 R2.lt
   have HJ3 : Hid (J (false, k', T') (w3.setRow b (rowC T' k'))) := by
    have hg := grown_below (some b) hb3
    have hg2 : w3.grownBy (w3.setRow b (rowC T' k')) (some b) := ⟨rfl, rfl, rfl, by simp, fun j _ hj => setRow_other _ _ _ _ (fun e => hj (by rw [e]))⟩
    rw [← KW.out] at hg hg2 ⊢
    exact KJ.out _ _ _ (KJ.out _ _ _ HJ2.out hg) hg2
   have R4 := R3.row (ds := rowC T' k')
   gi_wp2_with (refine i_store (by rfl) _ _ (by rfl) b (by rfl) T' k' (by rfl) T k R3 ?_)
   gi_roundg k'
   case measure => exact hlt.2
   case rel => exact ⟨k', T', rfl, hlt.1, by omega, HU, R4, HJ3⟩
end Go.Proofs.YtihklfkhjpnjkaaGreatDoor
