import Derived.Test.YtihklfkhjpnjkaaGreatDoorU33
import Derived.Test.YtihklfkhjpnjkaaGreatDoorU10
import Derived.Test.YtihklfkhjpnjkaaGreatDoorU13
import Derived.Deep.RegionHeld2
import Derived.Deep.AppendLies
set_option maxHeartbeats 8000000
set_option maxRecDepth 2000
open Go.ChangeShapes Go.WideShapes Go.ChangeAt Go.RowKit
namespace Go.Proofs.YtihklfkhjpnjkaaGreatDoor
theorem split_any (s : ByteArray) (w : World) (hs : s.size ≤ 1048576) (hN : NumW w) :
  Calls Tryz.prog 82 #[.string s, .string ⟨#[32]⟩] w fun e w' => e = .returned (.slice (some ⟨w.heap.size, 0, none⟩) (wn s) (wn s)) ∧ TxtAt w' (some ⟨w.heap.size, 0, none⟩) (wn s) (wq s) ∧ Below w.heap.size w w' := by
 obtain ⟨z, hm⟩ := hN.m
 refine (Tryz.strings_Split s ⟨#[32]⟩ z w (by omega) hm (by decide)).mono ?_
 rintro e w' ⟨rfl, rfl⟩
 obtain ⟨h1, h2⟩ := split_wds s
 rw [h1, h2]
 refine ⟨rfl, fun i hi => ⟨w.heap.size, 0, rfl, ?_⟩, (Below.refl _ _).alloc (Nat.le_refl _) _⟩
 have hl : i < (wds s).length := hi
 simp [wq, hl]
theorem store_facts {w : World} {X : Nat} (h : Row w X 33 #[.string ⟨#[]⟩, .int .i64 0, .int .i64 0, .int .i64 0, .string ⟨#[]⟩, .slice none 0 0]) :
  w.cell? ⟨X, 0, none⟩ = some (.string ⟨#[]⟩) ∧ w.frozen? ⟨X, 0, none⟩ = false ∧ w.cell? ⟨X, 1, none⟩ = some (.int .i64 0) ∧ w.frozen? ⟨X, 1, none⟩ = false ∧ w.cell? ⟨X, 2, none⟩ = some (.int .i64 0) ∧ w.frozen? ⟨X, 2, none⟩ = false ∧ w.cell? ⟨X, 3, none⟩ = some (.int .i64 0) ∧ w.frozen? ⟨X, 3, none⟩ = false ∧ w.cell? ⟨X, 4, none⟩ = some (.string ⟨#[]⟩) ∧ w.frozen? ⟨X, 4, none⟩ = false ∧ w.cell? ⟨X, 5, none⟩ = some (.slice none 0 0) ∧ w.frozen? ⟨X, 5, none⟩ = false := by
 have c0 := h.cell 0
 have c1 := h.cell 1
 have c2 := h.cell 2
 have c3 := h.cell 3
 have c4 := h.cell 4
 have c5 := h.cell 5
 simp at c0 c1 c2 c3 c4 c5
 exact ⟨c0, h.free 0, c1, h.free 1, c2, h.free 2, c3, h.free 3, c4, h.free 4, c5, h.free 5⟩
theorem below_six {B : Nat} {w w' : World} {X : Nat} (h : Below B w w') (hX : B ≤ X) (r : ByteArray) (k n i : Int) (b : ByteArray) (v : Value) : Below B w ((((((w'.setCell ⟨X, 0, none⟩ (.string r)).setCell ⟨X, 1, none⟩ (.int .i64 k)).setCell ⟨X, 2, none⟩ (.int .i64 n)).setCell ⟨X, 3, none⟩ (.int .i64 i)).setCell ⟨X, 4, none⟩ (.string b)).setCell ⟨X, 5, none⟩ v) :=
 (((((h.setCell hX _).setCell hX _).setCell hX _).setCell hX _).setCell hX _).setCell hX _
theorem own_six {B : Nat} {w' : World} {X : Nat} {a : Option Addr} {m cap : Nat} {S : Nat → ByteArray} (h : OwnT w' B a m cap S) (hX : X < B) (r : ByteArray) (k n i : Int) (b : ByteArray) (v : Value) : OwnT ((((((w'.setCell ⟨X, 0, none⟩ (.string r)).setCell ⟨X, 1, none⟩ (.int .i64 k)).setCell ⟨X, 2, none⟩ (.int .i64 n)).setCell ⟨X, 3, none⟩ (.int .i64 i)).setCell ⟨X, 4, none⟩ (.string b)).setCell ⟨X, 5, none⟩ v) B a m cap S :=
 (((((h.setFar hX).setFar hX).setFar hX).setFar hX).setFar hX).setFar hX
theorem store_done {w : World} {X : Nat} (h : Row w X 33 #[.string ⟨#[]⟩, .int .i64 0, .int .i64 0, .int .i64 0, .string ⟨#[]⟩, .slice none 0 0]) (r : ByteArray) (k n i : Int) (b : ByteArray) (v : Value) :
  Row ((((((w.setCell ⟨X, 0, none⟩ (.string r)).setCell ⟨X, 1, none⟩ (.int .i64 k)).setCell ⟨X, 2, none⟩ (.int .i64 n)).setCell ⟨X, 3, none⟩ (.int .i64 i)).setCell ⟨X, 4, none⟩ (.string b)).setCell ⟨X, 5, none⟩ v) X 33 #[.string r, .int .i64 k, .int .i64 n, .int .i64 i, .string b, v] := by
 have h6 := (((((h.set 0 (.string r)).set 1 (.int .i64 k)).set 2 (.int .i64 n)).set 3 (.int .i64 i)).set 4 (.string b)).set 5 v
 simpa using h6
def PostOf (R : Act → World → Prop) (Q : Exit → Act → World → Prop) : Exit → Act → World → Prop
 | .normal, a, w => R a w
 | e, a, w => Q e a w
theorem wp_region_post {P : Program} {id : Nat} {ops : Array Oper} {b : Bool} {Q : Exit → Act → World → Prop} {a : Act} {w : World} (R : Act → World → Prop) (h1 : (Code.region id ops b).wp P (PostOf R Q) a w) (h2 : ∀ a w, R a w → Q .normal a w) : (Code.region id ops b).wp P Q a w :=
 Code.wp_mono (fun e a w h => by cases e <;> first | exact h2 _ _ h | exact h) h1
theorem readParts_any (s : ByteArray) (w : World) (hs : s.size ≤ 1048576) (hN : NumW w) :
  Calls Tryz.prog 39 #[.string s] w fun e w' => ((∃ a cap, e = .returned (pcV (rdP s).r (rdP s).k (rdP s).n (rdP s).i (rdP s).b (.slice a (rdP s).m cap)) ∧ OwnT w' w.heap.size a (rdP s).m cap (rdP s).S ∧ rdOk s) ∨ (e = .panicked (failC 2) ∧ ¬ rdOk s)) ∧ Below w.heap.size w w' := by
 obtain ⟨w0, HW0⟩ : ∃ x, Hid (x = w.alloc (.cells #[.string ⟨#[]⟩, .int .i64 0, .int .i64 0, .int .i64 0, .string ⟨#[]⟩, .slice none 0 0] 33)) := ⟨_, rfl⟩
 obtain ⟨D, HD⟩ : ∃ x, Hid (x = w.heap.size) := ⟨_, rfl⟩
 have HR : Hid (Row w0 D 33 #[.string ⟨#[]⟩, .int .i64 0, .int .i64 0, .int .i64 0, .string ⟨#[]⟩, .slice none 0 0]) := by show Row _ _ _ _; rw [HW0.out, HD.out]; exact Row.new w _ _
 have hb0 : Below w.heap.size w w0 := by rw [HW0.out]; exact (Below.refl _ _).alloc (Nat.le_refl _) _
 have KB0 : Hid (Below w.heap.size w w0) := hb0
 have HN0 : Hid (NumW w0) := hN.below hb0
 have KSp : Hid _ := split_any s w0 hs HN0.out
 obtain ⟨G, HG⟩ : ∃ x, Hid (x = w0.heap.size) := ⟨_, rfl⟩
 rw [← HG.out] at KSp
 obtain ⟨N, HNn⟩ : ∃ x, Hid (wn s = x) := ⟨_, rfl⟩
 rw [HNn.out] at KSp
 clear hN hb0
 go_enter Tryz.func39, Tryz.ntmps39
 go_wp2_with fail
 rw [← HW0.out, ← HD.out]
 refine Calls.mono KSp.out ?_
 rintro e w1 ⟨rfl, hT, hb1⟩
 have KT : Hid (TxtAt w1 (some ⟨G, 0, none⟩) N (wq s)) := hT
 have KB1 : Hid (Below w0.heap.size w0 w1) := by show Below _ _ _; rw [← HG.out]; exact hb1
 clear hT hb1 KSp
 by_cases hn : 6 ≤ N
 case neg =>
  have hni : decide ((6 : Int) ≤ (N : Int)) = false := by simp; omega
  go_wp2_with fail
  refine Calls.mono (need_no 2 w1) ?_
  rintro e w2 ⟨rfl, rfl⟩
  go_wp2
  have hno : ¬ rdOk s := fun h => by have h1 := h.1; rw [HNn.out] at h1; omega
  simp [bodyPost, hno]
  exact below2 KB0.out KB1.out
 have hni : (6 : Int) ≤ (N : Int) := by omega
 go_wp2_with fail
 refine Calls.mono (need_ok 2 w1) ?_
 rintro e w2 ⟨rfl, hw⟩
 obtain rfl := hw.symm
 clear hw
 have cw : ∀ j, j < N → w1.cell? ⟨G, j, none⟩ = some (.string (wq s j)) := fun j hj => by
  obtain ⟨b, f, e1, e2⟩ := KT.out j hj
  cases e1
  simpa using e2
 have y0 := cw 0 (by omega)
 have y1 := cw 1 (by omega)
 have y2 := cw 2 (by omega)
 have y3 := cw 3 (by omega)
 have y4 := cw 4 (by omega)
 have lG : G < w1.heap.size := block_lt_of_cell y0
 clear cw
 have hz := fun j => Nat.le_trans (wq_le s j) hs
 have z0 := hz 0
 have z1 := hz 1
 have z2 := hz 2
 have z3 := hz 3
 have z4 := hz 4
 obtain ⟨p0, HP0⟩ : ∃ x, Hid (wq s 0 = x) := ⟨_, rfl⟩
 obtain ⟨p1, HP1⟩ : ∃ x, Hid (wq s 1 = x) := ⟨_, rfl⟩
 obtain ⟨p2, HP2⟩ : ∃ x, Hid (wq s 2 = x) := ⟨_, rfl⟩
 obtain ⟨p3, HP3⟩ : ∃ x, Hid (wq s 3 = x) := ⟨_, rfl⟩
 obtain ⟨p4, HP4⟩ : ∃ x, Hid (wq s 4 = x) := ⟨_, rfl⟩
 rw [HP0.out] at y0 z0
 rw [HP1.out] at y1 z1
 rw [HP2.out] at y2 z2
 rw [HP3.out] at y3 z3
 rw [HP4.out] at y4 z4
 have HN1 : Hid (NumW w1) := HN0.out.below KB1.out
 have KS : Hid (∀ W, Below w1.heap.size w1 W → W.cell? ⟨G, 0, none⟩ = some (.string p0) ∧ W.cell? ⟨G, 1, none⟩ = some (.string p1) ∧ W.cell? ⟨G, 2, none⟩ = some (.string p2) ∧ W.cell? ⟨G, 3, none⟩ = some (.string p3) ∧ W.cell? ⟨G, 4, none⟩ = some (.string p4)) := fun W hW => ⟨(hW.cell (p := ⟨G, 0, none⟩) lG).trans y0, (hW.cell (p := ⟨G, 1, none⟩) lG).trans y1, (hW.cell (p := ⟨G, 2, none⟩) lG).trans y2, (hW.cell (p := ⟨G, 3, none⟩) lG).trans y3, (hW.cell (p := ⟨G, 4, none⟩) lG).trans y4⟩
 have KH : Hid (∀ (u : ByteArray) W, u.size ≤ 1048576 → Below w1.heap.size w1 W → Calls Tryz.prog 83 #[.string u] W fun e w' => ((e = .returned (.string (hbS u)) ∧ hbF u = true) ∨ (e = .panicked (failC 2) ∧ hbF u = false)) ∧ Below w1.heap.size w1 w' ∧ Below W.heap.size W w') := fun u W hu hW => (readHex_any u W hu).mono fun e w' ⟨he, hb⟩ => ⟨he, hW.trans (hb.mono hW.size), hb⟩
 have KM : Hid (∀ (u : ByteArray) W, u.size ≤ 1048576 → Below w1.heap.size w1 W → Calls Tryz.prog 84 #[.string u] W fun e w' => ((e = .returned (.int .i64 (atv u)) ∧ atb u = true) ∨ (e = .panicked (failC 2) ∧ atb u = false)) ∧ Below w1.heap.size w1 w' ∧ Below W.heap.size W w') := fun u W hu hW => (readNumber_any u W hu (HN1.out.below hW)).mono fun e w' ⟨he, hb⟩ => ⟨he, hW.trans (hb.mono hW.size), hb⟩
 have HNo : Hid ((hbF p0 = false ∨ atb p1 = false ∨ atb p2 = false ∨ atb p3 = false ∨ hbF p4 = false) → ¬ rdOk s) := fun h1 h2 => by
  obtain ⟨_, a0, a1, a2, a3, a4, _⟩ := h2
  rw [HP0.out] at a0
  rw [HP1.out] at a1
  rw [HP2.out] at a2
  rw [HP3.out] at a3
  rw [HP4.out] at a4
  simp [a0, a1, a2, a3, a4] at h1
 clear hz
 have hzz : Below w1.heap.size w1 w1.drew := ⟨rfl, rfl, rfl, Nat.le_refl _, fun _ _ => rfl⟩
 have n0 : 0 < N := by omega
 have n1 : (1 : Int) < (N : Int) := by omega
 have n2 : (2 : Int) < (N : Int) := by omega
 have n3 : (3 : Int) < (N : Int) := by omega
 have n4 : (4 : Int) < (N : Int) := by omega
 go_wp2_with fail
 obtain ⟨R, HRR⟩ : ∃ R : Act → World → Prop, Hid (∀ a wx, R a wx ↔ ∃ X, a = ⟨#[.string s, undef, .pointer (some ⟨D, 0, none⟩), .slice (some ⟨G, 0, none⟩) N N, .pointer (some ⟨X, 0, none⟩), undef, undef, .string s, .slice (some ⟨G, 0, none⟩) N N, .slice (some ⟨G, 0, none⟩) N N, .int .i64 (N : Int), .bool true, .tuple #[], .slice (some ⟨G, 0, none⟩) N N, .pointer (some ⟨G, 0, none⟩), .string p0, .string (hbS p0), .slice (some ⟨G, 0, none⟩) N N, .pointer (some ⟨G, 1, none⟩), .string p1, .int .i64 (atv p1), .slice (some ⟨G, 0, none⟩) N N, .pointer (some ⟨G, 2, none⟩), .string p2, .int .i64 (atv p2), .slice (some ⟨G, 0, none⟩) N N, .pointer (some ⟨G, 3, none⟩), .string p3, .int .i64 (atv p3), .slice (some ⟨G, 0, none⟩) N N, .pointer (some ⟨G, 4, none⟩), .string p4, .string (hbS p4), .agg #[.string (hbS p0), .int .i64 (atv p1), .int .i64 (atv p2), .int .i64 (atv p3), .string (hbS p4), .slice none 0 0], undef, undef, undef, undef, undef, undef, undef, undef, undef, undef, undef, undef, undef, undef, undef, undef], []⟩ ∧ w1.heap.size ≤ X ∧ Row wx X 33 #[.string (hbS p0), .int .i64 (atv p1), .int .i64 (atv p2), .int .i64 (atv p3), .string (hbS p4), .slice none 0 0] ∧ Below w1.heap.size w1 wx ∧ hbF p0 = true ∧ atb p1 = true ∧ atb p2 = true ∧ atb p3 = true ∧ hbF p4 = true) := ⟨fun a wx => _, fun _ _ => Iff.rfl⟩
 refine wp_region_post R ?_ ?_
 rotate_left
 ·intro a wx hR
  obtain ⟨X, rfl, hX, RX, BX, f0, f1, f2, f3, f4⟩ := (HRR.out a wx).1 hR
  generalize hv10 : (Value.int .i64 (N : Int)) = v10
  clear hv10
  obtain ⟨m, hm⟩ : ∃ m, N = m + 6 := ⟨N - 6, by omega⟩
  subst hm
  have hm20 : m ≤ 1048576 := by have h1 := wq_sum s; have h2 := HNn.out; omega
  have HRd : Hid (rdP s = ⟨hbS p0, atv p1, atv p2, atv p3, hbS p4, m, fun j => hbS (wq s (j + 6))⟩) := by
   show _ = _
   unfold rdP
   rw [HP0.out, HP1.out, HP2.out, HP3.out, HP4.out, HNn.out]
   rfl
  have HOk : Hid ((∀ j, j < m → hbF (wq s (j + 6)) = true) → rdOk s) := fun h => by
   refine ⟨by rw [HNn.out]; omega, ?_, ?_, ?_, ?_, ?_, fun j hj => h j (by rw [HNn.out] at hj; omega)⟩
   ·rw [HP0.out]; exact f0
   ·rw [HP1.out]; exact f1
   ·rw [HP2.out]; exact f2
   ·rw [HP3.out]; exact f3
   ·rw [HP4.out]; exact f4
  have HNj : Hid (∀ j, j < m → hbF (wq s (j + 6)) = false → ¬ rdOk s) := fun j hj hf h => by
   have h1 := h.2.2.2.2.2.2 j (by rw [HNn.out]; omega)
   rw [hf] at h1
   cases h1
  have KC : Hid (∀ W, Below w1.heap.size w1 W → ∀ j, j < m → W.cell? ⟨G, 6 + j, none⟩ = some (.string (wq s (j + 6)))) := fun W hW j hj => by
   obtain ⟨b, o, e1, e2⟩ := KT.out (j + 6) (by omega)
   cases e1
   rw [show 0 + (j + 6) = 6 + j by omega] at e2
   exact (hW.cell (p := ⟨G, 6 + j, none⟩) lG).trans e2
  have HLe : Hid (∀ j, (wq s (j + 6)).size ≤ 1048576) := fun j => Nat.le_trans (wq_le s _) hs
  have KRX : Hid (Row wx X 33 #[.string (hbS p0), .int .i64 (atv p1), .int .i64 (atv p2), .int .i64 (atv p3), .string (hbS p4), .slice none 0 0] ∧ Below w1.heap.size w1 wx) := ⟨RX, BX⟩
  have KRD : Hid (∀ W, Below w1.heap.size w1 W → Row W D 33 #[.string ⟨#[]⟩, .int .i64 0, .int .i64 0, .int .i64 0, .string ⟨#[]⟩, .slice none 0 0]) := fun W hW => (HR.out.below KB1.out HR.out.lt).below hW (HR.out.below KB1.out HR.out.lt).lt
  have lD : D < w1.heap.size := (HR.out.below KB1.out HR.out.lt).lt
  clear HRR hR RX BX f0 f1 f2 f3 f4 KM HNo HNn HP0 HP1 HP2 HP3 HP4 KS y0 y1 y2 y3 y4 z0 z1 z2 z3 z4 HN1 HN0 hzz n0 n1 n2 n3 n4 hn KT HR
  have hDw : w.heap.size ≤ D := by rw [HD.out]; exact Nat.le_refl _
  have HEnd : Hid (∀ (W : World) (a : Option Addr) (cap : Nat), Row W X 33 #[.string (hbS p0), .int .i64 (atv p1), .int .i64 (atv p2), .int .i64 (atv p3), .string (hbS p4), .slice a m cap] → Below w1.heap.size w1 W → OwnT W (X + 1) a m cap (fun j => hbS (wq s (j + 6))) → (∀ j, j < m → hbF (wq s (j + 6)) = true) → ∀ W', W' = ((((((W.setCell ⟨D, 0, none⟩ (.string (hbS p0))).setCell ⟨D, 1, none⟩ (.int .i64 (atv p1))).setCell ⟨D, 2, none⟩ (.int .i64 (atv p2))).setCell ⟨D, 3, none⟩ (.int .i64 (atv p3))).setCell ⟨D, 4, none⟩ (.string (hbS p4))).setCell ⟨D, 5, none⟩ (.slice a m cap)) → ((∃ a' cap', Ending.returned (.agg #[.string (hbS p0), .int .i64 (atv p1), .int .i64 (atv p2), .int .i64 (atv p3), .string (hbS p4), .slice a m cap]) = .returned (pcV (rdP s).r (rdP s).k (rdP s).n (rdP s).i (rdP s).b (.slice a' (rdP s).m cap')) ∧ OwnT W' w.heap.size a' (rdP s).m cap' (rdP s).S ∧ rdOk s) ∨ (Ending.returned (.agg #[.string (hbS p0), .int .i64 (atv p1), .int .i64 (atv p2), .int .i64 (atv p3), .string (hbS p4), .slice a m cap]) = .panicked (failC 2) ∧ ¬ rdOk s)) ∧ Below w.heap.size w W') := fun W a cap hr hb ho hall W' hW' => by
   subst hW'
   refine ⟨.inl ⟨a, cap, by rw [HRd.out], ?_, HOk.out hall⟩, below_six (below2 KB0.out (below2 KB1.out hb)) hDw _ _ _ _ _ _⟩
   rw [HRd.out]
   exact (own_six ho (by omega) _ _ _ _ _ _).base (by omega)
  by_cases hm0 : m = 0
  ·subst hm0
   go_wp2_with fail
   go_loopw [6, 37] (fun v6 v37 wr => v37 = .int .i64 0 ∧ wr = wx) (fun _ _ _ => 0)
   case atStart => exact ⟨rfl, rfl⟩
   case round =>
    obtain ⟨rfl, rfl⟩ := hrel
    have HRX := KRX.out.1
    have HBR := KRX.out.2
    have hRD := KRD.out wr HBR
    have x0 := HRX.cell 0
    have x1 := HRX.cell 1
    have x2 := HRX.cell 2
    have x3 := HRX.cell 3
    have x4 := HRX.cell 4
    have x5 := HRX.cell 5
    simp at x0 x1 x2 x3 x4 x5
    obtain ⟨st0, st1, st2, st3, st4, st5, st6, st7, st8, st9, st10, st11⟩ := store_facts hRD
    go_wp2
    exact bodyPost_ret (results_cell_row Tryz.results39 _ _ D 33 _ (0, 0) _ (by rfl) (store_done hRD _ _ _ _ _ _) Tryz.underlying33 (by rfl) Tryz.infoPc) rfl (HEnd.out wr none 0 HRX HBR (OwnT.nil _ _ _) (fun j hj => absurd hj (Nat.not_lt_zero _)) _ rfl)
  have hmi : ¬ ((m : Int) = 0) := by omega
  go_wp2_with fail
  go_loopw [6, 37] (fun v6 v37 wr => ∃ c : Nat, v37 = .int .i64 (c : Int) ∧ Hid (c ≤ m ∧ (∃ a cap, Row wr X 33 #[.string (hbS p0), .int .i64 (atv p1), .int .i64 (atv p2), .int .i64 (atv p3), .string (hbS p4), .slice a c cap] ∧ OwnT wr (X + 1) a c cap (fun j => hbS (wq s (j + 6)))) ∧ Below w1.heap.size w1 wr ∧ ∀ j, j < c → hbF (wq s (j + 6)) = true)) (fun _ v37 _ => m - (intOf v37).toNat)
  case atStart => exact ⟨0, rfl, Nat.zero_le _, ⟨none, 0, KRX.out.1, OwnT.nil _ _ _⟩, KRX.out.2, fun j hj => absurd hj (Nat.not_lt_zero _)⟩
  case round =>
   obtain ⟨c, rfl, HI⟩ := hrel
   by_cases hlt : c < m
   ·have hli : (c : Int) < (m : Int) := by omega
    have hcc := KC.out wr HI.out.2.2.1 c hlt
    have hcz := HLe.out c
    have HNc : Hid (hbF (wq s (c + 6)) = false → ¬ rdOk s) := HNj.out c hlt
    have HAl : Hid (hbF (wq s (c + 6)) = true → ∀ j, j < c + 1 → hbF (wq s (j + 6)) = true) := fun h j hj => by
     by_cases hjc : j = c
     ·rw [hjc]; exact h
     ·exact HI.out.2.2.2 j (by omega)
    have HSc : Hid ((fun j => hbS (wq s (j + 6))) c = hbS (wq s (c + 6))) := rfl
    obtain ⟨a0, cp0, hR0, hO0⟩ := HI.out.2.1
    have HA0 : Hid (Row wr X 33 (pcC (hbS p0) (atv p1) (atv p2) (atv p3) (hbS p4) (.slice a0 c cp0)) ∧ OwnT wr (X + 1) a0 c cp0 (fun j => hbS (wq s (j + 6))) ∧ Below w1.heap.size w1 wr) := ⟨hR0, hO0, HI.out.2.2.1⟩
    obtain ⟨pc, HPc⟩ : ∃ x, Hid (wq s (c + 6) = x) := ⟨_, rfl⟩
    rw [HPc.out] at hcc hcz HNc HAl HSc
    obtain ⟨SS, HSS⟩ : ∃ x, Hid ((fun j => hbS (wq s (j + 6))) = x) := ⟨_, rfl⟩
    rw [HSS.out] at HA0 HSc
    clear hR0 hO0 HI
    go_wp2_with fail
    obtain ⟨R7, HR7⟩ : ∃ R : Act → World → Prop, Hid (∀ a W, R a W ↔ ∃ (x0 x1 x2 x3 x4 x5 x6 : Value) (g cp : Nat), a = ⟨#[.string s, undef, .pointer (some ⟨D, 0, none⟩), .slice (some ⟨G, 0, none⟩) (m + 6) (m + 6), .pointer (some ⟨X, 0, none⟩), undef, .string pc, .string s, .slice (some ⟨G, 0, none⟩) (m + 6) (m + 6), .slice (some ⟨G, 0, none⟩) (m + 6) (m + 6), v10, .bool true, .tuple #[], .slice (some ⟨G, 0, none⟩) (m + 6) (m + 6), .pointer (some ⟨G, 0, none⟩), .string p0, .string (hbS p0), .slice (some ⟨G, 0, none⟩) (m + 6) (m + 6), .pointer (some ⟨G, 1, none⟩), .string p1, .int .i64 (atv p1), .slice (some ⟨G, 0, none⟩) (m + 6) (m + 6), .pointer (some ⟨G, 2, none⟩), .string p2, .int .i64 (atv p2), .slice (some ⟨G, 0, none⟩) (m + 6) (m + 6), .pointer (some ⟨G, 3, none⟩), .string p3, .int .i64 (atv p3), .slice (some ⟨G, 0, none⟩) (m + 6) (m + 6), .pointer (some ⟨G, 4, none⟩), .string p4, .string (hbS p4), .agg #[.string (hbS p0), .int .i64 (atv p1), .int .i64 (atv p2), .int .i64 (atv p3), .string (hbS p4), .slice none 0 0], .slice (some ⟨G, 0, none⟩) (m + 6) (m + 6), .slice (some ⟨G, 6, none⟩) m m, .int .i64 (m : Int), .int .i64 (c : Int), .bool true, .pointer (some ⟨G, 6 + c, none⟩), .string pc, x0, x1, x2, x3, x4, x5, x6, u48, undef], []⟩ ∧ Row W X 33 (pcC (hbS p0) (atv p1) (atv p2) (atv p3) (hbS p4) (.slice (some ⟨g, 0, none⟩) (c + 1) cp)) ∧ OwnT W (X + 1) (some ⟨g, 0, none⟩) (c + 1) cp SS ∧ Below w1.heap.size w1 W ∧ hbF pc = true) := ⟨fun a W => _, fun _ _ => Iff.rfl⟩
    refine wp_region_post R7 ?_ ?_
    rotate_left
    ·intro a9 wx9 hR9
     obtain ⟨x0, x1, x2, x3, x4, x5, x6, g9, cp9, rfl, RX9, OX9, BX9, hf9⟩ := (HR7.out a9 wx9).1 hR9
     have HX9 : Hid (Row wx9 X 33 (pcC (hbS p0) (atv p1) (atv p2) (atv p3) (hbS p4) (.slice (some ⟨g9, 0, none⟩) (c + 1) cp9)) ∧ OwnT wx9 (X + 1) (some ⟨g9, 0, none⟩) (c + 1) cp9 SS ∧ Below w1.heap.size w1 wx9) := ⟨RX9, OX9, BX9⟩
     clear RX9 OX9 BX9 hR9 HR7
     go_wp2_with fail
     go_roundw
     case rel => exact ⟨c + 1, by go_num, by omega, ⟨some ⟨g9, 0, none⟩, cp9, HX9.out.1, by rw [HSS.out]; exact HX9.out.2.1⟩, HX9.out.2.2, HAl.out hf9⟩
     case measure => simp [intOf]; omega
    refine wp_region_inv Tryz.mixed (by kernel_rfl) (fun L a W => ∃ x y : Value, a = ⟨#[.string s, undef, .pointer (some ⟨D, 0, none⟩), .slice (some ⟨G, 0, none⟩) (m + 6) (m + 6), .pointer (some ⟨X, 0, none⟩), undef, .string pc, .string s, .slice (some ⟨G, 0, none⟩) (m + 6) (m + 6), .slice (some ⟨G, 0, none⟩) (m + 6) (m + 6), v10, .bool true, .tuple #[], .slice (some ⟨G, 0, none⟩) (m + 6) (m + 6), .pointer (some ⟨G, 0, none⟩), .string p0, .string (hbS p0), .slice (some ⟨G, 0, none⟩) (m + 6) (m + 6), .pointer (some ⟨G, 1, none⟩), .string p1, .int .i64 (atv p1), .slice (some ⟨G, 0, none⟩) (m + 6) (m + 6), .pointer (some ⟨G, 2, none⟩), .string p2, .int .i64 (atv p2), .slice (some ⟨G, 0, none⟩) (m + 6) (m + 6), .pointer (some ⟨G, 3, none⟩), .string p3, .int .i64 (atv p3), .slice (some ⟨G, 0, none⟩) (m + 6) (m + 6), .pointer (some ⟨G, 4, none⟩), .string p4, .string (hbS p4), .agg #[.string (hbS p0), .int .i64 (atv p1), .int .i64 (atv p2), .int .i64 (atv p3), .string (hbS p4), .slice none 0 0], .slice (some ⟨G, 0, none⟩) (m + 6) (m + 6), .slice (some ⟨G, 6, none⟩) m m, .int .i64 (m : Int), .int .i64 (c : Int), .bool true, .pointer (some ⟨G, 6 + c, none⟩), .string pc, cW (L 0) (.pointer (some ⟨X, 5, none⟩)) u41, cW (L 1) (.slice a0 c cp0) u42, cW (L 2) (.string pc) u43, cW (L 3) (.string (hbS pc)) u44, x, y, cW (L 6) (.pointer (some ⟨X, 5, none⟩)) u47, u48, undef], []⟩ ∧ ApS w1 W X (hbS p0) (atv p1) (atv p2) (atv p3) (hbS p4) SS a0 c cp0 (hbS pc) x y (L 4) (L 5) (L 7) ∧ (L 3 = true → hbF pc = true) ∧ (L 4 = true → L 3 = true) ∧ (L 5 = true → L 4 = true ∧ L 1 = true) ∧ (L 7 = true → L 5 = true)) ?_ ?_ ?_
    ·exact ⟨u45, u46, rfl, ((ApS.start HA0.out.2.2 hX HA0.out.1 HA0.out.2.1).below ⟨rfl, rfl, rfl, Nat.le_refl _, fun _ _ => rfl⟩), (fun h => by cases h), (fun h => by cases h), (fun h => by cases h), (fun h => by cases h)⟩
    ·intro i9 hi9 L a9 W hl hd hI9
     obtain ⟨x, y, rfl, hA, hf9, u1, u2, u3⟩ := hI9
     match i9, hi9 with
     | 0, _ =>
      refine wpOp_plain rfl (fun _ => rfl) fun K hK => ?_
      have hB9 := hA.fb
      go_simp
      exact hK _ _ ⟨x, y, by simp only [Nat.reduceBEq, Bool.false_or, Bool.true_or, cW_y], hA, hf9, u1, u2, u3⟩
     | 1, _ =>
      have d0 := hd.dep 0 (by kernel_rfl)
      have e5 : L 5 = false := by cases h : L 5 with | false => rfl | true => rw [(u2 h).2] at hl; cases hl
      have e7 : L 7 = false := by cases h : L 7 with | false => rfl | true => rw [u3 h] at e5; cases e5
      refine wpOp_plain rfl (fun _ => rfl) fun K hK => ?_
      simp only [d0, cW_y]
      rw [e5, e7] at hA
      have s0 := hA.old
      go_simp
      exact hK _ _ ⟨x, y, by simp only [Nat.reduceBEq, Bool.false_or, Bool.true_or, cW_y, d0], (by simp only [Nat.reduceBEq, Bool.false_or, e5, e7]; exact hA), hf9, u1, (fun h => by rw [show L 5 = true from h] at e5; cases e5), u3⟩
     | 2, _ =>
      refine wpOp_plain rfl (fun _ => rfl) fun K hK => ?_
      have hB9 := hA.fb
      go_simp
      exact hK _ _ ⟨x, y, by simp only [Nat.reduceBEq, Bool.false_or, Bool.true_or, cW_y], hA, hf9, u1, u2, u3⟩
     | 3, _ =>
      have d2 := hd.dep 2 (by kernel_rfl)
      have e4 : L 4 = false := by cases h : L 4 with | false => rfl | true => rw [u1 h] at hl; cases hl
      have e5 : L 5 = false := by cases h : L 5 with | false => rfl | true => rw [(u2 h).1] at e4; cases e4
      have e7 : L 7 = false := by cases h : L 7 with | false => rfl | true => rw [u3 h] at e5; cases e5
      refine wpOp_plain rfl (fun _ => rfl) fun K hK => ?_
      simp only [d2, cW_y]
      rw [e4, e5, e7] at hA
      have hB9 := hA.fb
      go_simp
      refine Calls.mono (KH.out pc W hcz hB9) ?_
      rintro e w9 ⟨⟨rfl, hf⟩ | ⟨rfl, hf⟩, hzn, hb⟩
      ·exact hK _ _ ⟨x, y, by simp only [Nat.reduceBEq, Bool.false_or, Bool.true_or, cW_y, d2], (by simp only [Nat.reduceBEq, Bool.false_or, e4, e5, e7]; exact hA.below hb), (fun _ => hf), fun _ => rfl, u2, u3⟩
      ·have hno : ¬ rdOk s := HNc.out hf
       exact (And.intro rfl (And.intro (Or.inr (And.intro rfl hno)) (below2 KB0.out (below2 KB1.out hzn))))
     | 4, _ =>
      have d3 := hd.dep 3 (by kernel_rfl)
      have e4 := hl
      have e5 : L 5 = false := by cases h : L 5 with | false => rfl | true => rw [(u2 h).1] at e4; cases e4
      have e7 : L 7 = false := by cases h : L 7 with | false => rfl | true => rw [u3 h] at e5; cases e5
      refine wpOp_plain rfl (fun _ => rfl) fun K hK => ?_
      simp only [d3, cW_y]
      rw [e4, e5, e7] at hA
      go_simp
      exact hK _ _ ⟨.slice (some ⟨W.heap.size, 0, none⟩) 1 1, y, by simp only [Nat.reduceBEq, Bool.false_or, cW_y, d3], (by simp only [Nat.reduceBEq, Bool.false_or, Bool.true_or, e5, e7]; exact hA.build), hf9, fun _ => d3, (fun h => by rw [show L 5 = true from h] at e5; cases e5), u3⟩
     | 5, _ =>
      have d1 := hd.dep 1 (by kernel_rfl)
      have d4 := hd.dep 4 (by kernel_rfl)
      have e5 := hl
      have e7 : L 7 = false := by cases h : L 7 with | false => rfl | true => rw [u3 h] at e5; cases e5
      refine wpOp_plain rfl (fun _ => rfl) fun K hK => ?_
      simp only [d1, cW_y]
      obtain ⟨i0, hi0, hz0, hz1, hz2⟩ := info_parts Tryz.infoStr
      have db := d4
      rw [db, e5, e7] at hA
      obtain ⟨Y, rfl, hY⟩ := hA.fn rfl
      obtain ⟨hr9, ho9⟩ := hA.fp rfl
      have hlt9 := hA.fl
      refine wp_append_lies W _ _ 31 rfl (X + 1) 9 i0 (.string ByteArray.empty) 1 16 Tryz.underlying31 hi0 hz0 hz1 hz2 rfl (by decide) (.slice a0 c cp0) c _ (by rfl) ho9 ⟨Y, 0, none⟩ 1 1 [.string (hbS pc)] (by rfl) (by rfl) (World.news_of_block (hY rfl)) (by simp [Value.oneCell']) (by decide) (by unfold maxLen; omega) (by omega) (by omega) W.heap.size rfl ?_
      intro g9 cp9 w9 hown9 hgrow9 _ _
      exact hK _ _ ⟨.slice (some ⟨Y, 0, none⟩) 1 1, .slice (some ⟨g9, 0, none⟩) (c + 1) cp9, (by simp [Act.put, cW_y, d1]), (by simp only [Nat.reduceBEq, Bool.false_or, Bool.true_or, db, e7]; exact hA.put HSc.out hown9 hgrow9), hf9, u1, (fun _ => ⟨db, d1⟩), fun _ => rfl⟩
     | 6, _ =>
      refine wpOp_plain rfl (fun _ => rfl) fun K hK => ?_
      have hB9 := hA.fb
      go_simp
      exact hK _ _ ⟨x, y, by simp only [Nat.reduceBEq, Bool.false_or, Bool.true_or, cW_y], hA, hf9, u1, u2, u3⟩
     | 7, _ =>
      have d6 := hd.dep 6 (by kernel_rfl)
      have d5 := hd.dep 5 (by kernel_rfl)
      refine wpOp_plain rfl (fun _ => rfl) fun K hK => ?_
      simp only [d6, cW_y]
      have e9 := hl
      have da := d5
      have db := (u2 da).1
      have dl := (u2 da).2
      have dc := u1 db
      rw [da, e9] at hA
      obtain ⟨g9, cp9, rfl, ho9, hr9, _⟩ := hA.fq rfl
      have s0 := (hr9 rfl).cell 5
      have s1 := (hr9 rfl).free 5
      simp at s0
      go_simp
      exact hK _ _ ⟨x, .slice (some ⟨g9, 0, none⟩) (c + 1) cp9, (by simp only [Nat.reduceBEq, Bool.false_or, dl, dc, cW_y, d6]), (by simp only [Nat.reduceBEq, Bool.false_or, Bool.true_or, da]; exact hA.store db), hf9, u1, u2, fun _ => da⟩
     | n9 + 8, h => exact absurd h (by simp)
    ·intro L a9 W hall hI9
     obtain ⟨x, y, rfl, hA, hf9, u1, u2, u3⟩ := hI9
     rw [hall 4 (by decide), hall 5 (by decide), hall 7 (by decide)] at hA
     obtain ⟨g9, cp9, rfl, ho9, _, hr9⟩ := hA.fq rfl
     exact (HR7.out _ _).2 ⟨_, _, _, _, _, _, _, g9, cp9, rfl, hr9 rfl, ho9, hA.fb, hf9 (hall 3 (by decide))⟩
   ·have hce : c = m := by have := HI.out.1; omega
    subst hce
    obtain ⟨a0, cp0, hR0, hO0⟩ := HI.out.2.1
    have hnn : ¬ (c : Int) < (c : Int) := by omega
    have HBR := HI.out.2.2.1
    have HAL := HI.out.2.2.2
    have hRD := KRD.out wr HBR
    have x0 := hR0.cell 0
    have x1 := hR0.cell 1
    have x2 := hR0.cell 2
    have x3 := hR0.cell 3
    have x4 := hR0.cell 4
    have x5 := hR0.cell 5
    simp at x0 x1 x2 x3 x4 x5
    obtain ⟨st0, st1, st2, st3, st4, st5, st6, st7, st8, st9, st10, st11⟩ := store_facts hRD
    go_wp2
    exact bodyPost_ret (results_cell_row Tryz.results39 _ _ D 33 _ (0, 0) _ (by rfl) (store_done hRD _ _ _ _ _ _) Tryz.underlying33 (by rfl) Tryz.infoPc) rfl (HEnd.out wr a0 cp0 hR0 HBR hO0 HAL _ rfl)
 refine wp_region_inv Tryz.mixed (by kernel_rfl) (fun L a W => ∃ u : Value, a = ⟨#[.string s, undef, .pointer (some ⟨D, 0, none⟩), .slice (some ⟨G, 0, none⟩) N N, u, undef, undef, .string s, .slice (some ⟨G, 0, none⟩) N N, .slice (some ⟨G, 0, none⟩) N N, .int .i64 (N : Int), .bool true, .tuple #[], cV (L 0) (.slice (some ⟨G, 0, none⟩) N N), cV (L 1) (.pointer (some ⟨G, 0, none⟩)), cV (L 2) (.string p0), cV (L 3) (.string (hbS p0)), cV (L 4) (.slice (some ⟨G, 0, none⟩) N N), cV (L 5) (.pointer (some ⟨G, 1, none⟩)), cV (L 6) (.string p1), cV (L 7) (.int .i64 (atv p1)), cV (L 8) (.slice (some ⟨G, 0, none⟩) N N), cV (L 9) (.pointer (some ⟨G, 2, none⟩)), cV (L 10) (.string p2), cV (L 11) (.int .i64 (atv p2)), cV (L 12) (.slice (some ⟨G, 0, none⟩) N N), cV (L 13) (.pointer (some ⟨G, 3, none⟩)), cV (L 14) (.string p3), cV (L 15) (.int .i64 (atv p3)), cV (L 16) (.slice (some ⟨G, 0, none⟩) N N), cV (L 17) (.pointer (some ⟨G, 4, none⟩)), cV (L 18) (.string p4), cV (L 19) (.string (hbS p4)), cV (L 20) (.agg #[.string (hbS p0), .int .i64 (atv p1), .int .i64 (atv p2), .int .i64 (atv p3), .string (hbS p4), .slice none 0 0]), undef, undef, undef, undef, undef, undef, undef, undef, undef, undef, undef, undef, undef, undef, undef, undef], []⟩ ∧ Below w1.heap.size w1 W ∧ ((L 3 = true → hbF p0 = true) ∧ (L 7 = true → atb p1 = true) ∧ (L 11 = true → atb p2 = true) ∧ (L 15 = true → atb p3 = true) ∧ (L 19 = true → hbF p4 = true)) ∧ (L 22 = true → L 21 = true) ∧ (L 21 = true → ∃ X, u = .pointer (some ⟨X, 0, none⟩) ∧ w1.heap.size ≤ X ∧ (L 22 = true → Row W X 33 #[.string (hbS p0), .int .i64 (atv p1), .int .i64 (atv p2), .int .i64 (atv p3), .string (hbS p4), .slice none 0 0]) ∧ (L 22 = false → Row W X 33 #[.string ⟨#[]⟩, .int .i64 0, .int .i64 0, .int .i64 0, .string ⟨#[]⟩, .slice none 0 0]))) ?_ ?_ ?_
 ·refine ⟨undef, rfl, hzz, ?_, ?_, ?_⟩
  ·simp
  ·simp
  ·simp
 ·intro i hi L a W hl hd hI
  obtain ⟨u, rfl, hB, hF, hU, hX⟩ := hI
  obtain ⟨c0, c1, c2, c3, c4⟩ := KS.out W hB
  obtain ⟨g0, g1, g2, g3, g4⟩ := hF
  match i, hi with
  | 0, _ =>
   refine wpOp_plain rfl (fun _ => rfl) fun K hK => ?_
   go_simp
   exact hK _ _ ⟨u, by simp only [Nat.reduceBEq, Bool.false_or, Bool.true_or, cV_y], hB, ⟨g0, g1, g2, g3, g4⟩, hU, hX⟩
  | 1, _ =>
   have d0 := hd.dep 0 (by kernel_rfl)
   refine wpOp_plain rfl (fun _ => rfl) fun K hK => ?_
   simp only [d0, cV_y]
   go_simp
   exact hK _ _ ⟨u, by simp only [Nat.reduceBEq, Bool.false_or, Bool.true_or, cV_y, d0], hB, ⟨g0, g1, g2, g3, g4⟩, hU, hX⟩
  | 2, _ =>
   have d1 := hd.dep 1 (by kernel_rfl)
   refine wpOp_plain rfl (fun _ => rfl) fun K hK => ?_
   simp only [d1, cV_y]
   go_simp
   exact hK _ _ ⟨u, by simp only [Nat.reduceBEq, Bool.false_or, Bool.true_or, cV_y, d1], hB, ⟨g0, g1, g2, g3, g4⟩, hU, hX⟩
  | 3, _ =>
   have d2 := hd.dep 2 (by kernel_rfl)
   refine wpOp_plain rfl (fun _ => rfl) fun K hK => ?_
   simp only [d2, cV_y]
   go_simp
   refine Calls.mono (KH.out p0 W z0 hB) ?_
   rintro e w2 ⟨⟨rfl, hf⟩ | ⟨rfl, hf⟩, hzn, hb⟩
   ·refine hK _ _ ⟨u, by simp only [Nat.reduceBEq, Bool.false_or, Bool.true_or, cV_y, d2], hzn, ⟨fun _ => hf, g1, g2, g3, g4⟩, hU, fun h => ?_⟩
    obtain ⟨X, hu, hX1, hX2, hX3⟩ := hX h
    exact ⟨X, hu, hX1, fun h => (hX2 h).below hb (hX2 h).lt, fun h => (hX3 h).below hb (hX3 h).lt⟩
   ·have hno : ¬ rdOk s := HNo.out (by simp [hf])
    exact (And.intro rfl (And.intro (Or.inr (And.intro rfl hno)) (below2 KB0.out (below2 KB1.out hzn))))
  | 4, _ =>
   refine wpOp_plain rfl (fun _ => rfl) fun K hK => ?_
   go_simp
   exact hK _ _ ⟨u, by simp only [Nat.reduceBEq, Bool.false_or, Bool.true_or, cV_y], hB, ⟨g0, g1, g2, g3, g4⟩, hU, hX⟩
  | 5, _ =>
   have d4 := hd.dep 4 (by kernel_rfl)
   refine wpOp_plain rfl (fun _ => rfl) fun K hK => ?_
   simp only [d4, cV_y]
   go_simp
   exact hK _ _ ⟨u, by simp only [Nat.reduceBEq, Bool.false_or, Bool.true_or, cV_y, d4], hB, ⟨g0, g1, g2, g3, g4⟩, hU, hX⟩
  | 6, _ =>
   have d5 := hd.dep 5 (by kernel_rfl)
   refine wpOp_plain rfl (fun _ => rfl) fun K hK => ?_
   simp only [d5, cV_y]
   go_simp
   exact hK _ _ ⟨u, by simp only [Nat.reduceBEq, Bool.false_or, Bool.true_or, cV_y, d5], hB, ⟨g0, g1, g2, g3, g4⟩, hU, hX⟩
  | 7, _ =>
   have d6 := hd.dep 6 (by kernel_rfl)
   refine wpOp_plain rfl (fun _ => rfl) fun K hK => ?_
   simp only [d6, cV_y]
   go_simp
   refine Calls.mono (KM.out p1 W z1 hB) ?_
   rintro e w2 ⟨⟨rfl, hf⟩ | ⟨rfl, hf⟩, hzn, hb⟩
   ·refine hK _ _ ⟨u, by simp only [Nat.reduceBEq, Bool.false_or, Bool.true_or, cV_y, d6], hzn, ⟨g0, fun _ => hf, g2, g3, g4⟩, hU, fun h => ?_⟩
    obtain ⟨X, hu, hX1, hX2, hX3⟩ := hX h
    exact ⟨X, hu, hX1, fun h => (hX2 h).below hb (hX2 h).lt, fun h => (hX3 h).below hb (hX3 h).lt⟩
   ·have hno : ¬ rdOk s := HNo.out (by simp [hf])
    exact (And.intro rfl (And.intro (Or.inr (And.intro rfl hno)) (below2 KB0.out (below2 KB1.out hzn))))
  | 8, _ =>
   refine wpOp_plain rfl (fun _ => rfl) fun K hK => ?_
   go_simp
   exact hK _ _ ⟨u, by simp only [Nat.reduceBEq, Bool.false_or, Bool.true_or, cV_y], hB, ⟨g0, g1, g2, g3, g4⟩, hU, hX⟩
  | 9, _ =>
   have d8 := hd.dep 8 (by kernel_rfl)
   refine wpOp_plain rfl (fun _ => rfl) fun K hK => ?_
   simp only [d8, cV_y]
   go_simp
   exact hK _ _ ⟨u, by simp only [Nat.reduceBEq, Bool.false_or, Bool.true_or, cV_y, d8], hB, ⟨g0, g1, g2, g3, g4⟩, hU, hX⟩
  | 10, _ =>
   have d9 := hd.dep 9 (by kernel_rfl)
   refine wpOp_plain rfl (fun _ => rfl) fun K hK => ?_
   simp only [d9, cV_y]
   go_simp
   exact hK _ _ ⟨u, by simp only [Nat.reduceBEq, Bool.false_or, Bool.true_or, cV_y, d9], hB, ⟨g0, g1, g2, g3, g4⟩, hU, hX⟩
  | 11, _ =>
   have d10 := hd.dep 10 (by kernel_rfl)
   refine wpOp_plain rfl (fun _ => rfl) fun K hK => ?_
   simp only [d10, cV_y]
   go_simp
   refine Calls.mono (KM.out p2 W z2 hB) ?_
   rintro e w2 ⟨⟨rfl, hf⟩ | ⟨rfl, hf⟩, hzn, hb⟩
   ·refine hK _ _ ⟨u, by simp only [Nat.reduceBEq, Bool.false_or, Bool.true_or, cV_y, d10], hzn, ⟨g0, g1, fun _ => hf, g3, g4⟩, hU, fun h => ?_⟩
    obtain ⟨X, hu, hX1, hX2, hX3⟩ := hX h
    exact ⟨X, hu, hX1, fun h => (hX2 h).below hb (hX2 h).lt, fun h => (hX3 h).below hb (hX3 h).lt⟩
   ·have hno : ¬ rdOk s := HNo.out (by simp [hf])
    exact (And.intro rfl (And.intro (Or.inr (And.intro rfl hno)) (below2 KB0.out (below2 KB1.out hzn))))
  | 12, _ =>
   refine wpOp_plain rfl (fun _ => rfl) fun K hK => ?_
   go_simp
   exact hK _ _ ⟨u, by simp only [Nat.reduceBEq, Bool.false_or, Bool.true_or, cV_y], hB, ⟨g0, g1, g2, g3, g4⟩, hU, hX⟩
  | 13, _ =>
   have d12 := hd.dep 12 (by kernel_rfl)
   refine wpOp_plain rfl (fun _ => rfl) fun K hK => ?_
   simp only [d12, cV_y]
   go_simp
   exact hK _ _ ⟨u, by simp only [Nat.reduceBEq, Bool.false_or, Bool.true_or, cV_y, d12], hB, ⟨g0, g1, g2, g3, g4⟩, hU, hX⟩
  | 14, _ =>
   have d13 := hd.dep 13 (by kernel_rfl)
   refine wpOp_plain rfl (fun _ => rfl) fun K hK => ?_
   simp only [d13, cV_y]
   go_simp
   exact hK _ _ ⟨u, by simp only [Nat.reduceBEq, Bool.false_or, Bool.true_or, cV_y, d13], hB, ⟨g0, g1, g2, g3, g4⟩, hU, hX⟩
  | 15, _ =>
   have d14 := hd.dep 14 (by kernel_rfl)
   refine wpOp_plain rfl (fun _ => rfl) fun K hK => ?_
   simp only [d14, cV_y]
   go_simp
   refine Calls.mono (KM.out p3 W z3 hB) ?_
   rintro e w2 ⟨⟨rfl, hf⟩ | ⟨rfl, hf⟩, hzn, hb⟩
   ·refine hK _ _ ⟨u, by simp only [Nat.reduceBEq, Bool.false_or, Bool.true_or, cV_y, d14], hzn, ⟨g0, g1, g2, fun _ => hf, g4⟩, hU, fun h => ?_⟩
    obtain ⟨X, hu, hX1, hX2, hX3⟩ := hX h
    exact ⟨X, hu, hX1, fun h => (hX2 h).below hb (hX2 h).lt, fun h => (hX3 h).below hb (hX3 h).lt⟩
   ·have hno : ¬ rdOk s := HNo.out (by simp [hf])
    exact (And.intro rfl (And.intro (Or.inr (And.intro rfl hno)) (below2 KB0.out (below2 KB1.out hzn))))
  | 16, _ =>
   refine wpOp_plain rfl (fun _ => rfl) fun K hK => ?_
   go_simp
   exact hK _ _ ⟨u, by simp only [Nat.reduceBEq, Bool.false_or, Bool.true_or, cV_y], hB, ⟨g0, g1, g2, g3, g4⟩, hU, hX⟩
  | 17, _ =>
   have d16 := hd.dep 16 (by kernel_rfl)
   refine wpOp_plain rfl (fun _ => rfl) fun K hK => ?_
   simp only [d16, cV_y]
   go_simp
   exact hK _ _ ⟨u, by simp only [Nat.reduceBEq, Bool.false_or, Bool.true_or, cV_y, d16], hB, ⟨g0, g1, g2, g3, g4⟩, hU, hX⟩
  | 18, _ =>
   have d17 := hd.dep 17 (by kernel_rfl)
   refine wpOp_plain rfl (fun _ => rfl) fun K hK => ?_
   simp only [d17, cV_y]
   go_simp
   exact hK _ _ ⟨u, by simp only [Nat.reduceBEq, Bool.false_or, Bool.true_or, cV_y, d17], hB, ⟨g0, g1, g2, g3, g4⟩, hU, hX⟩
  | 19, _ =>
   have d18 := hd.dep 18 (by kernel_rfl)
   refine wpOp_plain rfl (fun _ => rfl) fun K hK => ?_
   simp only [d18, cV_y]
   go_simp
   refine Calls.mono (KH.out p4 W z4 hB) ?_
   rintro e w2 ⟨⟨rfl, hf⟩ | ⟨rfl, hf⟩, hzn, hb⟩
   ·refine hK _ _ ⟨u, by simp only [Nat.reduceBEq, Bool.false_or, Bool.true_or, cV_y, d18], hzn, ⟨g0, g1, g2, g3, fun _ => hf⟩, hU, fun h => ?_⟩
    obtain ⟨X, hu, hX1, hX2, hX3⟩ := hX h
    exact ⟨X, hu, hX1, fun h => (hX2 h).below hb (hX2 h).lt, fun h => (hX3 h).below hb (hX3 h).lt⟩
   ·have hno : ¬ rdOk s := HNo.out (by simp [hf])
    exact (And.intro rfl (And.intro (Or.inr (And.intro rfl hno)) (below2 KB0.out (below2 KB1.out hzn))))
  | 20, _ =>
   have d3 := hd.dep 3 (by kernel_rfl)
   have d7 := hd.dep 7 (by kernel_rfl)
   have d11 := hd.dep 11 (by kernel_rfl)
   have d15 := hd.dep 15 (by kernel_rfl)
   have d19 := hd.dep 19 (by kernel_rfl)
   refine wpOp_plain rfl (fun _ => rfl) fun K hK => ?_
   simp only [d3, d7, d11, d15, d19, cV_y]
   go_simp
   exact hK _ _ ⟨u, by simp only [Nat.reduceBEq, Bool.false_or, Bool.true_or, cV_y, d3, d7, d11, d15, d19], hB, ⟨g0, g1, g2, g3, g4⟩, hU, hX⟩
  | 21, _ =>
   refine wpOp_plain rfl (fun _ => rfl) fun K hK => ?_
   go_simp
   refine hK _ _ ⟨_, rfl, hB.alloc hB.size _, ⟨g0, g1, g2, g3, g4⟩, fun _ => rfl, fun _ => ⟨_, rfl, hB.size, fun h => ?_, fun _ => Row.new W _ _⟩⟩
   have h1 := hU h
   rw [hl] at h1
   cases h1
  | 22, _ =>
   have d20 := hd.dep 20 (by kernel_rfl)
   have d21 := hd.dep 21 (by kernel_rfl)
   refine wpOp_plain rfl (fun _ => rfl) fun K hK => ?_
   simp only [d20, cV_y]
   obtain ⟨X, rfl, hX1, _, hX2⟩ := hX d21
   have hX2 := hX2 hl
   obtain ⟨st0, st1, st2, st3, st4, st5, st6, st7, st8, st9, st10, st11⟩ := store_facts hX2
   go_simp
   exact hK _ _ ⟨_, by simp only [Nat.reduceBEq, Bool.false_or, cV_y, d20], below_six hB hX1 _ _ _ _ _ _, ⟨g0, g1, g2, g3, g4⟩, fun _ => d21, fun _ => ⟨X, rfl, hX1, fun _ => store_done hX2 _ _ _ _ _ _, fun h => by cases h⟩⟩
  | n + 23, h => exact absurd h (by simp)
 ·intro L a W hall hI
  obtain ⟨u, rfl, hB, hF, hU, hX⟩ := hI
  have e0 := hall 0 (by decide)
  have e1 := hall 1 (by decide)
  have e2 := hall 2 (by decide)
  have e3 := hall 3 (by decide)
  have e4 := hall 4 (by decide)
  have e5 := hall 5 (by decide)
  have e6 := hall 6 (by decide)
  have e7 := hall 7 (by decide)
  have e8 := hall 8 (by decide)
  have e9 := hall 9 (by decide)
  have e10 := hall 10 (by decide)
  have e11 := hall 11 (by decide)
  have e12 := hall 12 (by decide)
  have e13 := hall 13 (by decide)
  have e14 := hall 14 (by decide)
  have e15 := hall 15 (by decide)
  have e16 := hall 16 (by decide)
  have e17 := hall 17 (by decide)
  have e18 := hall 18 (by decide)
  have e19 := hall 19 (by decide)
  have e20 := hall 20 (by decide)
  have e21 := hall 21 (by decide)
  have e22 := hall 22 (by decide)
  obtain ⟨X, rfl, hX1, hX2, _⟩ := hX e21
  simp only [e0, e1, e2, e3, e4, e5, e6, e7, e8, e9, e10, e11, e12, e13, e14, e15, e16, e17, e18, e19, e20, cV_y]
  exact (HRR.out _ _).2 ⟨X, rfl, hX1, hX2 e22, hB, hF.1 e3, hF.2.1 e7, hF.2.2.1 e11, hF.2.2.2.1 e15, hF.2.2.2.2 e19⟩
end Go.Proofs.YtihklfkhjpnjkaaGreatDoor
