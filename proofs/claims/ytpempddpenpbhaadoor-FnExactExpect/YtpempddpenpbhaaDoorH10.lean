/- A round of mixing, in the program and in its model: what each answers at every four longs. No condition. -/
import Derived.Test.YtpempddpenpbhaaDoorH6
import Derived.Test.YtpempddpenpbhaaDoorH5
import Derived.BigQuiet
import Derived.Deep.QuietTactic
import Derived.StillTailTactics
namespace Go.Proofs.YtpempddpenpbhaaDoor
set_option maxRecDepth 2000
open Go.ChangeShapes Go.WideShapes Go.ChangeAt Go.RowKit
open Gs (U rolI V4 mx)

/-- Four longs as the value that they are. -/
abbrev A4 (v : V4) : Value := .agg #[.int .u64 (U v.a), .int .u64 (U v.b), .int .u64 (U v.c), .int .u64 (U v.d)]

theorem belowDrewN {B : Nat} {a w : World} (h : Below B a w) (n : Nat) : Below B a (w.drewN n) := ⟨h.os, h.tape, h.output, h.size, h.block⟩

set_option maxHeartbeats 2000000 in
theorem mix_any (v : V4) (w : World) : Calls Tryd.prog 71 #[A4 v] w fun e w' => e = .returned (A4 (mx v)) ∧ Below w.heap.size w w' := by
  obtain ⟨a, b, c, d⟩ := v
  have hadd := Gs.U_add
  have hxor := Gs.U_xor
  go_enter Tryd.func71, Tryd.ntmps71
  go_wp2_with fail
  go_quiet (fail)
  go_wp2_with (go_at_call 79; refine (roll_any _ _ _).mono ?_; rintro e w' ⟨rfl, hw⟩; obtain rfl := hw.symm)
  refine bodyPost_ret (v := A4 (mx ⟨a, b, c, d⟩)) (by simp [results, Tryd.results71, go_sem, mx]) rfl ⟨rfl, ?_⟩
  refine Below.setCell (Below.setCell (Below.setCell (Below.setCell ?_ (by simp) _) (by simp) _) (by simp) _) (by simp) _
  exact belowDrewN (((Below.refl _ _).alloc (Nat.le_refl _) _).alloc (by simp) _) nq

theorem Tryd.info4 : (Tryd.prog.info? 51).map (·.size) = some 4 := by kernel_rfl
theorem Tryd.mixed : Tryd.prog.follows .mixedOrders = true := by kernel_rfl

/-- Four longs as the cells that they are. -/
abbrev C4 (v : V4) : Array Value := #[.int .u64 (U v.a), .int .u64 (U v.b), .int .u64 (U v.c), .int .u64 (U v.d)]
/-- Of the call's own: the four longs at 'g'. -/
structure Own4 (w0 w : World) (g : Nat) (v : V4) : Prop where
  row : Row w g 51 (C4 v)
  res : ∃ z, Row w (g + 1) 51 (C4 z)
  bel : Below g w0 w
theorem Own4.set0 {w0 w : World} {g : Nat} {a b c d : BitVec 64} (h : Own4 w0 w g ⟨a, b, c, d⟩) (x : BitVec 64) : Own4 w0 (w.setCell ⟨g, 0, none⟩ (.int .u64 (U x))) g ⟨x, b, c, d⟩ :=
  ⟨h.row.set 0 _, by obtain ⟨z, hz⟩ := h.res; exact ⟨z, hz.other _ _ (by omega)⟩, h.bel.setCell (Nat.le_refl _) _⟩
theorem Own4.set1 {w0 w : World} {g : Nat} {a b c d : BitVec 64} (h : Own4 w0 w g ⟨a, b, c, d⟩) (x : BitVec 64) : Own4 w0 (w.setCell ⟨g, 1, none⟩ (.int .u64 (U x))) g ⟨a, x, c, d⟩ :=
  ⟨h.row.set 1 _, by obtain ⟨z, hz⟩ := h.res; exact ⟨z, hz.other _ _ (by omega)⟩, h.bel.setCell (Nat.le_refl _) _⟩
theorem Own4.set2 {w0 w : World} {g : Nat} {a b c d : BitVec 64} (h : Own4 w0 w g ⟨a, b, c, d⟩) (x : BitVec 64) : Own4 w0 (w.setCell ⟨g, 2, none⟩ (.int .u64 (U x))) g ⟨a, b, x, d⟩ :=
  ⟨h.row.set 2 _, by obtain ⟨z, hz⟩ := h.res; exact ⟨z, hz.other _ _ (by omega)⟩, h.bel.setCell (Nat.le_refl _) _⟩
theorem Own4.set3 {w0 w : World} {g : Nat} {a b c d : BitVec 64} (h : Own4 w0 w g ⟨a, b, c, d⟩) (x : BitVec 64) : Own4 w0 (w.setCell ⟨g, 3, none⟩ (.int .u64 (U x))) g ⟨a, b, c, x⟩ :=
  ⟨h.row.set 3 _, by obtain ⟨z, hz⟩ := h.res; exact ⟨z, hz.other _ _ (by omega)⟩, h.bel.setCell (Nat.le_refl _) _⟩
theorem Own4.drew {w0 w : World} {g : Nat} {v : V4} (h : Own4 w0 w g v) : Own4 w0 w.drew g v := ⟨h.row, h.res, h.bel.drew⟩
theorem Own4.cells {w0 w : World} {g : Nat} {a b c d : BitVec 64} (h : Own4 w0 w g ⟨a, b, c, d⟩) :
    w.cell? ⟨g, 0, none⟩ = some (.int .u64 (U a)) ∧ w.cell? ⟨g, 1, none⟩ = some (.int .u64 (U b)) ∧ w.cell? ⟨g, 2, none⟩ = some (.int .u64 (U c)) ∧ w.cell? ⟨g, 3, none⟩ = some (.int .u64 (U d)) ∧ w.frozen? ⟨g, 0, none⟩ = false ∧ w.frozen? ⟨g, 1, none⟩ = false ∧ w.frozen? ⟨g, 2, none⟩ = false ∧ w.frozen? ⟨g, 3, none⟩ = false :=
  ⟨h.row.cell 0, h.row.cell 1, h.row.cell 2, h.row.cell 3, h.row.free 0, h.row.free 1, h.row.free 2, h.row.free 3⟩

set_option maxHeartbeats 1000000 in
theorem sMix_any (v : V4) (w : World) : Calls Tryd.prog 40 #[A4 v] w fun e w' => e = .returned (A4 (mx v)) ∧ Below w.heap.size w w' := by
  obtain ⟨a, b, c, d⟩ := v
  have hadd := Gs.U_add
  have hxor := Gs.U_xor
  obtain ⟨w1, HW1⟩ : ∃ w1, Hid (w1 = (w.alloc (.cells (C4 ⟨a + b, b, c, d⟩) 51)).alloc (.cells #[.int .u64 0, .int .u64 0, .int .u64 0, .int .u64 0] 51)) := ⟨_, rfl⟩
  have K1 : Hid (Own4 w w1 w.heap.size ⟨a + b, b, c, d⟩) := by
    rw [HW1.out]
    refine ⟨(Row.new w _ _).alloc _, ⟨⟨0, 0, 0, 0⟩, ?_⟩, ((Below.refl _ _).alloc (Nat.le_refl _) _).alloc (by simp) _⟩
    have := Row.new (w.alloc (.cells (C4 ⟨a + b, b, c, d⟩) 51)) #[.int .u64 0, .int .u64 0, .int .u64 0, .int .u64 0] 51
    rw [show (w.alloc (.cells (C4 ⟨a + b, b, c, d⟩) 51)).heap.size = w.heap.size + 1 by simp] at this
    exact this
  go_enter Tryd.func40, Tryd.ntmps40
  go_wp2_with fail
  rw [← HW1.out]
  obtain ⟨w2, HW2⟩ : ∃ w2, Hid (w2 = (((w1.drew.setCell ⟨w.heap.size, 1, none⟩ (.int .u64 (U ((rolI b 13 ^^^ (a + b)))))).setCell ⟨w.heap.size, 0, none⟩ (.int .u64 (U (rolI (a + b) 32)))).setCell ⟨w.heap.size, 2, none⟩ (.int .u64 (U (c + d))))) := ⟨_, rfl⟩
  have K2 : Hid (Own4 w w2 w.heap.size ⟨rolI (a + b) 32, (rolI b 13 ^^^ (a + b)), c + d, d⟩) := by rw [HW2.out]; exact (((K1.out.drew.set1 ((rolI b 13 ^^^ (a + b)))).set0 (rolI (a + b) 32)).set2 (c + d))
  obtain ⟨x1, HX1⟩ : ∃ x, Hid (x = w1.drew) := ⟨_, rfl⟩
  have J1 : Hid (Own4 w x1 w.heap.size ⟨a + b, b, c, d⟩) := by rw [HX1.out]; exact K1.out.drew
  obtain ⟨c0, c1, c2, c3, f0, f1, f2, f3⟩ := K1.out.cells
  go_still_tail 7, Tryd.mixed
  still_call (sRoll_any b 13 _)
  repeat still_step
  refine wpStill_nil ?_
  rw [fold_drew, ← HX1.out]
  clear c0 c1 c2 c3 f0 f1 f2 f3
  obtain ⟨w2, HW2⟩ : ∃ w2, Hid (w2 = (((x1.setCell ⟨w.heap.size, 1, none⟩ (.int .u64 (U ((rolI b 13 ^^^ (a + b)))))).setCell ⟨w.heap.size, 0, none⟩ (.int .u64 (U (rolI (a + b) 32)))).setCell ⟨w.heap.size, 2, none⟩ (.int .u64 (U (c + d))))) := ⟨_, rfl⟩
  have K2 : Hid (Own4 w w2 w.heap.size ⟨rolI (a + b) 32, (rolI b 13 ^^^ (a + b)), c + d, d⟩) := by rw [HW2.out]; exact (((J1.out.set1 ((rolI b 13 ^^^ (a + b)))).set0 (rolI (a + b) 32)).set2 (c + d))
  obtain ⟨c0, c1, c2, c3, f0, f1, f2, f3⟩ := J1.out.cells
  go_wp2_with (go_at_call 56; refine (sRoll_any _ _ _).mono ?_; rintro e w' ⟨rfl, hw⟩; obtain rfl := hw.symm)
  clear c0 c1 c2 c3 f0 f1 f2 f3
  rw [← HW2.out]
  obtain ⟨x2, HX2⟩ : ∃ x, Hid (x = w2.drew) := ⟨_, rfl⟩
  have J2 : Hid (Own4 w x2 w.heap.size ⟨rolI (a + b) 32, (rolI b 13 ^^^ (a + b)), c + d, d⟩) := by rw [HX2.out]; exact K2.out.drew
  obtain ⟨c0, c1, c2, c3, f0, f1, f2, f3⟩ := K2.out.cells
  go_still_tail 7, Tryd.mixed
  still_call (sRoll_any d 16 _)
  repeat still_step
  refine wpStill_nil ?_
  rw [fold_drew, ← HX2.out]
  clear c0 c1 c2 c3 f0 f1 f2 f3
  obtain ⟨w3, HW3⟩ : ∃ w3, Hid (w3 = ((x2.setCell ⟨w.heap.size, 3, none⟩ (.int .u64 (U ((rolI d 16 ^^^ (c + d)))))).setCell ⟨w.heap.size, 0, none⟩ (.int .u64 (U ((rolI (a + b) 32 + (rolI d 16 ^^^ (c + d)))))))) := ⟨_, rfl⟩
  have K3 : Hid (Own4 w w3 w.heap.size ⟨(rolI (a + b) 32 + (rolI d 16 ^^^ (c + d))), (rolI b 13 ^^^ (a + b)), c + d, (rolI d 16 ^^^ (c + d))⟩) := by rw [HW3.out]; exact ((J2.out.set3 ((rolI d 16 ^^^ (c + d)))).set0 ((rolI (a + b) 32 + (rolI d 16 ^^^ (c + d)))))
  obtain ⟨c0, c1, c2, c3, f0, f1, f2, f3⟩ := J2.out.cells
  go_wp2_with (go_at_call 56; refine (sRoll_any _ _ _).mono ?_; rintro e w' ⟨rfl, hw⟩; obtain rfl := hw.symm)
  clear c0 c1 c2 c3 f0 f1 f2 f3
  rw [← HW3.out]
  obtain ⟨x3, HX3⟩ : ∃ x, Hid (x = w3.drew) := ⟨_, rfl⟩
  have J3 : Hid (Own4 w x3 w.heap.size ⟨(rolI (a + b) 32 + (rolI d 16 ^^^ (c + d))), (rolI b 13 ^^^ (a + b)), c + d, (rolI d 16 ^^^ (c + d))⟩) := by rw [HX3.out]; exact K3.out.drew
  obtain ⟨c0, c1, c2, c3, f0, f1, f2, f3⟩ := K3.out.cells
  go_still_tail 7, Tryd.mixed
  still_call (sRoll_any (rolI d 16 ^^^ (c + d)) 21 _)
  repeat still_step
  refine wpStill_nil ?_
  rw [fold_drew, ← HX3.out]
  clear c0 c1 c2 c3 f0 f1 f2 f3
  obtain ⟨w4, HW4⟩ : ∃ w4, Hid (w4 = ((x3.setCell ⟨w.heap.size, 3, none⟩ (.int .u64 (U ((rolI (rolI d 16 ^^^ (c + d)) 21 ^^^ (rolI (a + b) 32 + (rolI d 16 ^^^ (c + d)))))))).setCell ⟨w.heap.size, 2, none⟩ (.int .u64 (U (((c + d) + (rolI b 13 ^^^ (a + b)))))))) := ⟨_, rfl⟩
  have K4 : Hid (Own4 w w4 w.heap.size ⟨(rolI (a + b) 32 + (rolI d 16 ^^^ (c + d))), (rolI b 13 ^^^ (a + b)), ((c + d) + (rolI b 13 ^^^ (a + b))), (rolI (rolI d 16 ^^^ (c + d)) 21 ^^^ (rolI (a + b) 32 + (rolI d 16 ^^^ (c + d))))⟩) := by rw [HW4.out]; exact ((J3.out.set3 ((rolI (rolI d 16 ^^^ (c + d)) 21 ^^^ (rolI (a + b) 32 + (rolI d 16 ^^^ (c + d)))))).set2 (((c + d) + (rolI b 13 ^^^ (a + b)))))
  obtain ⟨c0, c1, c2, c3, f0, f1, f2, f3⟩ := J3.out.cells
  go_wp2_with (go_at_call 56; refine (sRoll_any _ _ _).mono ?_; rintro e w' ⟨rfl, hw⟩; obtain rfl := hw.symm)
  clear c0 c1 c2 c3 f0 f1 f2 f3
  rw [← HW4.out]
  obtain ⟨x4, HX4⟩ : ∃ x, Hid (x = w4.drew) := ⟨_, rfl⟩
  have J4 : Hid (Own4 w x4 w.heap.size ⟨(rolI (a + b) 32 + (rolI d 16 ^^^ (c + d))), (rolI b 13 ^^^ (a + b)), ((c + d) + (rolI b 13 ^^^ (a + b))), (rolI (rolI d 16 ^^^ (c + d)) 21 ^^^ (rolI (a + b) 32 + (rolI d 16 ^^^ (c + d))))⟩) := by rw [HX4.out]; exact K4.out.drew
  obtain ⟨c0, c1, c2, c3, f0, f1, f2, f3⟩ := K4.out.cells
  go_still_tail 7, Tryd.mixed
  still_call (sRoll_any (rolI b 13 ^^^ (a + b)) 17 _)
  repeat still_step
  refine wpStill_nil ?_
  rw [fold_drew, ← HX4.out]
  clear c0 c1 c2 c3 f0 f1 f2 f3
  obtain ⟨c0, c1, c2, c3, f0, f1, f2, f3⟩ := J4.out.cells
  obtain ⟨w5, HW5⟩ : ∃ w5, Hid (w5 = ((x4.setCell ⟨w.heap.size, 1, none⟩ (.int .u64 (U ((rolI (rolI b 13 ^^^ (a + b)) 17 ^^^ ((c + d) + (rolI b 13 ^^^ (a + b)))))))).setCell ⟨w.heap.size, 2, none⟩ (.int .u64 (U (rolI ((c + d) + (rolI b 13 ^^^ (a + b))) 32))))) := ⟨_, rfl⟩
  have K5 : Hid (Own4 w w5 w.heap.size ⟨(rolI (a + b) 32 + (rolI d 16 ^^^ (c + d))), (rolI (rolI b 13 ^^^ (a + b)) 17 ^^^ ((c + d) + (rolI b 13 ^^^ (a + b)))), rolI ((c + d) + (rolI b 13 ^^^ (a + b))) 32, (rolI (rolI d 16 ^^^ (c + d)) 21 ^^^ (rolI (a + b) 32 + (rolI d 16 ^^^ (c + d))))⟩) := by rw [HW5.out]; exact (J4.out.set1 _).set2 _
  have R5 : Hid (Row w5 w.heap.size 51 (C4 ⟨(rolI (a + b) 32 + (rolI d 16 ^^^ (c + d))), (rolI (rolI b 13 ^^^ (a + b)) 17 ^^^ ((c + d) + (rolI b 13 ^^^ (a + b)))), rolI ((c + d) + (rolI b 13 ^^^ (a + b))) 32, (rolI (rolI d 16 ^^^ (c + d)) 21 ^^^ (rolI (a + b) 32 + (rolI d 16 ^^^ (c + d))))⟩)) := K5.out.row
  obtain ⟨z, hz⟩ := K5.out.res
  have Z5 : Hid (Row w5 (w.heap.size + 1) 51 (C4 z)) := hz
  clear hz
  go_wp2_with fail
  refine (sRoll_any _ _ _).mono ?_
  rintro e w' ⟨rfl, hw⟩
  obtain rfl := hw.symm
  have ZR : Hid (Row ((((w5.setCell ⟨w.heap.size + 1, 0, none⟩ (.int .u64 (U (rolI (a + b) 32 + (rolI d 16 ^^^ (c + d)))))).setCell ⟨w.heap.size + 1, 1, none⟩ (.int .u64 (U (rolI (rolI b 13 ^^^ (a + b)) 17 ^^^ ((c + d) + (rolI b 13 ^^^ (a + b))))))).setCell ⟨w.heap.size + 1, 2, none⟩ (.int .u64 (U (rolI ((c + d) + (rolI b 13 ^^^ (a + b))) 32)))).setCell ⟨w.heap.size + 1, 3, none⟩ (.int .u64 (U (rolI (rolI d 16 ^^^ (c + d)) 21 ^^^ (rolI (a + b) 32 + (rolI d 16 ^^^ (c + d))))))) (w.heap.size + 1) 51 (C4 (mx ⟨a, b, c, d⟩))) := (((Z5.out.set 0 _).set 1 _).set 2 _).set 3 _
  have q0 := Z5.out.cell 0
  have q1 := Z5.out.cell 1
  have q2 := Z5.out.cell 2
  have q3 := Z5.out.cell 3
  have g0 := Z5.out.free 0
  have g1 := Z5.out.free 1
  have g2 := Z5.out.free 2
  have g3 := Z5.out.free 3
  simp at q0 q1 q2 q3
  go_wp2_with (rw [← HW5.out]; refine wpList_load_row (by rfl) 51 _ (by rfl) w.heap.size (by rfl) 51 _ (0, 0) _ R5.out Tryd.underlying51 (by rfl) Tryd.info4 ?_; clear c0 c1 c2 c3 f0 f1 f2 f3)
  clear q0 q1 q2 q3 g0 g1 g2 g3
  refine bodyPost_ret (v := A4 (mx ⟨a, b, c, d⟩)) (results_cell_row Tryd.results40 _ _ (w.heap.size + 1) 51 _ (0, 0) _ (by simp) ZR.out Tryd.underlying51 (by rfl) Tryd.info4) rfl ⟨rfl, ?_⟩
  exact Below.setCell (Below.setCell (Below.setCell (Below.setCell K5.out.bel (by simp) _) (by simp) _) (by simp) _) (by simp) _
end Go.Proofs.YtpempddpenpbhaaDoor
