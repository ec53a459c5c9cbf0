/- The field's functions called one behind the other: each answers as it does, and nothing that was there at the first turns. No condition. -/
import Derived.Test.YtodpgbmpfflkoaaGreatDoorG7
import Derived.Test.YtodpgbmpfflkoaaGreatDoorG6
import Derived.Defers
import Derived.Recover
namespace Go.Proofs.YtodpgbmpfflkoaaGreatDoor
set_option maxRecDepth 2000
open Go.ChangeShapes Go.WideShapes Go.ChangeAt Go.RowKit

end Go.Proofs.YtodpgbmpfflkoaaGreatDoor
/- What refuses, and what is recovered at a face: need, caught, and the faces' deferred closures. Condition: the library's variable errors.errorType holds the type error. -/
namespace Go.Proofs.YtodpgbmpfflkoaaGreatDoor
set_option maxRecDepth 2000
open Go.ChangeShapes Go.WideShapes Go.ChangeAt Go.RowKit

/-- The library's variable, as it stands. -/
def ErrT (w : World) : Prop := w.cell? ⟨0, 0, none⟩ = some (.iface 191 (.agg #[.pointer (some ⟨1, 117, none⟩)]))
theorem ErrT.below {w w' : World} (h : ErrT w) (hb : Below w.heap.size w w') : ErrT w' := (hb.cell (p := ⟨0, 0, none⟩) (block_lt_of_cell h)).trans h
theorem ErrT.lt {w : World} (h : ErrT w) : 0 < w.heap.size := block_lt_of_cell h
abbrev failC (c : Int) : List PanicEntry := [{ v := .iface 119 (.int .i64 c), recovered := false }]
theorem need_ok (c : Int) (w : World) : Calls Tryz.prog 48 #[.bool true, .int .i64 c] w fun e w' => e = .returned (.tuple #[]) ∧ w' = w := by
  go_enter Tryz.func48, Tryz.ntmps48
  go_wp2
  go_end0
  exact ⟨rfl, rfl⟩
theorem need_no (c : Int) (w : World) : Calls Tryz.prog 48 #[.bool false, .int .i64 c] w fun e w' => e = .panicked (failC c) ∧ w' = w := by
  go_enter Tryz.func48, Tryz.ntmps48
  go_wp2
  simp [bodyPost]
theorem caught_nil (w : World) : Calls Tryz.prog 43 #[.nilIface] w fun e w' => e = .returned (.int .i64 0) ∧ w' = w := by
  go_enter Tryz.func43, Tryz.ntmps43
  go_wp2
  go_ret
  exact ⟨rfl, rfl⟩
set_option maxHeartbeats 1000000 in
theorem caught_fail (c : Int) (w : World) (h : ErrT w) : Calls Tryz.prog 43 #[.iface 119 (.int .i64 c)] w fun e w' => e = .returned (.int .i64 c) ∧ Below w.heap.size w w' := by
  have ta := fun xT : TypeId => run_typeAssert_hasB (P := Tryz.prog) (t := 119) (asserted := 117) Tryz.underlying117 (by kernel_rfl) (.int .i64 c) xT w
  obtain ⟨w0, HW0⟩ : ∃ x, Hid (x = w.alloc (.cells #[.int .i64 0] 119)) := ⟨_, rfl⟩
  obtain ⟨B, HB⟩ : ∃ x, Hid (x = w.heap.size) := ⟨_, rfl⟩
  have c0 : w0.cell? ⟨B, 0, none⟩ = some (.int .i64 0) := by rw [HW0.out, HB.out]; simp
  have f0 : w0.frozen? ⟨B, 0, none⟩ = false := by rw [HW0.out, HB.out]; simp
  have b0 : Below w.heap.size w w0 := by rw [HW0.out]; exact (Below.refl _ _).alloc (Nat.le_refl _) _
  have KA : Hid _ := as_hit c ⟨B, 0, none⟩ (.int .i64 0) w0 (h.below b0) c0 f0
  have KB : Hid (Below w.heap.size w w0) := b0
  have lB : B < w0.heap.size := block_lt_of_cell c0
  have hBw : w.heap.size ≤ B := by rw [HB.out]; exact Nat.le_refl _
  clear h f0 b0
  go_enter Tryz.func43, Tryz.ntmps43
  go_wp2_with fail
  rw [← HW0.out, ← HB.out]
  refine Calls.mono KA.out ?_
  rintro e w' ⟨rfl, W, bW, rfl⟩
  have c1 : (W.setCell ⟨B, 0, none⟩ (.int .i64 c)).cell? ⟨B, 0, none⟩ = some (.int .i64 c) := World.cell?_setCell_same _ _ _ ((bW.cell (p := ⟨B, 0, none⟩) lB).trans c0)
  have HF : Hid (Below w.heap.size w (W.setCell ⟨B, 0, none⟩ (.int .i64 c))) := (KB.out.trans (bW.mono KB.out.size)).setCell hBw _
  generalize W.setCell ⟨B, 0, none⟩ (.int .i64 c) = w2 at c1 HF
  clear bW c0
  go_wp2
  go_ret
  exact ⟨rfl, HF.out⟩
set_option maxHeartbeats 1000000 in
theorem catchR_panicking (p : Addr) (old : Value) (c : Int) (older : List PanicEntry) (w : World) (h : ErrT w) (hc : w.cell? p = some old) (hz : w.frozen? p = false) :
    CallsD Tryz.prog 42 #[.pointer (some p)] (.panicking ({ v := .iface 119 (.int .i64 c), recovered := false } :: older)) w fun e u' w' =>
      e = .returned (.tuple #[]) ∧ u' = .panicking ({ v := .iface 119 (.int .i64 c), recovered := true } :: older) ∧ ∃ W, Below w.heap.size w W ∧ w' = W.setCell p (.int .i64 c) := by
  refine callsD_of_wpS Tryz.func42 rfl fun c₀ cs hu => ?_
  apply wpS_region
  simp [wpOpsS, go_sem, recoverD, hu, Tryz.ntmps42]
  have lp := block_lt_of_cell hc
  refine Calls.mono (caught_fail c w h) ?_
  rintro e w' ⟨rfl, hb⟩
  have hc' := (hb.cell (p := p) lp).trans hc
  have hz' := (World.frozen?_of_block (a := p) (hb.block _ lp)).trans hz
  simp [go_sem, hc', hz', bodyPostS, results, Tryz.results42, storeCells, Addr.add]
  exact ⟨w', hb, rfl⟩
set_option maxHeartbeats 1000000 in
theorem catchR_idle (p : Addr) (old : Value) (w : World) (hc : w.cell? p = some old) (hz : w.frozen? p = false) :
    CallsD Tryz.prog 42 #[.pointer (some p)] .returning w fun e u' w' => e = .returned (.tuple #[]) ∧ u' = .returning ∧ w' = w.setCell p (.int .i64 0) := by
  refine callsD_of_wpS Tryz.func42 rfl fun c₀ cs hu => ?_
  apply wpS_region
  simp [wpOpsS, go_sem, recoverD, hu, Tryz.ntmps42]
  refine Calls.mono (caught_nil w) ?_
  rintro e w' ⟨rfl, rfl⟩
  simp [go_sem, hc, hz, bodyPostS, results, Tryz.results42, storeCells, Addr.add]
  cases c₀
  simp_all
end Go.Proofs.YtodpgbmpfflkoaaGreatDoor
