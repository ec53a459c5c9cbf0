/- The draws of chapter one's laws: what each gives, at any bytes. Condition: at most 2^20 bytes. -/
import Derived.Test.YtedepnlccolpoaaDraw
namespace Go.Proofs.Ytedepnlccolpoaa
open Go.ChangeShapes Go.WideShapes Go.ChangeAt Go.RowKit

/-- The bytes of a draw's code. -/
def CodeAt (w : World) (a : Option Addr) (n : Nat) : Prop :=
  n ≤ 1048576 ∧ ∀ j, j < n → ∃ b off x, a = some ⟨b, off, none⟩ ∧ w.cell? ⟨b, off + j, none⟩ = some (.int .u8 x) ∧ 0 ≤ x ∧ x ≤ 255
theorem CodeAt.below {w w' : World} {a : Option Addr} {n : Nat} (h : CodeAt w a n) (hb : Below w.heap.size w w') : CodeAt w' a n :=
  ⟨h.1, fun j hj => by
    obtain ⟨b, off, x, e, hc, hx⟩ := h.2 j hj
    exact ⟨b, off, x, e, (hb.cell (p := ⟨b, off + j, none⟩) (block_lt_of_cell hc)).trans hc, hx⟩⟩
theorem CodeAt.bytes {w : World} {a : Option Addr} {n : Nat} (h : CodeAt w a n) (g : Nat) (hg : w.heap.size ≤ g) : BytesAt w a n g := by
  intro j hj
  obtain ⟨b, off, x, e, hc, hx⟩ := h.2 j hj
  have := block_lt_of_cell hc
  exact ⟨b, off, x, e, by simp at this; omega, hc, hx⟩
theorem IsRow.code {w : World} {a : Option Addr} {len cap : Nat} {zs : List Int} (h : IsRow .u8 w a len cap zs) (hn : len ≤ 1048576) : CodeAt w a len := by
  refine ⟨hn, ?_⟩
  rcases h with ⟨rfl, rfl, rfl, rfl⟩ | ⟨x, rfl, hl, hm, hz, hcell, hwz⟩
  · intro j hj; omega
  · intro i hi
    obtain ⟨b, off, spot⟩ := x
    have hc := hcell i (by omega)
    have hspot : spot = none := by simpa [Addr.add] using World.cell?_spot (hcell 0 (by omega))
    subst hspot
    have ea : (⟨b, off, none⟩ : Addr).add i = ⟨b, off + i, none⟩ := by unfold Addr.add; split <;> simp_all
    rw [ea] at hc
    have hmem : zs.getD i 0 ∈ zs := by
      have hi2 : i < zs.length := by omega
      simp [hi2]
    have hb := bounds_u8 (hwz _ hmem)
    exact ⟨b, off, _, rfl, hc, by omega, by omega⟩

set_option maxHeartbeats 400000 in
theorem drawThree_any (a : Option Addr) (n cap : Nat) (w : World) (hc : CodeAt w a n) :
    Calls Try.prog 17 #[.slice a n cap] w fun e w' => ∃ x y z : Nat, x < 256 ∧ y < 256 ∧ z < 256 ∧ e = .returned (.tuple #[.int .i64 x, .int .i64 y, .int .i64 z]) ∧ Below w.heap.size w w' := by
  go_enter Try.func17, Try.ntmps17
  go_wp2_with fail
  refine (new_any a n cap _ hc.1 hc.bytes).mono ?_
  rintro e w1 ⟨g, rfl, hg, hb1, hc1⟩
  go_wp2_with fail
  refine (belowN_any g n cap a _ _ hc1).mono ?_
  rintro e w2 ⟨x, x0, x1, _, rfl, hg2, hc2⟩
  go_wp2_with fail
  refine (belowN_any g n cap a _ _ hc2).mono ?_
  rintro e w3 ⟨y, y0, y1, _, rfl, hg3, hc3⟩
  go_wp2_with fail
  refine (belowN_any g n cap a _ _ hc3).mono ?_
  rintro e w4 ⟨z, z0, z1, _, rfl, hg4, hc4⟩
  have x2 := x1 (by omega)
  have y2 := y1 (by omega)
  have z2 := z1 (by omega)
  obtain ⟨X, rfl⟩ := Int.eq_ofNat_of_zero_le x0
  obtain ⟨Y, rfl⟩ := Int.eq_ofNat_of_zero_le y0
  obtain ⟨Z, rfl⟩ := Int.eq_ofNat_of_zero_le z0
  go_wp2
  go_ret3
  exact ⟨X, Y, Z, by omega, by omega, by omega, rfl, hb1.trans (below_of_grownBy (grownBy_trans (grownBy_trans hg2 hg3) hg4) hg hb1.size)⟩

set_option maxHeartbeats 400000 in
theorem two_any (a : Option Addr) (n cap : Nat) (w : World) (hc : CodeAt w a n) :
    Calls Try.prog 49 #[.slice a n cap] w fun e w' => ∃ x y : Int, e = .returned (.tuple #[.int .i64 x, .int .i64 y]) ∧ Below w.heap.size w w' := by
  go_enter Try.func49, Try.ntmps49
  go_wp2_with fail
  refine (new_any a n cap _ hc.1 hc.bytes).mono ?_
  rintro e w1 ⟨g, rfl, hg, hb1, hc1⟩
  go_wp2_with fail
  refine (elem_any g n cap a _ hc1).mono ?_
  rintro e w2 ⟨x, rfl, hg2, hc2⟩
  go_wp2_with fail
  refine (elem_any g n cap a _ hc2).mono ?_
  rintro e w3 ⟨y, rfl, hg3, hc3⟩
  go_wp2
  go_ret2
  exact ⟨x, y, rfl, hb1.trans (below_of_grownBy (grownBy_trans hg2 hg3) hg hb1.size)⟩

set_option maxHeartbeats 400000 in
theorem drawMul_any (a : Option Addr) (n cap : Nat) (w : World) (hc : CodeAt w a n) :
    Calls Try.prog 18 #[.slice a n cap] w fun e w' => ∃ x y : Int, e = .returned (.tuple #[.int .i64 x, .int .i64 y]) ∧ Below w.heap.size w w' := by
  go_enter Try.func18, Try.ntmps18
  go_wp2_with fail
  refine (two_any a n cap _ hc).mono ?_
  rintro e w1 ⟨x, y, rfl, hb⟩
  go_wp2
  go_ret2
  exact ⟨x, y, rfl, hb⟩

set_option maxHeartbeats 400000 in
theorem drawLog_any (a : Option Addr) (n cap : Nat) (w : World) (hc : CodeAt w a n) :
    Calls Try.prog 29 #[.slice a n cap] w fun e w' => ∃ x : Int, e = .returned (.int .i64 x) ∧ Below w.heap.size w w' := by
  go_enter Try.func29, Try.ntmps29
  go_wp2_with fail
  refine (new_any a n cap _ hc.1 hc.bytes).mono ?_
  rintro e w1 ⟨g, rfl, hg, hb1, hc1⟩
  go_wp2_with fail
  refine (elem_any g n cap a _ hc1).mono ?_
  rintro e w2 ⟨x, rfl, hg2, hc2⟩
  go_wp2
  go_ret
  exact ⟨x, rfl, hb1.trans (below_of_grownBy hg2 hg hb1.size)⟩

set_option maxHeartbeats 400000 in
theorem drawPow_any (a : Option Addr) (n cap : Nat) (w : World) (hc : CodeAt w a n) :
    Calls Try.prog 26 #[.slice a n cap] w fun e w' => ∃ x y : Int, e = .returned (.tuple #[.int .i64 x, .int .i64 y]) ∧ Below w.heap.size w w' := by
  go_enter Try.func26, Try.ntmps26
  go_wp2_with fail
  refine (new_any a n cap _ hc.1 hc.bytes).mono ?_
  rintro e w1 ⟨g, rfl, hg, hb1, hc1⟩
  go_wp2_with fail
  refine (elem_any g n cap a _ hc1).mono ?_
  rintro e w2 ⟨x, rfl, hg2, hc2⟩
  go_wp2_with fail
  refine (once_any g n cap a _ _ hc2).mono ?_
  rintro e w3 ⟨y, rfl, hg3, hc3⟩
  cases y
  · go_wp2_with fail
    refine (belowN_any g n cap a _ _ hc3).mono ?_
    rintro e w4 ⟨z, _, _, _, rfl, hg4, hc4⟩
    go_wp2
    go_ret2
    exact ⟨_, _, rfl, hb1.trans (below_of_grownBy (grownBy_trans (grownBy_trans hg2 hg3) hg4) hg hb1.size)⟩
  · have hlt := hc3.lt
    go_wp2_with fail
    refine (pick_any g n cap a w3.heap.size 0 6 6 _ (hc3.alloc _) (by omega) (by omega) (by omega) (lit_cells (cs := [-1, 0, 255, 256, 1000000, 1000001]))).mono ?_
    rintro e w4 ⟨z, rfl, hg4, hc4⟩
    go_wp2
    go_ret2
    exact ⟨_, _, rfl, hb1.trans (below_of_grownBy (grownBy_trans (grownBy_trans hg2 hg3) (grownBy_trans (World.grownBy_alloc w3 _ _) hg4)) hg hb1.size)⟩

set_option maxHeartbeats 400000 in
theorem drawExp_any (a : Option Addr) (n cap : Nat) (w : World) (hc : CodeAt w a n) :
    Calls Try.prog 28 #[.slice a n cap] w fun e w' => ∃ x : Int, e = .returned (.int .i64 x) ∧ Below w.heap.size w w' := by
  go_enter Try.func28, Try.ntmps28
  go_wp2_with fail
  refine (new_any a n cap _ hc.1 hc.bytes).mono ?_
  rintro e w1 ⟨g, rfl, hg, hb1, hc1⟩
  go_wp2_with fail
  refine (belowN_any g n cap a _ _ hc1).mono ?_
  rintro e w2 ⟨x, x0, x1, _, rfl, hg2, hc2⟩
  have x2 := x1 (by omega)
  go_wp2_with fail
  refine (belowN_any g n cap a _ _ hc2).mono ?_
  rintro e w3 ⟨y, y0, y1, _, rfl, hg3, hc3⟩
  have y2 := y1 (by omega)
  have hlt := hc3.lt
  go_wp2_with fail
  refine (pick_any g n cap a w3.heap.size 0 6 6 _ (hc3.alloc _) (by omega) (by omega) (by omega) (lit_cells (cs := [x, -y, 9223372036854775807, -9223372036854775808, 254, 255]))).mono ?_
  rintro e w4 ⟨z, rfl, hg4, hc4⟩
  go_wp2
  go_ret
  exact ⟨_, rfl, hb1.trans (below_of_grownBy (grownBy_trans (grownBy_trans hg2 hg3) (grownBy_trans (World.grownBy_alloc w3 _ _) hg4)) hg hb1.size)⟩
end Go.Proofs.Ytedepnlccolpoaa
