/- A place in a row of so many, in the program: whether it is one, its neighbour, the place above it. Conditions: for the neighbour and the place above it at most 2^20 in the row. -/
import Derived.Test.YtahgdbmilflcmaaGt
import Derived.Test.YtahgdbmilflcmaaOwns
import Derived.Test.YtahgdbmilflcmaaField
import Derived.Deep.RegionHeld3
import Derived.Deep.AppendLies
namespace Go.Proofs.Ytahgdbmilflcmaa
set_option maxRecDepth 2000
open Go.ChangeShapes Go.WideShapes Go.ChangeAt Go.RowKit
open Gt (nb hf)

/-- A place in a row, as the value that it is. -/
abbrev SpV (p s : Int) : Value := .agg #[.int .i64 p, .int .i64 s]
theorem Try.infoSp : (Try.prog.info? 65).map (·.size) = some 2 := by kernel_rfl
theorem wrap_nat64 (n : Nat) (h : n ≤ 4611686018427387904) : IntKind.i64.wrap (n : Int) = (n : Int) := by rw [IntKind.wrap_i64]; omega
theorem xor_one (p : Nat) (h : p ≤ 1048576) : bits .xor .i64 (p : Int) 1 = ((nb p : Nat) : Int) := by
  rw [← Gt.nb_xor]
  exact xor_i64 p 1 (by omega) (by omega)

set_option maxHeartbeats 1000000 in
theorem sizeAbove_any (s : Nat) (w : World) (hs : s ≤ 1048576) : Calls Try.prog 74 #[.int .i64 (s : Int)] w fun e w' => e = .returned (.int .i64 ((hf s : Nat) : Int)) ∧ w' = w := by
  obtain ⟨q, hq⟩ : ∃ q, hf s = q := ⟨_, rfl⟩
  have h1 : IntKind.i64.wrap ((s : Int) + 1) = (s : Int) + 1 := by rw [IntKind.wrap_i64]; omega
  have h2 : ((s : Int) + 1).tdiv 2 = (q : Int) := by rw [Int.tdiv_eq_ediv_of_nonneg (by omega), ← hq]; unfold hf; omega
  have h3 : IntKind.i64.wrap (q : Int) = (q : Int) := by unfold hf at hq; rw [IntKind.wrap_i64]; omega
  rw [hq]
  go_enter Try.func74, Try.ntmps74
  go_wp2
  go_ret
  exact ⟨rfl, rfl⟩

def inT (p s : Int) : Bool := decide (0 ≤ p ∧ p < s ∧ s ≤ 64)
set_option maxHeartbeats 1000000 in
theorem isInTree_any (p s : Int) (w : World) : Calls Try.prog 39 #[SpV p s] w fun e w' => e = .returned (.bool (inT p s)) ∧ Below w.heap.size w w' := by
  by_cases h1 : 0 ≤ p
  · by_cases h2 : p < s
    · by_cases h3 : s ≤ 64
      · have HI : Hid (inT p s = true) := by show _ = _; simp [inT, h1, h2, h3]
        go_enter Try.func39, Try.ntmps39
        go_wp2
        go_ret
        exact ⟨by rw [HI.out]; rfl, (Below.refl _ _).alloc (Nat.le_refl _) _⟩
      · have HI : Hid (inT p s = false) := by show _ = _; simp [inT]; omega
        go_enter Try.func39, Try.ntmps39
        go_wp2
        go_ret
        exact ⟨by rw [HI.out]; rfl, (Below.refl _ _).alloc (Nat.le_refl _) _⟩
    · have HI : Hid (inT p s = false) := by show _ = _; simp [inT]; omega
      go_enter Try.func39, Try.ntmps39
      go_wp2
      go_ret
      exact ⟨by rw [HI.out]; rfl, (Below.refl _ _).alloc (Nat.le_refl _) _⟩
  · have HI : Hid (inT p s = false) := by show _ = _; simp [inT]; omega
    go_enter Try.func39, Try.ntmps39
    go_wp2
    go_ret
    exact ⟨by rw [HI.out]; rfl, (Below.refl _ _).alloc (Nat.le_refl _) _⟩

set_option maxHeartbeats 1000000 in
theorem neighbour_any (p s : Nat) (w : World) (hp : p ≤ 1048576) :
    Calls Try.prog 41 #[SpV (p : Int) (s : Int)] w fun e w' => e = .returned (.tuple #[.int .i64 ((nb p : Nat) : Int), .bool (decide (nb p < s))]) ∧ Below w.heap.size w w' := by
  have hx := xor_one p hp
  have hd : decide ((nb p : Int) < (s : Int)) = decide (nb p < s) := by simp
  generalize nb p = q at hx hd
  go_enter Try.func41, Try.ntmps41
  go_wp2_with fail
  go_quiet (fail)
  go_wp2
  go_ret2
  exact ⟨by first | rfl | (rw [← hd]; rfl), belowDrewN ((Below.refl _ _).alloc (Nat.le_refl _) _) _⟩

set_option maxHeartbeats 1000000 in
theorem spotAbove_any (p s : Nat) (w : World) (hp : p ≤ 1048576) (hs : s ≤ 1048576) :
    Calls Try.prog 43 #[SpV (p : Int) (s : Int)] w fun e w' => e = .returned (SpV ((p / 2 : Nat) : Int) ((hf s : Nat) : Int)) ∧ Below w.heap.size w w' := by
  obtain ⟨q, hq⟩ : ∃ q, p / 2 = q := ⟨_, rfl⟩
  have h2 : (p : Int).tdiv 2 = (q : Int) := by rw [Int.tdiv_eq_ediv_of_nonneg (by omega), ← hq]; omega
  have h3 : IntKind.i64.wrap (q : Int) = (q : Int) := by rw [IntKind.wrap_i64]; omega
  rw [hq]
  clear hq
  obtain ⟨w1, HW1⟩ : ∃ w1, Hid (w1 = (w.alloc (.cells #[.int .i64 (p : Int), .int .i64 (s : Int)] 65)).alloc (.cells #[.int .i64 0, .int .i64 0] 65)) := ⟨_, rfl⟩
  have K1 : Hid (Row w1 w.heap.size 65 #[.int .i64 (p : Int), .int .i64 (s : Int)] ∧ Row w1 (w.heap.size + 1) 65 #[.int .i64 0, .int .i64 0] ∧ Below w.heap.size w w1) := by
    rw [HW1.out]
    refine ⟨(Row.new w _ _).alloc _, ?_, ((Below.refl _ _).alloc (Nat.le_refl _) _).alloc (by simp) _⟩
    have := Row.new (w.alloc (.cells #[.int .i64 (p : Int), .int .i64 (s : Int)] 65)) #[.int .i64 0, .int .i64 0] 65
    rw [show (w.alloc (.cells #[.int .i64 (p : Int), .int .i64 (s : Int)] 65)).heap.size = w.heap.size + 1 by simp] at this
    exact this
  obtain ⟨r, hr⟩ : ∃ r, hf s = r := ⟨_, rfl⟩
  have hsz := fun W => sizeAbove_any s W hs
  rw [hr] at hsz ⊢
  have KS : Hid (∀ W, Calls Try.prog 74 #[.int .i64 (s : Int)] W fun e w' => e = .returned (.int .i64 (r : Int)) ∧ w' = W) := hsz
  clear hsz hr
  go_enter Try.func43, Try.ntmps43
  go_wp2_with fail
  rw [← HW1.out]
  have c0 := K1.out.1.cell 0
  have c1 := K1.out.1.cell 1
  have d0 := K1.out.2.1.cell 0
  have d1 := K1.out.2.1.cell 1
  have f0 := K1.out.2.1.free 0
  have f1 := K1.out.2.1.free 1
  simp at c0 c1 d0 d1
  go_still_tail 7, Try.mixed
  still_call (KS.out _)
  repeat still_step
  refine wpStill_nil ?_
  rw [fold_drew]
  have HR := ((K1.out.2.1.drew.set 0 (.int .i64 (q : Int))).set 1 (.int .i64 (r : Int)))
  have HB : Hid (Below w.heap.size w ((w1.drew.setCell ⟨w.heap.size + 1, 0, none⟩ (.int .i64 (q : Int))).setCell ⟨w.heap.size + 1, 1, none⟩ (.int .i64 (r : Int)))) := (K1.out.2.2.drew.setCell (by simp) _).setCell (by simp) _
  go_wp2
  refine bodyPost_ret (results_cell_row (by rfl) _ _ (w.heap.size + 1) 65 _ (0, 0) _ (by rfl) HR Try.underlying65 (by rfl) Try.infoSp) rfl ?_
  exact ⟨rfl, HB.out⟩
end Go.Proofs.Ytahgdbmilflcmaa
