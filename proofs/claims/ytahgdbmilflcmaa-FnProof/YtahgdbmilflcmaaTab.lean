/- The two functions that keep a table: powerOfTwo answers the power of two at every number, log the logarithm at every byte number; each makes one new block and turns nothing that was there. -/
import Derived.Test.YtahgdbmilflcmaaChecked
import Derived.Test.YtahgdbmilflcmaaGf
import Derived.Test.YtahgdbmilflcmaaLaws
import Derived.Outline
import Derived.WalkSpells
import Derived.WalkLawsBesides
namespace Go.Proofs.Ytahgdbmilflcmaa
set_option maxRecDepth 2000
open Go.ChangeShapes Go.WideShapes Go.ChangeAt Go.RowKit

def expZ : List Int := (List.range 255).map fun i => ((Gf.ex i : Nat) : Int)
def logZ : List Int := (List.range 256).map fun i => ((Gf.lg i : Nat) : Int)
def expV : Array Value := (expZ.map (Value.int .u8)).toArray
def logV : Array Value := (logZ.map (Value.int .u8)).toArray

theorem expV_at {i : Nat} (h : i < 255) : expV[i]? = some (.int .u8 ((Gf.ex i : Nat) : Int)) := by
  unfold expV expZ
  simp [h]
theorem logV_at {i : Nat} (h : i < 256) : logV[i]? = some (.int .u8 ((Gf.lg i : Nat) : Int)) := by
  unfold logV logZ
  simp [h]

set_option maxRecDepth 100000 in
set_option maxHeartbeats 400000 in
theorem pow2_pos (n : Int) (r : Nat) (w : World) (hr : r < 255) (h1 : n.tmod 255 = (r : Int)) :
    Calls Try.prog 113 #[.int .i64 n] w fun e w' => e = .returned (.int .u8 (Gf.ex r : Nat)) ∧ w' = w.alloc (.cells expV 139) := by
  have hc : (w.alloc (.cells expV 139)).cell? ⟨w.heap.size, r, none⟩ = some (.int .u8 (Gf.ex r : Nat)) := by
    rw [cell_of_row _ _ _ _ _ _ (heap_alloc_new w _)]; exact expV_at hr
  go_enter Try.func113, Try.ntmps113
  iterate 11 go_step
  refine wpList_table rfl rfl rfl 139 116 255 _ _ _ .u8 expZ rfl rfl rfl (by kernel_rfl) (by kernel_rfl) (by kernel_rfl) (by kernel_rfl) (by kernel_rfl) 5 3 rfl rfl rfl rfl rfl (by decide) (by simp) (by simp) ?_
  rw [show (expZ.map (Value.int .u8)).toArray = expV from rfl]
  refine wpList_frame (a' := { tmps := #[.int .i64 n, undef, .int .u8 0, .pointer (some ⟨w.heap.size, 0, none⟩), undef, .agg expV, undef, undef, undef, undef, undef, undef, undef, undef, undef], defers := [] }) (by kernel_rfl) ?_
  refine wpList_nil ?_
  go_wp2
  go_ret
  exact ⟨rfl, rfl⟩
set_option maxRecDepth 100000 in
set_option maxHeartbeats 400000 in
theorem pow2_neg (n : Int) (r : Nat) (w : World) (hr : r < 255) (h1 : n.tmod 255 = (r : Int) - 255) :
    Calls Try.prog 113 #[.int .i64 n] w fun e w' => e = .returned (.int .u8 (Gf.ex r : Nat)) ∧ w' = w.alloc (.cells expV 139) := by
  have hc : (w.alloc (.cells expV 139)).cell? ⟨w.heap.size, r, none⟩ = some (.int .u8 (Gf.ex r : Nat)) := by
    rw [cell_of_row _ _ _ _ _ _ (heap_alloc_new w _)]; exact expV_at hr
  go_enter Try.func113, Try.ntmps113
  iterate 11 go_step
  refine wpList_table rfl rfl rfl 139 116 255 _ _ _ .u8 expZ rfl rfl rfl (by kernel_rfl) (by kernel_rfl) (by kernel_rfl) (by kernel_rfl) (by kernel_rfl) 5 3 rfl rfl rfl rfl rfl (by decide) (by simp) (by simp) ?_
  rw [show (expZ.map (Value.int .u8)).toArray = expV from rfl]
  refine wpList_frame (a' := { tmps := #[.int .i64 n, undef, .int .u8 0, .pointer (some ⟨w.heap.size, 0, none⟩), undef, .agg expV, undef, undef, undef, undef, undef, undef, undef, undef, undef], defers := [] }) (by kernel_rfl) ?_
  refine wpList_nil ?_
  go_wp2
  go_ret
  exact ⟨rfl, rfl⟩
theorem pow2_any (n : Int) (w : World) :
    Calls Try.prog 113 #[.int .i64 n] w fun e w' => e = .returned (.int .u8 (Gf.ex (n % 255).toNat : Nat)) ∧ Below w.heap.size w w' := by
  have hr : (n % 255).toNat < 255 := by omega
  have hb : Below w.heap.size w (w.alloc (.cells expV 139)) := (Below.refl _ _).alloc (Nat.le_refl _) _
  have ht := Int.tmod_eq_emod (a := n) (b := 255)
  by_cases h : 0 ≤ n ∨ (255 : Int) ∣ n
  · rw [if_pos h] at ht
    refine (pow2_pos n (n % 255).toNat w hr (by omega)).mono ?_
    rintro e w' ⟨rfl, rfl⟩
    exact ⟨rfl, hb⟩
  · rw [if_neg h] at ht
    refine (pow2_neg n (n % 255).toNat w hr (by simp at ht; omega)).mono ?_
    rintro e w' ⟨rfl, rfl⟩
    exact ⟨rfl, hb⟩

set_option maxRecDepth 100000 in
set_option maxHeartbeats 400000 in
theorem log_any (r : Nat) (w : World) (hr : r < 256) :
    Calls Try.prog 114 #[.int .u8 (r : Int)] w fun e w' => e = .returned (.int .i64 (Gf.lg r : Nat)) ∧ Below w.heap.size w w' := by
  have hc : (w.alloc (.cells logV 140)).cell? ⟨w.heap.size, r, none⟩ = some (.int .u8 (Gf.lg r : Nat)) := by
    rw [cell_of_row _ _ _ _ _ _ (heap_alloc_new w _)]; exact logV_at hr
  have hl := Gf.lg_lt' r
  go_enter Try.func114, Try.ntmps114
  iterate 11 go_step
  refine wpList_table rfl rfl rfl 140 5 256 _ _ _ .u8 logZ rfl rfl rfl (by kernel_rfl) (by kernel_rfl) (by kernel_rfl) (by kernel_rfl) (by kernel_rfl) 4 3 rfl rfl rfl rfl rfl (by decide) (by simp) (by simp) ?_
  rw [show (logZ.map (Value.int .u8)).toArray = logV from rfl]
  refine wpList_frame (a' := { tmps := #[.int .u8 (r : Int), undef, .int .i64 0, .pointer (some ⟨w.heap.size, 0, none⟩), .agg logV, undef, undef, undef, undef], defers := [] }) (by kernel_rfl) ?_
  refine wpList_nil ?_
  go_wp2
  go_ret
  exact ⟨rfl, (Below.refl _ _).alloc (Nat.le_refl _) _⟩
end Go.Proofs.Ytahgdbmilflcmaa
