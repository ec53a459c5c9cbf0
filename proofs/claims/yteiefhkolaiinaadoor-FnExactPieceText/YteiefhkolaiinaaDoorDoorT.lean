/- The library's table of powers of ten, as it stands; what stands at a call's beginning stands on. No condition. -/
import Derived.Test.YteiefhkolaiinaaDoorShelf
import Derived.Test.YteiefhkolaiinaaDoorOwns
namespace Go.Proofs.YteiefhkolaiinaaDoor
set_option maxRecDepth 2000
open Go.ChangeShapes Go.WideShapes Go.ChangeAt Go.RowKit

theorem inter_snoc (sep : UInt8) (xs : List (List UInt8)) (y : List UInt8) : [sep].intercalate (xs ++ [y]) = if xs = [] then y else [sep].intercalate xs ++ sep :: y := by
  induction xs with
  | nil => simp [List.intercalate]
  | cons x xs ih =>
    cases xs with
    | nil => simp [List.intercalate, List.intersperse]
    | cons z zs =>
      rw [if_neg (by simp)] at ih ⊢
      have e1 : [sep].intercalate (x :: z :: zs ++ [y]) = x ++ [sep] ++ [sep].intercalate (z :: zs ++ [y]) := by simp [List.intercalate, List.intersperse]
      have e2 : [sep].intercalate (x :: z :: zs) = x ++ [sep] ++ [sep].intercalate (z :: zs) := by simp [List.intercalate, List.intersperse]
      rw [e1, e2, ih]
      simp
def TabOk (w : World) : Prop := Lib.TabIs Tryd.prog w "internal/strconv.uint64pow10" .u64 Lib.pow10Tab
theorem TabOk.below {w w' : World} (h : TabOk w) (hb : Below w.heap.size w w') : TabOk w' := by
  unfold TabOk Lib.TabIs World.var? at h ⊢
  cases hg : Tryd.prog.globalNamed "internal/strconv.uint64pow10" with
  | none => rw [hg] at h; cases h
  | some g =>
    rw [hg] at h
    simp only [Option.bind_some] at h ⊢
    have hlt : g < w.heap.size := by
      rcases Nat.lt_or_ge g w.heap.size with h' | h'
      · exact h'
      · rw [Array.getElem?_eq_none h'] at h; cases h
    rw [hb.block g hlt]
    exact h
theorem below_growD (w : World) (k : Nat) (os : Array Obj) : Below w.heap.size w (Sort.grow (w.drewN k) os) :=
  ⟨rfl, rfl, rfl, by show w.heap.size ≤ (w.heap ++ os).size; simp, fun j hj => by show (w.heap ++ os)[j]? = w.heap[j]?; rw [Array.getElem?_append_left hj]⟩
end Go.Proofs.YteiefhkolaiinaaDoor
