/- The sum of products of two lists, in the program and in its model, and the laws' test of two lists. Condition: lists of at most 2^20 numbers. -/
import Derived.Test.YteiefhkolaiinaaDoorSlices
import Derived.Test.YteiefhkolaiinaaDoorSField
import Derived.Deep.QuietTactic
import Derived.BigQuiet
namespace Go.Proofs.YteiefhkolaiinaaDoor
set_option maxRecDepth 2000
open Go.ChangeShapes Go.WideShapes Go.ChangeAt Go.RowKit

def dotGo (xs ys : List Int) : Nat → Nat → Nat → Int
  | 0, _, x => (x : Int)
  | m + 1, k, x => if isB (xs.getD k 0) = true ∧ isB (ys.getD k 0) = true then dotGo xs ys m (k + 1) (x ^^^ Gf.mul (xs.getD k 0).toNat (ys.getD k 0).toNat) else -1
def dotI (xs ys : List Int) : Int := if xs.length = ys.length then dotGo xs ys xs.length 0 0 else -1

theorem dotGo_yes {xs ys : List Int} {n k X : Nat} (hk : k < n) {x y : Nat} (hx : (x : Int) = xs.getD k 0) (hy : (y : Int) = ys.getD k 0) (bx : x < 256) (bY : y < 256) :
    dotGo xs ys (n - k) k X = dotGo xs ys (n - (k + 1)) (k + 1) (X ^^^ Gf.mul x y) := by
  rw [show n - k = (n - (k + 1)) + 1 by omega]
  simp only [dotGo]
  rw [← hx, ← hy, if_pos ⟨isB_ofNat bx, isB_ofNat bY⟩]
  simp
theorem dotGo_no {xs ys : List Int} {n k X : Nat} (hk : k < n) (h : isB (xs.getD k 0) = false ∨ isB (ys.getD k 0) = false) : dotGo xs ys (n - k) k X = -1 := by
  rw [show n - k = (n - (k + 1)) + 1 by omega]
  simp only [dotGo]
  rw [if_neg]
  rintro ⟨h1, h2⟩
  rcases h with h | h
  · rw [h] at h1; cases h1
  · rw [h] at h2; cases h2

end Go.Proofs.YteiefhkolaiinaaDoor
