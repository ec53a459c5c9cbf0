/- The row above a row, in the model. Conditions: at most 64 in the row, each of sixteen bytes. -/
import Derived.Test.YtggmcgcmpgofcaaL8
import Derived.Test.YtggmcgcmpgofcaaL10
import Derived.Test.YtggmcgcmpgofcaaL7
namespace Go.Proofs.Ytggmcgcmpgofcaa
set_option maxRecDepth 2000
open Go.ChangeShapes Go.WideShapes Go.ChangeAt Go.RowKit
open Gt (hf up jn)

end Go.Proofs.Ytggmcgcmpgofcaa
/- The model's functions over polynomials: what each answers, in memory of its own; nothing that was there turns. Conditions: lists of at most 2^20 numbers; byte numbers where sums and products are made. -/
namespace Go.Proofs.Ytggmcgcmpgofcaa
set_option maxRecDepth 2000
open Go.ChangeShapes Go.WideShapes Go.ChangeAt Go.RowKit

/-- A row of whole numbers of ours. -/
def OwnR (w : World) (B g n cap : Nat) (f : Nat → Nat) : Prop := w.ownsRow B 3 1 (.slice (some ⟨g, 0, none⟩) n cap) n ((eI f n).map (Value.int .i64))
theorem OwnR.cap {w : World} {B g n cap : Nat} {f : Nat → Nat} (h : OwnR w B g n cap f) : n ≤ cap := by
  rcases h.2 with h' | ⟨g', cap', cur, e, _, _, hn, _⟩
  · cases h'.1
  · cases e; exact hn
theorem OwnR.cell {w : World} {B g n cap i : Nat} {f : Nat → Nat} (h : OwnR w B g n cap f) (hi : i < n) : w.cell? ⟨g, i, none⟩ = some (.int .i64 ((f i : Nat) : Int)) := by
  rw [World.ownsRow.cellAt h i (by omega)]
  simp [eI, hi]
theorem OwnR.ints {w : World} {B g n cap : Nat} {f : Nat → Nat} (h : OwnR w B g n cap f) : IntsAt w (some ⟨g, 0, none⟩) n (eI f n) := ownsRow.ints h
theorem OwnR.lt {w : World} {B g n cap : Nat} {f : Nat → Nat} (h : OwnR w B g n cap f) : B ≤ g ∧ g < w.heap.size := World.ownsRow.lt h g rfl
theorem OwnR.below {w w' : World} {B g n cap : Nat} {f : Nat → Nat} (h : OwnR w B g n cap f) (hb : Below w.heap.size w w') : OwnR w' B g n cap f := ownsRow_below h hb
theorem OwnR.other {w w' : World} {B g n cap r : Nat} {f : Nat → Nat} (h : OwnR w B g n cap f) (hg : w.grownBy w' (some r)) (hr : g ≠ r) : OwnR w' B g n cap f :=
  World.ownsRow.kept h hg (.inr (by simp [Value.ownBlock]; exact hr))
theorem OwnR.congr {w : World} {B g n cap : Nat} {f h : Nat → Nat} (ho : OwnR w B g n cap f) (e : ∀ i, i < n → f i = h i) : OwnR w B g n cap h := by
  unfold OwnR at *
  rw [← eI_congr e]
  exact ho
theorem OwnR.set {w : World} {B g n cap k v : Nat} {f : Nat → Nat} (h : OwnR w B g n cap f) (hk : k < n) :
    OwnR (w.setCell ⟨g, k, none⟩ (.int .i64 (v : Int))) B g n cap (fun i => if i = k then v else f i) ∧ w.grownBy (w.setCell ⟨g, k, none⟩ (.int .i64 (v : Int))) (some g) := by
  have hs := World.ownsRow.stored h k (.int .i64 (v : Int))
  rw [eI_set f n k v .i64 hk] at hs
  exact ⟨hs.1, ⟨rfl, rfl, rfl, by simp, fun j _ hj => heap_setCell_other w ⟨g, k, none⟩ j _ (fun e => hj (by simp [e]))⟩⟩
end Go.Proofs.Ytggmcgcmpgofcaa
