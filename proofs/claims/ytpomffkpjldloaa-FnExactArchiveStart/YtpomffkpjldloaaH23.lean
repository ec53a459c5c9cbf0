/- The program's sums of a row: pieces, or texts, each times its number. Conditions: at most 16 parts, at most 2^20 bytes each. -/
import Derived.Test.YtpomffkpjldloaaH21
import Derived.Test.YtpomffkpjldloaaH20
import Derived.Test.YtpomffkpjldloaaH9
namespace Go.Proofs.Ytpomffkpjldloaa
set_option maxRecDepth 2000
open Go.ChangeShapes Go.WideShapes Go.ChangeAt Go.RowKit

/-- A row of bytes of ours. -/
def OwnB (w : World) (B g n cap : Nat) (f : Nat → Nat) : Prop := w.ownsRow B 5 1 (.slice (some ⟨g, 0, none⟩) n cap) n ((eI f n).map (Value.int .u8))
theorem OwnB.lt {w : World} {B g n cap : Nat} {f : Nat → Nat} (h : OwnB w B g n cap f) : B ≤ g ∧ g < w.heap.size := World.ownsRow.lt h g rfl
theorem OwnB.cell {w : World} {B g n cap i : Nat} {f : Nat → Nat} (h : OwnB w B g n cap f) (hi : i < n) : w.cell? ⟨g, i, none⟩ = some (.int .u8 ((f i : Nat) : Int)) := by
  rw [World.ownsRow.cellAt h i (by omega)]
  simp [eI, hi]
theorem OwnB.below {w w' : World} {B g n cap : Nat} {f : Nat → Nat} (h : OwnB w B g n cap f) (hb : Below w.heap.size w w') : OwnB w' B g n cap f := ownsRow_below h hb
theorem OwnB.congr {w : World} {B g n cap : Nat} {f h : Nat → Nat} (ho : OwnB w B g n cap f) (e : ∀ i, i < n → f i = h i) : OwnB w B g n cap h := by
  unfold OwnB at *
  rw [← eI_congr e]
  exact ho
theorem OwnB.set {w : World} {B g n cap k v : Nat} {f : Nat → Nat} (h : OwnB w B g n cap f) (hk : k < n) :
    OwnB (w.setCell ⟨g, k, none⟩ (.int .u8 (v : Int))) B g n cap (fun i => if i = k then v else f i) ∧ w.grownBy (w.setCell ⟨g, k, none⟩ (.int .u8 (v : Int))) (some g) := by
  have h1 := (World.ownsRow.stored h k (.int .u8 (v : Int))).1
  rw [eI_set f n k v .u8 hk] at h1
  exact ⟨h1, grown_set w g k _⟩
/-- Pieces that are read. -/
def PcsAt (w : World) (a : Option Addr) (n l : Nat) (T : Nat → Nat → Nat) : Prop :=
  ∀ i, i < n → ∃ b off g o c, a = some ⟨b, off, none⟩ ∧ w.cell? ⟨b, off + i, none⟩ = some (.slice (some ⟨g, o, none⟩) l c) ∧ ∀ p, p < l → w.cell? ⟨g, o + p, none⟩ = some (.int .u8 ((T i p : Nat) : Int))
theorem PcsAt.below {w w' : World} {a : Option Addr} {n l : Nat} {T : Nat → Nat → Nat} (h : PcsAt w a n l T) (hb : Below w.heap.size w w') : PcsAt w' a n l T := fun i hi => by
  obtain ⟨b, off, g, o, c, e, hc, hp⟩ := h i hi
  exact ⟨b, off, g, o, c, e, (hb.cell (p := ⟨b, off + i, none⟩) (block_lt_of_cell hc)).trans hc, fun p hpl => (hb.cell (p := ⟨g, o + p, none⟩) (block_lt_of_cell (hp p hpl))).trans (hp p hpl)⟩

end Go.Proofs.Ytpomffkpjldloaa
/- The program's sums of a row over texts. Conditions: at most 16 texts, at most 2^20 bytes each. -/
namespace Go.Proofs.Ytpomffkpjldloaa
set_option maxRecDepth 2000
open Go.ChangeShapes Go.WideShapes Go.ChangeAt Go.RowKit

end Go.Proofs.Ytpomffkpjldloaa
