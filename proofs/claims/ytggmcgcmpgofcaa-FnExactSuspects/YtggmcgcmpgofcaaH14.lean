/- Lists of texts in memory; the laws' own helpers over them: a copy, equal ones, their length, marks. Conditions: at most 2^20 texts. -/
import Derived.Test.YtggmcgcmpgofcaaH11
import Derived.Deep.Strs
import Derived.Deep.RegionHeld3
import Derived.Deep.AppendLies
import Derived.Test.YtggmcgcmpgofcaaH5
import Derived.Test.YtggmcgcmpgofcaaRows
namespace Go.Proofs.Ytggmcgcmpgofcaa
set_option maxRecDepth 2000
open Go.ChangeShapes Go.WideShapes Go.ChangeAt Go.RowKit

/-- A list of texts that is read. -/
def TxtAt (w : World) (a : Option Addr) (n : Nat) (S : Nat → ByteArray) : Prop := ∀ i, i < n → ∃ b off, a = some ⟨b, off, none⟩ ∧ w.cell? ⟨b, off + i, none⟩ = some (.string (S i))
theorem TxtAt.below {w w' : World} {a : Option Addr} {n : Nat} {S : Nat → ByteArray} (h : TxtAt w a n S) (hb : Below w.heap.size w w') : TxtAt w' a n S := fun i hi => by
  obtain ⟨b, off, e, hc⟩ := h i hi
  exact ⟨b, off, e, (hb.cell (p := ⟨b, off + i, none⟩) (block_lt_of_cell hc)).trans hc⟩
theorem TxtAt.congr {w : World} {a : Option Addr} {n : Nat} {S S' : Nat → ByteArray} (h : TxtAt w a n S) (e : ∀ i, i < n → S i = S' i) : TxtAt w a n S' := fun i hi => by
  obtain ⟨b, off, ea, hc⟩ := h i hi
  exact ⟨b, off, ea, by rw [← e i hi]; exact hc⟩
theorem TxtAt.some {w : World} {a : Option Addr} {n : Nat} {S : Nat → ByteArray} (h : TxtAt w a n S) (hn : 0 < n) : ∃ b off, a = some ⟨b, off, none⟩ ∧ ∀ i, i < n → w.cell? ⟨b, off + i, none⟩ = .some (.string (S i)) := by
  obtain ⟨b, off, e, _⟩ := h 0 hn
  refine ⟨b, off, e, fun i hi => ?_⟩
  obtain ⟨b', off', e', hc⟩ := h i hi
  rw [e] at e'
  simp at e'
  obtain ⟨rfl, rfl⟩ := e'
  exact hc
/-- Texts in a row. -/
def sL (S : Nat → ByteArray) (n : Nat) : List Value := (List.range n).map fun i => Value.string (S i)
theorem sL_get (S : Nat → ByteArray) (n i : Nat) (h : i < n) : (sL S n)[i]? = some (Value.string (S i)) := by simp [sL, h]
theorem sL_congr {S S' : Nat → ByteArray} {n : Nat} (h : ∀ i, i < n → S i = S' i) : sL S n = sL S' n := by
  unfold sL
  apply List.map_congr_left
  intro i hi
  rw [h i (List.mem_range.1 hi)]
/-- A list of texts of ours. -/
def OwnT (w : World) (B : Nat) (a : Option Addr) (n cap : Nat) (S : Nat → ByteArray) : Prop := w.ownsRow B 9 1 (.slice a n cap) n (sL S n)
theorem OwnT.at {w : World} {B : Nat} {a : Option Addr} {n cap : Nat} {S : Nat → ByteArray} (h : OwnT w B a n cap S) : TxtAt w a n S := by
  intro i hi
  rcases own_shape h with ⟨rfl, rfl, rfl⟩ | ⟨g, cur, rfl, _⟩
  · omega
  · exact ⟨g, 0, rfl, by rw [Nat.zero_add, h.cellAt i (by omega), sL_get _ _ _ hi]⟩
theorem OwnT.below {w w' : World} {B : Nat} {a : Option Addr} {n cap : Nat} {S : Nat → ByteArray} (h : OwnT w B a n cap S) (hb : Below w.heap.size w w') : OwnT w' B a n cap S := ownsRow_below h hb
theorem OwnT.congr {w : World} {B : Nat} {a : Option Addr} {n cap : Nat} {S S' : Nat → ByteArray} (h : OwnT w B a n cap S) (e : ∀ i, i < n → S i = S' i) : OwnT w B a n cap S' := by
  unfold OwnT at *
  rw [← sL_congr e]
  exact h
theorem OwnT.base {w : World} {B B' : Nat} {a : Option Addr} {n cap : Nat} {S : Nat → ByteArray} (h : OwnT w B a n cap S) (hB : B' ≤ B) : OwnT w B' a n cap S := own_base h hB
theorem OwnT.nil (w : World) (B : Nat) (S : Nat → ByteArray) : OwnT w B none 0 0 S := World.ownsRow_nil w B _ _
/-- A list of texts that was answered, in new memory. -/
def ResT (w w' : World) (v : Value) (n : Nat) (S : Nat → ByteArray) : Prop := ∃ a cap, v = .slice a n cap ∧ OwnT w' w.heap.size a n cap S
theorem ResT.none (w w' : World) (S : Nat → ByteArray) : ResT w w' (.slice none 0 0) 0 S := ⟨_, _, rfl, OwnT.nil _ _ _⟩
theorem ResT.congr {w w' : World} {v : Value} {n : Nat} {S S' : Nat → ByteArray} (h : ResT w w' v n S) (e : ∀ i, i < n → S i = S' i) : ResT w w' v n S' := by
  obtain ⟨a, cap, rfl, ho⟩ := h
  exact ⟨a, cap, rfl, ho.congr e⟩
end Go.Proofs.Ytggmcgcmpgofcaa
/- The laws' marks over lists of texts. Conditions: at most 1000 texts, marks up to 10^6. -/
namespace Go.Proofs.Ytggmcgcmpgofcaa
set_option maxRecDepth 2000
open Go.ChangeShapes Go.WideShapes Go.ChangeAt Go.RowKit

/-- A list of texts of ours that lies from block 'B' on, ahead of block 'E'. -/
def RowT (w : World) (B E : Nat) (a : Option Addr) (n cap : Nat) (S : Nat → ByteArray) : Prop := OwnT w B a n cap S ∧ ∀ x, a = some x → B ≤ x.block ∧ x.block < E
theorem OwnT.row {w : World} {B : Nat} {a : Option Addr} {n cap : Nat} {S : Nat → ByteArray} (h : OwnT w B a n cap S) : RowT w B w.heap.size a n cap S := by
  refine ⟨h, fun x e => ?_⟩
  subst e
  exact World.ownsRow.lt h x.block rfl
theorem ResT.row {w w' : World} {v : Value} {n : Nat} {S : Nat → ByteArray} (h : ResT w w' v n S) : ∃ a cap, v = .slice a n cap ∧ RowT w' w.heap.size w'.heap.size a n cap S := by
  obtain ⟨a, cap, rfl, ho⟩ := h
  exact ⟨a, cap, rfl, ho.row⟩
theorem RowT.below {w w' : World} {B E : Nat} {a : Option Addr} {n cap : Nat} {S : Nat → ByteArray} (h : RowT w B E a n cap S) (hb : Below w.heap.size w w') : RowT w' B E a n cap S := ⟨h.1.below hb, h.2⟩
theorem RowT.at {w : World} {B E : Nat} {a : Option Addr} {n cap : Nat} {S : Nat → ByteArray} (h : RowT w B E a n cap S) : TxtAt w a n S := h.1.at
theorem RowT.turned {w w' : World} {B E B' E' : Nat} {a : Option Addr} {n cap : Nat} {S : Nat → ByteArray} (h : RowT w B E a n cap S) (ht : TurnM w w' B' E') (hd : E ≤ B' ∨ E' ≤ B) : RowT w' B E a n cap S :=
  ⟨own_turn2 h.1 ht (fun x e hx => by have := h.2 x e; omega), h.2⟩
theorem TurnM.set (w : World) {B E g : Nat} (j : Nat) (v : Value) (hB : B ≤ g) (hE : g < E) : TurnM w (w.setCell ⟨g, j, none⟩ v) B E := ⟨rfl, rfl, rfl, by simp, fun i _ hi => heap_setCell_other w ⟨g, j, none⟩ i v (fun e => by have e' : i = g := e; omega)⟩
end Go.Proofs.Ytggmcgcmpgofcaa
/- A piece as the machine holds it. Definitions and lemmas; no walk. -/
namespace Go.Proofs.Ytggmcgcmpgofcaa
set_option maxRecDepth 2000
open Go.ChangeShapes Go.WideShapes Go.ChangeAt Go.RowKit

end Go.Proofs.Ytggmcgcmpgofcaa
