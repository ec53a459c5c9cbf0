/- The two functions that keep a table: powerOfTwo answers the power of two at every number, log the logarithm at every byte number; each makes one new block and turns nothing that was there. -/
import Derived.Test.YtggmcgcmpgofcaaChecked
import Derived.Test.YtggmcgcmpgofcaaH2
import Derived.Test.YtggmcgcmpgofcaaH4
import Derived.Outline
import Derived.WalkSpells
import Derived.WalkLawsBesides
import Derived.Laws.BitsAllLaws
import Derived.Test.YtggmcgcmpgofcaaH3
import Derived.Test.YtggmcgcmpgofcaaRows
import Derived.Test.YtggmcgcmpgofcaaH1
import Derived.Laws.Shifts
import Derived.Laws.OwnMore
import Derived.OwnWalk
import Derived.Test.YtggmcgcmpgofcaaH5
import Derived.BigQuiet
import Derived.Deep.QuietTactic
import Derived.StillTailTactics
import Derived.Laws.BytesArg
namespace Go.Proofs.Ytggmcgcmpgofcaa
set_option maxRecDepth 2000
open Go.ChangeShapes Go.WideShapes Go.ChangeAt Go.RowKit

end Go.Proofs.Ytggmcgcmpgofcaa
/- What each function of the field answers, in the program and in its model, at every number: sums, products, powers, inverses, quotients, powers of two and logarithms; none turns anything that was there. No condition. -/
namespace Go.Proofs.Ytggmcgcmpgofcaa
set_option maxRecDepth 2000
open Go.ChangeShapes Go.WideShapes Go.ChangeAt Go.RowKit

theorem below2 {a b c : World} (h1 : Below a.heap.size a b) (h2 : Below b.heap.size b c) : Below a.heap.size a c :=
  h1.trans (h2.mono h1.size)

/-- A byte number. -/
def isB (a : Int) : Bool := decide (0 ≤ a ∧ a ≤ 255)
/-! ### The program's small functions -/
/-! ### The program's functions, at every number -/
/-! ### The model's functions, at every number -/
end Go.Proofs.Ytggmcgcmpgofcaa
/- What the model's functions with loops answer at every number: products, powers, inverses, quotients, powers of two and logarithms; none turns anything that was there. No condition. -/
namespace Go.Proofs.Ytggmcgcmpgofcaa
set_option maxRecDepth 2000
open Go.ChangeShapes Go.WideShapes Go.ChangeAt Go.RowKit

end Go.Proofs.Ytggmcgcmpgofcaa
/- A long turned by any whole number: what the library's function, the program's and its model answer. No condition. -/
namespace Go.Proofs.Ytggmcgcmpgofcaa
set_option maxRecDepth 2000
open Go.ChangeShapes Go.WideShapes Go.ChangeAt Go.RowKit
open Gs (U rolI)

end Go.Proofs.Ytggmcgcmpgofcaa
/- The laws' own helpers over lists of numbers: a copy holds the same numbers in new memory; two lists are told equal just where they are. Condition: no list is longer than 2^20. -/
namespace Go.Proofs.Ytggmcgcmpgofcaa
set_option maxRecDepth 2000
open Go.ChangeShapes Go.WideShapes Go.ChangeAt Go.RowKit

/-- The first 'n' cells behind the address hold the numbers 'zs'. -/
def IntsAt (w : World) (a : Option Addr) (n : Nat) (zs : List Int) : Prop :=
  zs.length = n ∧ ∀ i, i < n → ∃ b off, a = some ⟨b, off, none⟩ ∧ w.cell? ⟨b, off + i, none⟩ = some (.int .i64 (zs.getD i 0))
theorem IntsAt.below {w w' : World} {a : Option Addr} {n : Nat} {zs : List Int} (h : IntsAt w a n zs) (hb : Below w.heap.size w w') : IntsAt w' a n zs := by
  refine ⟨h.1, fun i hi => ?_⟩
  obtain ⟨b, off, e, hc⟩ := h.2 i hi
  exact ⟨b, off, e, (hb.cell (p := ⟨b, off + i, none⟩) (block_lt_of_cell hc)).trans hc⟩
theorem IntsAt.mono {B : Nat} {w w' : World} {a : Option Addr} {n : Nat} {zs : List Int} (h : IntsAt w a n zs) (hb : Below B w w') (hB : ∀ x, a = some x → x.block < B) : IntsAt w' a n zs := by
  refine ⟨h.1, fun i hi => ?_⟩
  obtain ⟨b, off, e, hc⟩ := h.2 i hi
  exact ⟨b, off, e, (hb.cell (p := ⟨b, off + i, none⟩) (show b < B from hB _ e)).trans hc⟩
theorem IntsAt.some {w : World} {a : Option Addr} {n : Nat} {zs : List Int} (h : IntsAt w a n zs) (hn : 0 < n) : ∃ b off, a = some ⟨b, off, none⟩ ∧ ∀ i, i < n → w.cell? ⟨b, off + i, none⟩ = .some (.int .i64 (zs.getD i 0)) := by
  obtain ⟨b, off, e, _⟩ := h.2 0 hn
  refine ⟨b, off, e, fun i hi => ?_⟩
  obtain ⟨b', off', e', hc⟩ := h.2 i hi
  rw [e] at e'
  simp at e'
  obtain ⟨rfl, rfl⟩ := e'
  exact hc
theorem IsRow.ints {w : World} {a : Option Addr} {len cap : Nat} {zs : List Int} (h : IsRow .i64 w a len cap zs) : len ≤ cap ∧ IntsAt w a len (zs.take len) ∧ ∀ n ∈ zs.take len, (Lit.int .i64 n).wf = true := by
  rcases h with ⟨rfl, rfl, rfl, rfl⟩ | ⟨x, rfl, hl, hm, hz, hcell, hwz⟩
  · exact ⟨Nat.le_refl _, ⟨rfl, fun i hi => absurd hi (by omega)⟩, by simp⟩
  · refine ⟨hl, ⟨by rw [List.length_take]; omega, fun i hi => ?_⟩, fun n hn => hwz n (List.mem_of_mem_take hn)⟩
    obtain ⟨b, off, spot⟩ := x
    have hc := hcell i (by omega)
    have hspot : spot = none := by simpa [Addr.add] using World.cell?_spot (hcell 0 (by omega))
    subst hspot
    refine ⟨b, off, rfl, ?_⟩
    have e : (zs.take len).getD i 0 = zs.getD i 0 := by simp [hi]
    rw [e]
    have ea : (⟨b, off, none⟩ : Addr).add i = ⟨b, off + i, none⟩ := by unfold Addr.add; split <;> simp_all
    rw [← ea]
    exact hc
theorem ownsRow.ints {w : World} {B E g n cap : Nat} {zs : List Int} (h : w.ownsRow B E 1 (.slice (some ⟨g, 0, none⟩) n cap) n (zs.map (Value.int .i64))) : IntsAt w (some ⟨g, 0, none⟩) n zs := by
  have hl : zs.length = n := by simpa using h.1
  refine ⟨hl, fun i hi => ⟨g, 0, rfl, ?_⟩⟩
  rw [Nat.zero_add, h.cellAt i (by omega)]
  simp [hl, hi]

theorem ownsRow_below {w w' : World} {B e size n : Nat} {v : Value} {xs : List Value} (h : w.ownsRow B e size v n xs) (hb : Below w.heap.size w w') : w'.ownsRow B e size v n xs := by
  refine ⟨h.1, ?_⟩
  rcases h.2 with h' | ⟨g, cap, cur, h1, h2, h3, h4⟩
  · exact .inl h'
  · refine .inr ⟨g, cap, cur, h1, h2, ?_, h4⟩
    rw [hb.block g (Array.getElem?_eq_some_iff.1 h3).1]
    exact h3
end Go.Proofs.Ytggmcgcmpgofcaa
/- A round of mixing, in the program and in its model: what each answers at every four longs. No condition. -/
namespace Go.Proofs.Ytggmcgcmpgofcaa
set_option maxRecDepth 2000
open Go.ChangeShapes Go.WideShapes Go.ChangeAt Go.RowKit
open Gs (U rolI V4 mx)

end Go.Proofs.Ytggmcgcmpgofcaa
/- Texts scaled and summed byte by byte, in the program and in its model: what each answers at every text and number. Condition: texts of at most 2^20 bytes. -/
namespace Go.Proofs.Ytggmcgcmpgofcaa
set_option maxRecDepth 2000
open Go.ChangeShapes Go.WideShapes Go.ChangeAt Go.RowKit

end Go.Proofs.Ytggmcgcmpgofcaa
