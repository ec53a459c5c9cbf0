/- Rows of byte numbers in memory, as the program's polynomials lie there; and the program's small functions over them: reading, trimming, numbers, putting one scaled on top of another, values. Conditions: lists of at most 2^20 numbers. -/
import Derived.Test.YtpomffkpjldloaaH6
import Derived.Test.YtpomffkpjldloaaH2
import Derived.Deep.RegionHeld3
import Derived.Deep.AppendLies
namespace Go.Proofs.Ytpomffkpjldloaa
set_option maxRecDepth 2000
open Go.ChangeShapes Go.WideShapes Go.ChangeAt Go.RowKit

/-- The first 'n' numbers of 'f'. -/
def eI (f : Nat → Nat) (n : Nat) : List Int := (List.range n).map fun i => ((f i : Nat) : Int)
theorem eI_len (f : Nat → Nat) (n : Nat) : (eI f n).length = n := by simp [eI]
theorem eI_get (f : Nat → Nat) (n i : Nat) (h : i < n) : (eI f n)[i]? = some ((f i : Nat) : Int) := by simp [eI, h]
theorem eI_getD (f : Nat → Nat) (n i : Nat) (h : i < n) : (eI f n).getD i 0 = ((f i : Nat) : Int) := by simp [List.getD, eI_get f n i h]
theorem eI_congr {f g : Nat → Nat} {n : Nat} (h : ∀ i, i < n → f i = g i) : eI f n = eI g n := by
  unfold eI
  apply List.map_congr_left
  intro i hi
  rw [h i (List.mem_range.1 hi)]
theorem eI_set (f : Nat → Nat) (n k v : Nat) (d : IntKind) (h : k < n) : ((eI f n).map (Value.int d)).set k (.int d (v : Int)) = (eI (fun i => if i = k then v else f i) n).map (Value.int d) := by
  apply List.ext_getElem?
  intro i
  rw [List.getElem?_set]
  by_cases hi : i < n
  · by_cases e : k = i
    · subst e
      simp [eI, h]
    · simp [eI, hi, e, Ne.symm e]
  · by_cases e : k = i
    · omega
    · rw [if_neg e, List.getElem?_eq_none (by simp [eI_len]; omega), List.getElem?_eq_none (by simp [eI_len]; omega)]
/-- A slice of byte numbers that holds 'f'. -/
def Els (w : World) (a : Option Addr) (n cap : Nat) (f : Nat → Nat) : Prop :=
  n ≤ cap ∧ ((a = none ∧ n = 0 ∧ cap = 0) ∨ ∃ b, a = some ⟨b, 0, none⟩ ∧ b < w.heap.size ∧ ∀ i, i < n → w.cell? ⟨b, i, none⟩ = some (.int .u8 ((f i : Nat) : Int)))
theorem Els.below {w w' : World} {a : Option Addr} {n cap : Nat} {f : Nat → Nat} (h : Els w a n cap f) (hb : Below w.heap.size w w') : Els w' a n cap f := by
  refine ⟨h.1, ?_⟩
  rcases h.2 with h' | ⟨b, e, hl, hc⟩
  · exact .inl h'
  · exact .inr ⟨b, e, Nat.lt_of_lt_of_le hl hb.size, fun i hi => (hb.cell (p := ⟨b, i, none⟩) (block_lt_of_cell (hc i hi))).trans (hc i hi)⟩
theorem Els.grown {w w' : World} {a : Option Addr} {n cap g : Nat} {f : Nat → Nat} (h : Els w a n cap f) (hg : w.grownBy w' (some g)) (hn : ∀ b, a = some ⟨b, 0, none⟩ → b ≠ g) : Els w' a n cap f := by
  refine ⟨h.1, ?_⟩
  rcases h.2 with h' | ⟨b, e, hl, hc⟩
  · exact .inl h'
  · exact .inr ⟨b, e, Nat.lt_of_lt_of_le hl hg.size, fun i hi => hg.cell (hc i hi) (by simpa using hn b e)⟩
theorem Els.at {w : World} {a : Option Addr} {n cap i : Nat} {f : Nat → Nat} (h : Els w a n cap f) (hi : i < n) : ∃ b, a = some ⟨b, 0, none⟩ ∧ w.cell? ⟨b, i, none⟩ = some (.int .u8 ((f i : Nat) : Int)) := by
  rcases h.2 with h' | ⟨b, e, _, hc⟩
  · omega
  · exact ⟨b, e, hc i hi⟩
theorem Els.lt {w : World} {a : Option Addr} {n cap : Nat} {f : Nat → Nat} (h : Els w a n cap f) : ∀ b, a = some ⟨b, 0, none⟩ → b < w.heap.size := by
  intro b e
  rcases h.2 with ⟨h', _⟩ | ⟨b', e', hl, _⟩
  · rw [h'] at e; cases e
  · rw [e'] at e; cases e; exact hl
theorem Els.off {w : World} {a : Option Addr} {n cap g : Nat} {f : Nat → Nat} (h : Els w a n cap f) (hg : w.heap.size ≤ g) : ∀ b, a = some ⟨b, 0, none⟩ → b ≠ g := fun b e => by
  have := h.lt b e
  omega
theorem Els.nil (w : World) (f : Nat → Nat) : Els w none 0 0 f := ⟨Nat.le_refl _, .inl ⟨rfl, rfl, rfl⟩⟩
theorem Els.congr {w : World} {a : Option Addr} {n cap : Nat} {f g : Nat → Nat} (h : Els w a n cap f) (e : ∀ i, i < n → f i = g i) : Els w a n cap g := by
  refine ⟨h.1, ?_⟩
  rcases h.2 with h' | ⟨b, ea, hl, hc⟩
  · exact .inl h'
  · exact .inr ⟨b, ea, hl, fun i hi => by rw [hc i hi, e i hi]⟩
/-- A row of ours, of whole numbers. -/
def OwnI (w : World) (B : Nat) (v : Value) (zs : List Int) : Prop := w.ownsRow B 3 1 v zs.length (zs.map (Value.int .i64))
theorem OwnI.view {w : World} {B : Nat} {v : Value} {zs : List Int} (h : OwnI w B v zs) : ∃ a cap, v = .slice a zs.length cap ∧ IntsAt w a zs.length zs ∧ ∀ x, a = some x → B ≤ x.block ∧ x.block < w.heap.size := by
  rcases h.2 with ⟨e, hn⟩ | ⟨g, cap, cur, e, hB, hg, rest⟩
  · exact ⟨none, 0, by rw [e, hn], ⟨rfl, fun i hi => by omega⟩, fun x hx => by cases hx⟩
  · refine ⟨some ⟨g, 0, none⟩, cap, e, ?_, fun x hx => ?_⟩
    · subst e; exact ownsRow.ints h
    · cases hx; exact ⟨hB, (Array.getElem?_eq_some_iff.1 hg).1⟩
theorem OwnI.below {w w' : World} {B : Nat} {v : Value} {zs : List Int} (h : OwnI w B v zs) (hb : Below w.heap.size w w') : OwnI w' B v zs := ownsRow_below h hb
theorem OwnI.nil (w : World) (B : Nat) : OwnI w B (.slice none 0 0) [] := World.ownsRow_nil w B _ _

/-! ### Reading -/
end Go.Proofs.Ytpomffkpjldloaa
/- The program's small functions over polynomials: reading, trimming, numbers, putting one scaled on top of another, values. Conditions: lists of at most 2^20 numbers, byte numbers. -/
namespace Go.Proofs.Ytpomffkpjldloaa
set_option maxRecDepth 2000
open Go.ChangeShapes Go.WideShapes Go.ChangeAt Go.RowKit

end Go.Proofs.Ytpomffkpjldloaa
