/- Rows of byte numbers in memory, as the program's polynomials lie there; and the program's small functions over them: reading, trimming, numbers, putting one scaled on top of another, values. Conditions: lists of at most 2^20 numbers. -/
import Derived.Test.YtgpghfnhgmkhgaaGreatJ6
import Derived.Test.YtgpghfnhgmkhgaaGreatJ2
import Derived.Deep.RegionHeld3
import Derived.Deep.AppendLies
namespace Go.Proofs.YtgpghfnhgmkhgaaGreat
set_option maxRecDepth 2000
open Go.ChangeShapes Go.WideShapes Go.ChangeAt Go.RowKit

/-- The first 'n' numbers of 'f'. -/
def eI (f : Nat → Nat) (n : Nat) : List Int := (List.range n).map fun i => ((f i : Nat) : Int)
theorem eI_len (f : Nat → Nat) (n : Nat) : (eI f n).length = n := by simp [eI]
theorem eI_congr {f g : Nat → Nat} {n : Nat} (h : ∀ i, i < n → f i = g i) : eI f n = eI g n := by
  unfold eI
  apply List.map_congr_left
  intro i hi
  rw [h i (List.mem_range.1 hi)]
theorem eI_set (f : Nat → Nat) (n k v : Nat) (d : IntKind) (h : k < n) : ((eI f n).map (Value.int d)).set k (.int d (v : Int)) = (eI (fun i => if i = k then v else f i) n).map (Value.int d) := by
  apply List.ext_getElem?
  intro i
  rw [List.getElem?_set]
  by_cases hi : i < n
  · by_cases e : k = i
    · subst e
      simp [eI, h]
    · simp [eI, hi, e, Ne.symm e]
  · by_cases e : k = i
    · omega
    · rw [if_neg e, List.getElem?_eq_none (by simp [eI_len]; omega), List.getElem?_eq_none (by simp [eI_len]; omega)]
/-- A slice of byte numbers that holds 'f'. -/
def Els (w : World) (a : Option Addr) (n cap : Nat) (f : Nat → Nat) : Prop :=
  n ≤ cap ∧ ((a = none ∧ n = 0 ∧ cap = 0) ∨ ∃ b, a = some ⟨b, 0, none⟩ ∧ b < w.heap.size ∧ ∀ i, i < n → w.cell? ⟨b, i, none⟩ = some (.int .u8 ((f i : Nat) : Int)))
theorem Els.below {w w' : World} {a : Option Addr} {n cap : Nat} {f : Nat → Nat} (h : Els w a n cap f) (hb : Below w.heap.size w w') : Els w' a n cap f := by
  refine ⟨h.1, ?_⟩
  rcases h.2 with h' | ⟨b, e, hl, hc⟩
  · exact .inl h'
  · exact .inr ⟨b, e, Nat.lt_of_lt_of_le hl hb.size, fun i hi => (hb.cell (p := ⟨b, i, none⟩) (block_lt_of_cell (hc i hi))).trans (hc i hi)⟩
theorem Els.grown {w w' : World} {a : Option Addr} {n cap g : Nat} {f : Nat → Nat} (h : Els w a n cap f) (hg : w.grownBy w' (some g)) (hn : ∀ b, a = some ⟨b, 0, none⟩ → b ≠ g) : Els w' a n cap f := by
  refine ⟨h.1, ?_⟩
  rcases h.2 with h' | ⟨b, e, hl, hc⟩
  · exact .inl h'
  · exact .inr ⟨b, e, Nat.lt_of_lt_of_le hl hg.size, fun i hi => hg.cell (hc i hi) (by simpa using hn b e)⟩
theorem Els.at {w : World} {a : Option Addr} {n cap i : Nat} {f : Nat → Nat} (h : Els w a n cap f) (hi : i < n) : ∃ b, a = some ⟨b, 0, none⟩ ∧ w.cell? ⟨b, i, none⟩ = some (.int .u8 ((f i : Nat) : Int)) := by
  rcases h.2 with h' | ⟨b, e, _, hc⟩
  · omega
  · exact ⟨b, e, hc i hi⟩
theorem Els.lt {w : World} {a : Option Addr} {n cap : Nat} {f : Nat → Nat} (h : Els w a n cap f) : ∀ b, a = some ⟨b, 0, none⟩ → b < w.heap.size := by
  intro b e
  rcases h.2 with ⟨h', _⟩ | ⟨b', e', hl, _⟩
  · rw [h'] at e; cases e
  · rw [e'] at e; cases e; exact hl
theorem Els.off {w : World} {a : Option Addr} {n cap g : Nat} {f : Nat → Nat} (h : Els w a n cap f) (hg : w.heap.size ≤ g) : ∀ b, a = some ⟨b, 0, none⟩ → b ≠ g := fun b e => by
  have := h.lt b e
  omega
theorem Els.nil (w : World) (f : Nat → Nat) : Els w none 0 0 f := ⟨Nat.le_refl _, .inl ⟨rfl, rfl, rfl⟩⟩
theorem Els.congr {w : World} {a : Option Addr} {n cap : Nat} {f g : Nat → Nat} (h : Els w a n cap f) (e : ∀ i, i < n → f i = g i) : Els w a n cap g := by
  refine ⟨h.1, ?_⟩
  rcases h.2 with h' | ⟨b, ea, hl, hc⟩
  · exact .inl h'
  · exact .inr ⟨b, ea, hl, fun i hi => by rw [hc i hi, e i hi]⟩
/-- A row of ours, of whole numbers. -/
def OwnI (w : World) (B : Nat) (v : Value) (zs : List Int) : Prop := w.ownsRow B 3 1 v zs.length (zs.map (Value.int .i64))
theorem OwnI.view {w : World} {B : Nat} {v : Value} {zs : List Int} (h : OwnI w B v zs) : ∃ a cap, v = .slice a zs.length cap ∧ IntsAt w a zs.length zs ∧ ∀ x, a = some x → B ≤ x.block ∧ x.block < w.heap.size := by
  rcases h.2 with ⟨e, hn⟩ | ⟨g, cap, cur, e, hB, hg, rest⟩
  · exact ⟨none, 0, by rw [e, hn], ⟨rfl, fun i hi => by omega⟩, fun x hx => by cases hx⟩
  · refine ⟨some ⟨g, 0, none⟩, cap, e, ?_, fun x hx => ?_⟩
    · subst e; exact ownsRow.ints h
    · cases hx; exact ⟨hB, (Array.getElem?_eq_some_iff.1 hg).1⟩
theorem OwnI.below {w w' : World} {B : Nat} {v : Value} {zs : List Int} (h : OwnI w B v zs) (hb : Below w.heap.size w w') : OwnI w' B v zs := ownsRow_below h hb
theorem OwnI.nil (w : World) (B : Nat) : OwnI w B (.slice none 0 0) [] := World.ownsRow_nil w B _ _

/-! ### Reading -/
end Go.Proofs.YtgpghfnhgmkhgaaGreat
/- The program's small functions over polynomials: reading, trimming, numbers, putting one scaled on top of another, values. Conditions: lists of at most 2^20 numbers, byte numbers. -/
namespace Go.Proofs.YtgpghfnhgmkhgaaGreat
set_option maxRecDepth 2000
open Go.ChangeShapes Go.WideShapes Go.ChangeAt Go.RowKit

end Go.Proofs.YtgpghfnhgmkhgaaGreat
/- The program's functions over polynomials that write or call in an open order: numbers, putting one scaled on top of another, values. Conditions: lists of at most 2^20 numbers, byte numbers. -/
namespace Go.Proofs.YtgpghfnhgmkhgaaGreat
set_option maxRecDepth 2000
open Go.ChangeShapes Go.WideShapes Go.ChangeAt Go.RowKit

end Go.Proofs.YtgpghfnhgmkhgaaGreat
/- The program's division of polynomials: what the quotient and the rest are, and where they lie. Conditions: byte numbers, the divisor's last number not 0, lists of at most 2^20 numbers. -/
namespace Go.Proofs.YtgpghfnhgmkhgaaGreat
set_option maxRecDepth 2000
open Go.ChangeShapes Go.WideShapes Go.ChangeAt Go.RowKit

end Go.Proofs.YtgpghfnhgmkhgaaGreat
/- A list without the noughts at its end, in the program and in its model; byte numbers and polynomials in the model. Conditions: lists of at most 2^20 numbers. -/
namespace Go.Proofs.YtgpghfnhgmkhgaaGreat
set_option maxRecDepth 2000
open Go.ChangeShapes Go.WideShapes Go.ChangeAt Go.RowKit

end Go.Proofs.YtgpghfnhgmkhgaaGreat
/- What the laws' walks carry of the rows of whole numbers in play: which numbers they hold and between which blocks they lie; and the laws' own helpers that mark a row and look at the marks. Condition: rows of at most 2^20 numbers. -/
namespace Go.Proofs.YtgpghfnhgmkhgaaGreat
set_option maxRecDepth 2000
open Go.ChangeShapes Go.WideShapes Go.ChangeAt Go.RowKit

/-- A row of ours that lies from block 'B' on, ahead of block 'E'. -/
def RowI (w : World) (B E : Nat) (a : Option Addr) (n cap : Nat) (zs : List Int) : Prop := OwnI w B (.slice a n cap) zs ∧ n = zs.length ∧ n ≤ cap ∧ ∀ k, (Value.slice a n cap).ownBlock = some k → B ≤ k ∧ k < E
theorem OwnI.row {w : World} {B E : Nat} {v : Value} {zs : List Int} (h : OwnI w B v zs) (hE : ∀ k, v.ownBlock = some k → k < E) : ∃ a cap, v = .slice a zs.length cap ∧ RowI w B E a zs.length cap zs := by
  rcases h.2 with ⟨e, hn⟩ | ⟨g, cap, cur, e, hB, hg, hcap, _⟩
  · refine ⟨none, 0, by rw [e, hn], ?_, rfl, by omega, fun k hk => by cases hk⟩
    rw [hn, ← e]
    exact h
  · subst e
    exact ⟨_, _, rfl, h, rfl, hcap, fun k hk => ⟨(World.ownsRow.lt h k hk).1, hE k hk⟩⟩
theorem RowI.ints {w : World} {B E : Nat} {a : Option Addr} {n cap : Nat} {zs : List Int} (h : RowI w B E a n cap zs) : IntsAt w a n zs := by
  obtain ⟨ho, rfl, _, _⟩ := h
  obtain ⟨a', cap', e, hi, _⟩ := ho.view
  cases e
  exact hi
theorem RowI.below {w w' : World} {B E : Nat} {a : Option Addr} {n cap : Nat} {zs : List Int} (h : RowI w B E a n cap zs) (hb : Below w.heap.size w w') : RowI w' B E a n cap zs := ⟨h.1.below hb, h.2⟩
/-- At most one block has turned, one that lies from 'B' on, ahead of 'E'. -/
def Turned (w w' : World) (B E : Nat) : Prop := ∃ r, w.grownBy w' r ∧ ∀ g, r = some g → B ≤ g ∧ g < E
theorem RowI.turned {w w' : World} {B E B' E' : Nat} {a : Option Addr} {n cap : Nat} {zs : List Int} (h : RowI w B E a n cap zs) (ht : Turned w w' B' E') (hd : E ≤ B' ∨ E' ≤ B) : RowI w' B E a n cap zs := by
  obtain ⟨r, hg, hr⟩ := ht
  refine ⟨World.ownsRow.kept h.1 hg ?_, h.2⟩
  cases hv : (Value.slice a n cap).ownBlock with
  | none => exact .inl rfl
  | some k =>
    right
    intro e
    have h1 := h.2.2.2 k hv
    have h2 := hr k e.symm
    omega
theorem Turned.below {w w' : World} {B E s : Nat} (h : Turned w w' B E) (hs : s ≤ B) (hw : s ≤ w.heap.size) : Below s w w' := by
  obtain ⟨r, hg, hr⟩ := h
  exact ⟨hg.os, hg.tape, hg.output, hg.size, fun j hj => hg.block j (by omega) (fun e => by have := hr j e.symm; omega)⟩
theorem Turned.size {w w' : World} {B E : Nat} (h : Turned w w' B E) : w.heap.size ≤ w'.heap.size := by
  obtain ⟨r, hg, _⟩ := h
  exact hg.size
/-- A list that was handed in: it lies ahead of block 's'. -/
def Arg (w : World) (s : Nat) (a : Option Addr) (n : Nat) (zs : List Int) : Prop := IntsAt w a n zs ∧ (0 < n → ∀ b off, a = some ⟨b, off, none⟩ → b < s)
theorem Arg.below {w w' : World} {s : Nat} {a : Option Addr} {n : Nat} {zs : List Int} (h : Arg w s a n zs) (hb : Below w.heap.size w w') : Arg w' s a n zs := ⟨h.1.below hb, h.2⟩
theorem Arg.turned {w w' : World} {s B E : Nat} {a : Option Addr} {n : Nat} {zs : List Int} (h : Arg w s a n zs) (ht : Turned w w' B E) (hs : s ≤ B) : Arg w' s a n zs := by
  obtain ⟨r, hg, hr⟩ := ht
  refine ⟨⟨h.1.1, fun i hi => ?_⟩, h.2⟩
  obtain ⟨b, off, e, hc⟩ := h.1.2 i hi
  refine ⟨b, off, e, hg.cell hc (fun e' => ?_)⟩
  have h1 := h.2 (by omega) b off e
  have h2 := hr b e'.symm
  omega
/-- The marks from 'k' on. -/
def marks (k n : Nat) : List Int := eI (fun i => k + i) n

end Go.Proofs.YtgpghfnhgmkhgaaGreat
/- The program's product of polynomials, and the polynomials that are 0 at places. Conditions: byte numbers, at most 100 factors of at most 1000 numbers. -/
namespace Go.Proofs.YtgpghfnhgmkhgaaGreat
set_option maxRecDepth 2000
open Go.ChangeShapes Go.WideShapes Go.ChangeAt Go.RowKit

/-- A row of polynomials. -/
def Facs (w : World) (g k : Nat) (A : Nat → Option Addr) (N C : Nat → Nat) (F : Nat → Nat → Nat) : Prop :=
  ∀ i, i < k → w.cell? ⟨g, i, none⟩ = some (.slice (A i) (N i) (C i)) ∧ Els w (A i) (N i) (C i) (F i)
theorem Facs.below {w w' : World} {g k : Nat} {A : Nat → Option Addr} {N C : Nat → Nat} {F : Nat → Nat → Nat} (h : Facs w g k A N C F) (hb : Below w.heap.size w w') : Facs w' g k A N C F := fun i hi =>
  ⟨(hb.cell (p := ⟨g, i, none⟩) (block_lt_of_cell (h i hi).1)).trans (h i hi).1, (h i hi).2.below hb⟩

end Go.Proofs.YtgpghfnhgmkhgaaGreat
/- The program's polynomials that are 0 at places. Conditions: byte numbers, at most 100 places. -/
namespace Go.Proofs.YtgpghfnhgmkhgaaGreat
set_option maxRecDepth 2000
open Go.ChangeShapes Go.WideShapes Go.ChangeAt Go.RowKit

theorem Els.alloc {w : World} {a : Option Addr} {n cap : Nat} {f : Nat → Nat} (h : Els w a n cap f) (o : Obj) : Els (w.alloc o) a n cap f :=
  h.below ((Below.refl _ _).alloc (Nat.le_refl _) _)

end Go.Proofs.YtgpghfnhgmkhgaaGreat
/- The program's functions over polynomials as they are called: what each answers at any lists of at most 2^20 numbers, in memory of its own; nothing that was there turns. -/
namespace Go.Proofs.YtgpghfnhgmkhgaaGreat
set_option maxRecDepth 2000
open Go.ChangeShapes Go.WideShapes Go.ChangeAt Go.RowKit

end Go.Proofs.YtgpghfnhgmkhgaaGreat
/- The program's sum, product and quotient of polynomials, at any lists of at most 2^20 numbers. -/
namespace Go.Proofs.YtgpghfnhgmkhgaaGreat
set_option maxRecDepth 2000
open Go.ChangeShapes Go.WideShapes Go.ChangeAt Go.RowKit

theorem OwnI.mono {w : World} {B B' : Nat} {v : Value} {zs : List Int} (h : OwnI w B v zs) (hb : B' ≤ B) : OwnI w B' v zs :=
  ⟨h.1, h.2.imp id fun ⟨g, cap, cur, h1, h2, h3⟩ => ⟨g, cap, cur, h1, Nat.le_trans hb h2, h3⟩⟩
end Go.Proofs.YtgpghfnhgmkhgaaGreat
/- The laws' marks with the sums as letters; the lengths of the answers. -/
namespace Go.Proofs.YtgpghfnhgmkhgaaGreat
set_option maxRecDepth 2000
open Go.ChangeShapes Go.WideShapes Go.ChangeAt Go.RowKit

end Go.Proofs.YtgpghfnhgmkhgaaGreat
/- The model's functions over polynomials: what each answers, in memory of its own; nothing that was there turns. Conditions: lists of at most 2^20 numbers; byte numbers where sums and products are made. -/
namespace Go.Proofs.YtgpghfnhgmkhgaaGreat
set_option maxRecDepth 2000
open Go.ChangeShapes Go.WideShapes Go.ChangeAt Go.RowKit

/-- A row of whole numbers of ours. -/
def OwnR (w : World) (B g n cap : Nat) (f : Nat → Nat) : Prop := w.ownsRow B 3 1 (.slice (some ⟨g, 0, none⟩) n cap) n ((eI f n).map (Value.int .i64))
theorem OwnR.cap {w : World} {B g n cap : Nat} {f : Nat → Nat} (h : OwnR w B g n cap f) : n ≤ cap := by
  rcases h.2 with h' | ⟨g', cap', cur, e, _, _, hn, _⟩
  · cases h'.1
  · cases e; exact hn
theorem OwnR.cell {w : World} {B g n cap i : Nat} {f : Nat → Nat} (h : OwnR w B g n cap f) (hi : i < n) : w.cell? ⟨g, i, none⟩ = some (.int .i64 ((f i : Nat) : Int)) := by
  rw [World.ownsRow.cellAt h i (by omega)]
  simp [eI, hi]
theorem OwnR.ints {w : World} {B g n cap : Nat} {f : Nat → Nat} (h : OwnR w B g n cap f) : IntsAt w (some ⟨g, 0, none⟩) n (eI f n) := ownsRow.ints h
theorem OwnR.lt {w : World} {B g n cap : Nat} {f : Nat → Nat} (h : OwnR w B g n cap f) : B ≤ g ∧ g < w.heap.size := World.ownsRow.lt h g rfl
theorem OwnR.below {w w' : World} {B g n cap : Nat} {f : Nat → Nat} (h : OwnR w B g n cap f) (hb : Below w.heap.size w w') : OwnR w' B g n cap f := ownsRow_below h hb
theorem OwnR.other {w w' : World} {B g n cap r : Nat} {f : Nat → Nat} (h : OwnR w B g n cap f) (hg : w.grownBy w' (some r)) (hr : g ≠ r) : OwnR w' B g n cap f :=
  World.ownsRow.kept h hg (.inr (by simp [Value.ownBlock]; exact hr))
theorem OwnR.congr {w : World} {B g n cap : Nat} {f h : Nat → Nat} (ho : OwnR w B g n cap f) (e : ∀ i, i < n → f i = h i) : OwnR w B g n cap h := by
  unfold OwnR at *
  rw [← eI_congr e]
  exact ho
theorem OwnR.set {w : World} {B g n cap k v : Nat} {f : Nat → Nat} (h : OwnR w B g n cap f) (hk : k < n) :
    OwnR (w.setCell ⟨g, k, none⟩ (.int .i64 (v : Int))) B g n cap (fun i => if i = k then v else f i) ∧ w.grownBy (w.setCell ⟨g, k, none⟩ (.int .i64 (v : Int))) (some g) := by
  have hs := World.ownsRow.stored h k (.int .i64 (v : Int))
  rw [eI_set f n k v .i64 hk] at hs
  exact ⟨hs.1, ⟨rfl, rfl, rfl, by simp, fun j _ hj => heap_setCell_other w ⟨g, k, none⟩ j _ (fun e => hj (by simp [e]))⟩⟩
end Go.Proofs.YtgpghfnhgmkhgaaGreat
