/- Rows of cells of our own; what a turn of other blocks leaves of them; sums of lengths. Definitions and lemmas; no walk. -/
import Derived.Test.YtbfkbbiddbnchaaH6
import Derived.Shelf.Abstract
import Derived.Deep.RegionHeld3
import Derived.Deep.AppendLies
namespace Go.Proofs.Ytbfkbbiddbnchaa
set_option maxRecDepth 2000
open Go.ChangeShapes Go.WideShapes Go.ChangeAt Go.RowKit

theorem below_of_drew {w w1 : World} (h : Below w.drew.heap.size w.drew w1) : Below w.heap.size w w1 := ⟨h.os, h.tape, h.output, h.size, h.block⟩
theorem own_shape {w : World} {B e s : Nat} {a : Option Addr} {n cap n' : Nat} {xs : List Value} (h : w.ownsRow B e s (.slice a n cap) n' xs) :
    (a = none ∧ n = 0 ∧ cap = 0) ∨ ∃ g cur, a = some ⟨g, 0, none⟩ ∧ B ≤ g ∧ w.heap[g]? = some (.cells cur e (0, 0)) ∧ n ≤ cap := by
  rcases h.2 with ⟨h', _⟩ | ⟨g, cap', cur, h', hb, hg, hn, _⟩
  · cases h'; exact .inl ⟨rfl, rfl, rfl⟩
  · cases h'; exact .inr ⟨g, cur, rfl, hb, hg, hn⟩
theorem own_kept {w w' : World} {B e s n : Nat} {a : Option Addr} {l c b : Nat} {xs : List Value} (h : w.ownsRow B e s (.slice a l c) n xs) (hg : w.grownBy w' (some b)) (hn : ∀ x, a = some x → x.block ≠ b) : w'.ownsRow B e s (.slice a l c) n xs := by
  refine World.ownsRow.kept h hg ?_
  cases a with
  | none => exact .inl rfl
  | some x => exact .inr (by simp [Value.ownBlock]; exact hn x rfl)
theorem grown_set (w : World) (g j : Nat) (v : Value) : w.grownBy (w.setCell ⟨g, j, none⟩ v) (some g) :=
  ⟨rfl, rfl, rfl, by simp, fun i _ hi => heap_setCell_other w ⟨g, j, none⟩ i _ (fun e => hi (by simp [e]))⟩
/-- Only blocks from 'B' on, ahead of 'E', have turned. -/
structure TurnM (w w' : World) (B E : Nat) : Prop where
  os : w'.os = w.os
  tape : w'.tape = w.tape
  output : w'.output = w.output
  size : w.heap.size ≤ w'.heap.size
  block : ∀ j, j < w.heap.size → (j < B ∨ E ≤ j) → w'.heap[j]? = w.heap[j]?
theorem TurnM.refl (w : World) (B E : Nat) : TurnM w w B E := ⟨rfl, rfl, rfl, Nat.le_refl _, fun _ _ _ => rfl⟩
theorem TurnM.trans {w w1 w2 : World} {B E : Nat} (h : TurnM w w1 B E) (h2 : TurnM w1 w2 B E) : TurnM w w2 B E :=
  ⟨h2.os.trans h.os, h2.tape.trans h.tape, h2.output.trans h.output, Nat.le_trans h.size h2.size, fun j hj hr => (h2.block j (Nat.lt_of_lt_of_le hj h.size) hr).trans (h.block j hj hr)⟩
theorem TurnM.below {w w' : World} {B E s : Nat} (h : TurnM w w' B E) (hs : s ≤ B) (hw : s ≤ w.heap.size) : Below s w w' :=
  ⟨h.os, h.tape, h.output, h.size, fun j hj => h.block j (by omega) (.inl (by omega))⟩
theorem own_turn {w w' : World} {B E B' E' e s n l c : Nat} {a : Option Addr} {xs : List Value} (h : w.ownsRow B e s (.slice a l c) n xs) (ht : TurnM w w' B' E') (hE : ∀ x, a = some x → x.block < E) (hd : E ≤ B' ∨ E' ≤ B) : w'.ownsRow B e s (.slice a l c) n xs := by
  refine ⟨h.1, ?_⟩
  rcases h.2 with h' | ⟨g, cap, cur, h1, h2, h3, h4⟩
  · exact .inl h'
  · refine .inr ⟨g, cap, cur, h1, h2, ?_, h4⟩
    cases h1
    have := hE _ rfl
    rw [ht.block g (Array.getElem?_eq_some_iff.1 h3).1 (by simp at this; omega)]
    exact h3
theorem own_turn2 {w w' : World} {B b e0 e s n l c : Nat} {a : Option Addr} {xs : List Value} (h : w.ownsRow B e s (.slice a l c) n xs) (ht : TurnM w w' b e0) (hx : ∀ x, a = some x → ¬ (b ≤ x.block ∧ x.block < e0)) : w'.ownsRow B e s (.slice a l c) n xs := by
  refine ⟨h.1, ?_⟩
  rcases h.2 with h' | ⟨g, cap, cur, h1, h2, h3, h4⟩
  · exact .inl h'
  · refine .inr ⟨g, cap, cur, h1, h2, ?_, h4⟩
    cases h1
    have := hx _ rfl
    rw [ht.block g (Array.getElem?_eq_some_iff.1 h3).1 (by simp at this; omega)]
    exact h3
/-- How many numbers the rows ahead of 'n' hold. -/
def tot (L : Nat → Nat) : Nat → Nat
  | 0 => 0
  | n + 1 => tot L n + L n
theorem tot_le (L : Nat → Nat) {i n : Nat} (h : i < n) : tot L i + L i ≤ tot L n := by
  induction n with
  | zero => omega
  | succ n ih =>
    by_cases e : i = n
    · subst e; exact Nat.le_refl _
    · have := ih (by omega)
      show _ ≤ tot L n + L n
      omega
theorem own_base {w : World} {B B' e s n : Nat} {v : Value} {xs : List Value} (h : w.ownsRow B e s v n xs) (hB : B' ≤ B) : w.ownsRow B' e s v n xs := by
  refine ⟨h.1, ?_⟩
  rcases h.2 with h' | ⟨g, cap, cur, h1, h2, h3⟩
  · exact .inl h'
  · exact .inr ⟨g, cap, cur, h1, by omega, h3⟩
/-- What is left of 'l' behind 'n' rows, or that it is too little. -/
def szF (L : Nat → Nat) (n l : Nat) : Int := if n + tot L n ≤ l then ((l - (n + tot L n) : Nat) : Int) else -1
end Go.Proofs.Ytbfkbbiddbnchaa
/- append onto a row of ours, as laws of the walk over any program. No condition but what each says. -/
namespace Go.Proofs.Ytbfkbbiddbnchaa
set_option maxRecDepth 2000
open Go.ChangeShapes Go.WideShapes Go.ChangeAt Go.RowKit

/-- append onto a row of ours; nothing may be appended, too. -/
theorem wpList_append_all {P : Program} (w : World) {ops : Array Oper} {rest : List Oper} {o : Oper} {a : Act} {Q : Exit → Act → World → Prop} (hgd : o.guard = none) (s x : Operand) (t : TypeId)
    (ho : o.op = .call { callee := .builtin .append, args := #[s, x], argTypes := #[t, t] })
    (base : Nat) (e : TypeId) (i : TypeInfo) (z : Value) (size bytes : Nat) (ht : P.underlying t = some (.slice e)) (hi : P.info? e = some i) (hz : i.zero = some z)
    (hsize : i.size = size) (hby : i.bytes = bytes) (hzs : z.cells.size = size) (hsz : 0 < size)
    (g0 n cap0 : Nat) (xs : List Value) (hs : a.eval s = .slice (some ⟨g0, 0, none⟩) n cap0) (hown : w.ownsRow base e size (.slice (some ⟨g0, 0, none⟩) n cap0) n xs)
    (ad : Addr) (m c : Nat) (news : List Value) (hx : a.eval x = .slice (some ad) m c) (hl : news.length = m * size) (hnews : ∀ j u, news[j]? = some u → w.cell? (ad.add j) = some u) (h1 : ∀ u ∈ news, u.oneCell' = true)
    (h63 : n + m ≤ maxLen) (hbytes : (n + m) * bytes ≤ 140737488355328) (hbase : base ≤ w.heap.size)
    (h : ∀ g cap w', w'.ownsRow base e size (.slice (some ⟨g, 0, none⟩) (n + m) cap) (n + m) (xs ++ news) → w.grownBy w' (some g0) → wpList P ops Q rest (a.put o.dst (.slice (some ⟨g, 0, none⟩) (n + m) cap)) w') :
    wpList P ops Q (o :: rest) a w := by
  refine wpList_append_own w hgd s x t ho base e i z size bytes ht hi hz hsize hby hzs hsz _ n xs hs hown ad m c news hx hl hnews h1 h63 hbytes hbase fun v' w' h2 h3 h4 => ?_
  have hne : v' ≠ .slice none 0 0 := fun e => by have := h4.1 e; cases this.1
  rcases h2.2 with ⟨e, _⟩ | ⟨g, cap, cur, e, _⟩
  · exact absurd e hne
  · subst e
    exact h g cap w' h2 h3
end Go.Proofs.Ytbfkbbiddbnchaa
