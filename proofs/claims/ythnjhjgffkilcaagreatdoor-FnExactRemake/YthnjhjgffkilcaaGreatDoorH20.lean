/- Matrices in memory: a slice of rows, each a slice of numbers in memory of its own; what a store, a new row and new memory leave of them. Definitions and lemmas; no walk. Conditions stand at each. -/
import Derived.Test.YthnjhjgffkilcaaGreatDoorH14
import Derived.Test.YthnjhjgffkilcaaGreatDoorH7
import Derived.Test.YthnjhjgffkilcaaGreatDoorH8
import Derived.Deep.Matrix
import Derived.Shelf.Abstract
namespace Go.Proofs.YthnjhjgffkilcaaGreatDoor
set_option maxRecDepth 2000
open Go.ChangeShapes Go.WideShapes Go.ChangeAt Go.RowKit

/-- The first 'n' numbers of 'z'. -/
def zI (z : Nat → Int) (n : Nat) : List Int := (List.range n).map z
theorem zI_len (z : Nat → Int) (n : Nat) : (zI z n).length = n := by simp [zI]
theorem zI_get (z : Nat → Int) (n i : Nat) (h : i < n) : (zI z n)[i]? = some (z i) := by simp [zI, h]
theorem zI_getD (z : Nat → Int) (n i : Nat) (h : i < n) : (zI z n).getD i 0 = z i := by simp [List.getD, zI_get z n i h]
theorem zI_congr {f g : Nat → Int} {n : Nat} (h : ∀ i, i < n → f i = g i) : zI f n = zI g n := by
  unfold zI
  apply List.map_congr_left
  intro i hi
  rw [h i (List.mem_range.1 hi)]
theorem zI_of (zs : List Int) : zI (fun i => zs.getD i 0) zs.length = zs := by
  apply List.ext_getElem?
  intro i
  by_cases h : i < zs.length
  · rw [zI_get _ _ _ h]
    simp [List.getD, h]
  · rw [List.getElem?_eq_none (by rw [zI_len]; omega), List.getElem?_eq_none (by omega)]
theorem zI_set (z : Nat → Int) (n k : Nat) (v : Int) (d : IntKind) (h : k < n) : ((zI z n).map (Value.int d)).set k (.int d v) = (zI (fun i => if i = k then v else z i) n).map (Value.int d) := by
  apply List.ext_getElem?
  intro i
  rw [List.getElem?_set]
  by_cases hi : i < n
  · by_cases e : k = i
    · subst e
      simp [zI, h]
    · simp [zI, hi, e, Ne.symm e]
  · by_cases e : k = i
    · omega
    · rw [if_neg e, List.getElem?_eq_none (by simp [zI_len]; omega), List.getElem?_eq_none (by simp [zI_len]; omega)]
theorem eI_zI (f : Nat → Nat) (n : Nat) : eI f n = zI (fun i => ((f i : Nat) : Int)) n := rfl
theorem zI_const {z : Nat → Int} (n : Nat) (v : Int) (h : ∀ i, i < n → z i = v) : zI z n = List.replicate n v := by
  apply List.ext_getElem?
  intro i
  by_cases hi : i < n
  · rw [zI_get z n i hi, h i hi]
    simp [hi]
  · rw [List.getElem?_eq_none (by rw [zI_len]; omega), List.getElem?_eq_none (by simp; omega)]
/-- Rows' heads in a row. -/
def hds (A : Nat → Option Addr) (L C : Nat → Nat) (n : Nat) : List Value := (List.range n).map fun i => Value.slice (A i) (L i) (C i)
theorem hds_len (A : Nat → Option Addr) (L C : Nat → Nat) (n : Nat) : (hds A L C n).length = n := by simp [hds]
theorem hds_get (A : Nat → Option Addr) (L C : Nat → Nat) (n i : Nat) (h : i < n) : (hds A L C n)[i]? = some (Value.slice (A i) (L i) (C i)) := by simp [hds, h]
theorem hds_set (A : Nat → Option Addr) (L C : Nat → Nat) (n k : Nat) (x : Option Addr) (l c : Nat) : (hds A L C n).set k (.slice x l c) = hds (fun i => if i = k then x else A i) (fun i => if i = k then l else L i) (fun i => if i = k then c else C i) n := by
  apply List.ext_getElem?
  intro i
  rw [List.getElem?_set]
  by_cases hi : i < n
  · rw [hds_get (fun i => if i = k then x else A i) _ _ _ _ hi]
    by_cases e : k = i
    · subst e
      rw [if_pos rfl, if_pos (by rw [hds_len]; exact hi)]
      simp
    · rw [if_neg e, hds_get _ _ _ _ _ hi]
      simp [Ne.symm e]
  · rw [List.getElem?_eq_none (l := hds (fun i => if i = k then x else A i) _ _ _) (by rw [hds_len]; omega)]
    by_cases e : k = i
    · subst e
      rw [if_pos rfl, if_neg (by rw [hds_len]; omega)]
    · rw [if_neg e, List.getElem?_eq_none (by rw [hds_len]; omega)]
theorem hds_congr {A A' : Nat → Option Addr} {L L' C C' : Nat → Nat} {n : Nat} (h : ∀ i, i < n → A i = A' i ∧ L i = L' i ∧ C i = C' i) : hds A L C n = hds A' L' C' n := by
  unfold hds
  apply List.map_congr_left
  intro i hi
  obtain ⟨h1, h2, h3⟩ := h i (List.mem_range.1 hi)
  rw [h1, h2, h3]
theorem hds_snoc (A : Nat → Option Addr) (L C : Nat → Nat) (n : Nat) : hds A L C (n + 1) = hds A L C n ++ [Value.slice (A n) (L n) (C n)] := by
  unfold hds
  rw [List.range_succ, List.map_append]
  rfl

/-- A matrix of ours: 'n' rows in memory of their own, between blocks 'B' and 'E'. -/
structure MatZ (k : IntKind) (T TT : Nat) (w : World) (B E : Nat) (a : Option Addr) (n cap : Nat) (A : Nat → Option Addr) (L C : Nat → Nat) (Z : Nat → Nat → Int) : Prop where
  out : w.ownsRow B TT 1 (.slice a n cap) n (hds A L C n)
  oE : ∀ x, a = some x → x.block < E
  row : ∀ i, i < n → w.ownsRow B T 1 (.slice (A i) (L i) (C i)) (L i) ((zI (Z i) (L i)).map (Value.int k))
  rE : ∀ i, i < n → ∀ x, A i = some x → x.block < E
  apart : ∀ i j, i < n → j < n → i ≠ j → ∀ x y, A i = some x → A j = some y → x.block ≠ y.block
section
variable {k : IntKind} {T TT : Nat} {w w' : World} {B E : Nat} {a : Option Addr} {n cap : Nat} {A : Nat → Option Addr} {L C : Nat → Nat} {Z : Nat → Nat → Int}
theorem MatZ.addr (h : MatZ k T TT w B E a n cap A L C Z) (hn : 0 < n) : ∃ G, a = some ⟨G, 0, none⟩ := by
  rcases own_shape h.out with ⟨_, h0, _⟩ | ⟨g, _, e, _⟩
  · omega
  · exact ⟨g, e⟩
theorem MatZ.hdr {G i : Nat} (h : MatZ k T TT w B E (some ⟨G, 0, none⟩) n cap A L C Z) (hi : i < n) : w.cell? ⟨G, i, none⟩ = some (.slice (A i) (L i) (C i)) := by
  rw [h.out.cellAt i (by omega), hds_get _ _ _ _ _ hi]
theorem MatZ.elt {g i j : Nat} (h : MatZ k T TT w B E a n cap A L C Z) (hi : i < n) (hA : A i = some ⟨g, 0, none⟩) (hj : j < L i) : w.cell? ⟨g, j, none⟩ = some (.int k (Z i j)) := by
  have hr := h.row i hi
  rw [hA] at hr
  rw [hr.cellAt j (by omega)]
  simp [zI, hj]
theorem MatZ.free {g i : Nat} (h : MatZ k T TT w B E a n cap A L C Z) (hi : i < n) (hA : A i = some ⟨g, 0, none⟩) (j : Nat) : w.frozen? ⟨g, j, none⟩ = false := by
  have hr := h.row i hi
  rw [hA] at hr
  exact hr.frozenAt j
theorem MatZ.ofree {G : Nat} (h : MatZ k T TT w B E (some ⟨G, 0, none⟩) n cap A L C Z) (j : Nat) : w.frozen? ⟨G, j, none⟩ = false := h.out.frozenAt j
theorem MatZ.olt {G : Nat} (h : MatZ k T TT w B E (some ⟨G, 0, none⟩) n cap A L C Z) : B ≤ G ∧ G < w.heap.size := h.out.lt G rfl
theorem MatZ.glt {g i : Nat} (h : MatZ k T TT w B E a n cap A L C Z) (hi : i < n) (hA : A i = some ⟨g, 0, none⟩) : B ≤ g ∧ g < w.heap.size := by
  have hr := h.row i hi
  rw [hA] at hr
  exact hr.lt g rfl
theorem MatZ.off (hT : T ≠ TT) {g G i : Nat} (h : MatZ k T TT w B E (some ⟨G, 0, none⟩) n cap A L C Z) (hi : i < n) (hA : A i = some ⟨g, 0, none⟩) : g ≠ G := by
  intro e
  subst e
  have hr := h.row i hi
  rw [hA] at hr
  rcases own_shape hr with ⟨h', _⟩ | ⟨g1, c1, e1, _, hg1, _⟩
  · cases h'
  · rcases own_shape h.out with ⟨h', _⟩ | ⟨g2, c2, e2, _, hg2, _⟩
    · cases h'
    · cases e1
      cases e2
      rw [hg1] at hg2
      cases hg2
      exact hT rfl
theorem MatZ.below (h : MatZ k T TT w B E a n cap A L C Z) (hb : Below w.heap.size w w') : MatZ k T TT w' B E a n cap A L C Z :=
  ⟨ownsRow_below h.out hb, h.oE, fun i hi => ownsRow_below (h.row i hi) hb, h.rE, h.apart⟩
theorem MatZ.wide {E' : Nat} (h : MatZ k T TT w B E a n cap A L C Z) (hE : E ≤ E') : MatZ k T TT w B E' a n cap A L C Z :=
  ⟨h.out, fun x e => Nat.lt_of_lt_of_le (h.oE x e) hE, h.row, fun i hi x e => Nat.lt_of_lt_of_le (h.rE i hi x e) hE, h.apart⟩
theorem MatZ.tight (h : MatZ k T TT w B E a n cap A L C Z) : MatZ k T TT w B w.heap.size a n cap A L C Z := by
  refine ⟨h.out, fun x e => ?_, h.row, fun i hi x e => ?_, h.apart⟩
  · subst e; exact (h.out.lt x.block rfl).2
  · have hr := h.row i hi
    rw [e] at hr
    exact (hr.lt x.block rfl).2
theorem MatZ.congr {A' : Nat → Option Addr} {L' C' : Nat → Nat} {Z' : Nat → Nat → Int} (h : MatZ k T TT w B E a n cap A L C Z) (e : ∀ i, i < n → A i = A' i ∧ L i = L' i ∧ C i = C' i ∧ ∀ j, j < L i → Z i j = Z' i j) : MatZ k T TT w B E a n cap A' L' C' Z' := by
  refine ⟨?_, h.oE, fun i hi => ?_, fun i hi x ex => ?_, fun i j hi hj hij x y ex ey => ?_⟩
  · rw [← hds_congr (fun i hi => ⟨(e i hi).1, (e i hi).2.1, (e i hi).2.2.1⟩)]; exact h.out
  · obtain ⟨e1, e2, e3, e4⟩ := e i hi
    have hr := h.row i hi
    rw [zI_congr e4, e1, e2, e3] at hr
    exact hr
  · exact h.rE i hi x ((e i hi).1.trans ex)
  · exact h.apart i j hi hj hij x y ((e i hi).1.trans ex) ((e j hj).1.trans ey)
/-- A block that is none of the matrix's turned. -/
theorem MatZ.kept {b : Nat} (h : MatZ k T TT w B E a n cap A L C Z) (hg : w.grownBy w' (some b)) (ho : ∀ x, a = some x → x.block ≠ b) (hr : ∀ i, i < n → ∀ x, A i = some x → x.block ≠ b) : MatZ k T TT w' B E a n cap A L C Z :=
  ⟨own_kept h.out hg ho, h.oE, fun i hi => own_kept (h.row i hi) hg (hr i hi), h.rE, h.apart⟩
theorem MatZ.keptE {b : Nat} (h : MatZ k T TT w B E a n cap A L C Z) (hg : w.grownBy w' (some b)) (hb : E ≤ b) : MatZ k T TT w' B E a n cap A L C Z :=
  h.kept hg (fun x e => by have := h.oE x e; omega) (fun i hi x e => by have := h.rE i hi x e; omega)
theorem MatZ.setElt (hT : T ≠ TT) {g i j : Nat} (h : MatZ k T TT w B E a n cap A L C Z) (hi : i < n) (hA : A i = some ⟨g, 0, none⟩) (hj : j < L i) (v : Int) :
    MatZ k T TT (w.setCell ⟨g, j, none⟩ (.int k v)) B E a n cap A L C (fun p q => if p = i ∧ q = j then v else Z p q) ∧ w.grownBy (w.setCell ⟨g, j, none⟩ (.int k v)) (some g) := by
  have hg := grown_set w g j (.int k v)
  obtain ⟨G, rfl⟩ := h.addr (by omega)
  refine ⟨⟨own_kept h.out hg (fun x e => by cases e; exact (h.off hT hi hA).symm), h.oE, fun p hp => ?_, h.rE, h.apart⟩, hg⟩
  by_cases e : p = i
  · subst e
    have hr := h.row p hp
    rw [hA] at hr ⊢
    have h1 := (hr.stored j (.int k v)).1
    rw [zI_set _ _ _ _ _ hj] at h1
    rw [zI_congr (g := fun q => if q = j then v else Z p q) (fun q _ => by simp)]
    exact h1
  · have hr := own_kept (h.row p hp) hg (fun x ex => h.apart p i hp hi e x _ ex hA)
    rw [zI_congr (f := fun q => if p = i ∧ q = j then v else Z p q) (g := Z p) (fun q _ => by simp [e])]
    exact hr
theorem MatZ.setRow (hT : T ≠ TT) {G g i l c : Nat} {z : Nat → Int} (h : MatZ k T TT w B E (some ⟨G, 0, none⟩) n cap A L C Z) (hi : i < n)
    (hrow : w.ownsRow B T 1 (.slice (some ⟨g, 0, none⟩) l c) l ((zI z l).map (Value.int k))) (hE : g < E) (hap : ∀ j, j < n → j ≠ i → ∀ x, A j = some x → x.block ≠ g) :
    MatZ k T TT (w.setCell ⟨G, i, none⟩ (.slice (some ⟨g, 0, none⟩) l c)) B E (some ⟨G, 0, none⟩) n cap (fun j => if j = i then some ⟨g, 0, none⟩ else A j) (fun j => if j = i then l else L j) (fun j => if j = i then c else C j) (fun j => if j = i then z else Z j) ∧ w.grownBy (w.setCell ⟨G, i, none⟩ (.slice (some ⟨g, 0, none⟩) l c)) (some G) := by
  have hg := grown_set w G i (.slice (some ⟨g, 0, none⟩) l c)
  have hgG : g ≠ G := by
    intro e
    subst e
    rcases own_shape hrow with ⟨h', _⟩ | ⟨g1, c1, e1, _, hg1, _⟩
    · cases h'
    · rcases own_shape h.out with ⟨h', _⟩ | ⟨g2, c2, e2, _, hg2, _⟩
      · cases h'
      · cases e1
        cases e2
        rw [hg1] at hg2
        cases hg2
        exact hT rfl
  refine ⟨⟨?_, h.oE, fun p hp => ?_, fun p hp x ex => ?_, fun p q hp hq hpq x y ex ey => ?_⟩, hg⟩
  · have h1 := (h.out.stored i (.slice (some ⟨g, 0, none⟩) l c)).1
    rw [hds_set] at h1
    exact h1
  · by_cases e : p = i
    · subst e
      simp only [if_pos]
      exact own_kept hrow hg (fun x ex => by cases ex; exact hgG)
    · simp only [if_neg e]
      refine own_kept (h.row p hp) hg (fun x ex => ?_)
      have hr := h.row p hp
      rw [ex] at hr
      rcases own_shape hr with ⟨h', _⟩ | ⟨g1, c1, e1, _⟩
      · cases h'
      · cases e1
        exact h.off hT hp ex
  · by_cases e : p = i
    · simp only [if_pos e] at ex; cases ex; exact hE
    · simp only [if_neg e] at ex; exact h.rE p hp x ex
  · by_cases e : p = i
    · simp only [if_pos e] at ex
      cases ex
      simp only [if_neg (show q ≠ i by omega)] at ey
      exact (hap q hq (by omega) y ey).symm
    · simp only [if_neg e] at ex
      by_cases e2 : q = i
      · simp only [if_pos e2] at ey
        cases ey
        exact hap p hp e x ex
      · simp only [if_neg e2] at ey
        exact h.apart p q hp hq hpq x y ex ey
/-- One more row, behind an append. -/
theorem MatZ.push (hT : T ≠ TT) {E' : Nat} {a' : Option Addr} {cap' l c : Nat} {x : Option Addr} {z : Nat → Int} (h : MatZ k T TT w B E a n cap A L C Z)
    (hg : w.grownBy w' (Value.slice a n cap).ownBlock) (hout : w'.ownsRow B TT 1 (.slice a' (n + 1) cap') (n + 1) (hds A L C n ++ [Value.slice x l c])) (hsz : w'.heap.size ≤ E') (hE : E ≤ E')
    (hrow : w.ownsRow B T 1 (.slice x l c) l ((zI z l).map (Value.int k))) (hap : ∀ j, j < n → ∀ y u, A j = some y → x = some u → y.block ≠ u.block) :
    MatZ k T TT w' B E' a' (n + 1) cap' (fun j => if j = n then x else A j) (fun j => if j = n then l else L j) (fun j => if j = n then c else C j) (fun j => if j = n then z else Z j) := by
  have hrk : ∀ (u : Option Addr) (l c : Nat) (xs : List Value), w.ownsRow B T 1 (.slice u l c) l xs → w'.ownsRow B T 1 (.slice u l c) l xs := by
    intro u l c xs hr
    refine World.ownsRow.kept hr hg ?_
    rcases own_shape hr with ⟨rfl, _⟩ | ⟨g1, c1, rfl, _, hg1, _⟩
    · exact .inl rfl
    · right
      rcases own_shape h.out with ⟨rfl, _⟩ | ⟨g2, c2, rfl, _, hg2, _⟩
      · simp [Value.ownBlock]
      · simp only [Value.ownBlock, ne_eq, Option.some.injEq]
        intro e
        subst e
        rw [hg1] at hg2
        cases hg2
        exact hT rfl
  refine ⟨?_, fun y e => ?_, fun i hi => ?_, fun i hi y e => ?_, fun i j hi hj hij y u e1 e2 => ?_⟩
  · rw [hds_snoc]
    simp only [if_pos]
    rw [← hds_congr (A := A) (L := L) (C := C) (fun i hi => by simp [show i ≠ n by omega])]
    exact hout
  · subst e; exact Nat.lt_of_lt_of_le (hout.lt y.block rfl).2 hsz
  · by_cases e : i = n
    · subst e; simp only [if_pos]; exact hrk _ _ _ _ hrow
    · simp only [if_neg e]; exact hrk _ _ _ _ (h.row i (by omega))
  · by_cases e' : i = n
    · subst e'
      simp only [if_pos] at e
      subst e
      exact Nat.lt_of_lt_of_le (Nat.lt_of_lt_of_le (hrow.lt y.block rfl).2 hg.size) hsz
    · simp only [if_neg e'] at e
      exact Nat.lt_of_lt_of_le (h.rE i (by omega) y e) hE
  · by_cases e : i = n
    · subst e
      simp only [if_pos] at e1
      simp only [if_neg (show j ≠ i by omega)] at e2
      exact (hap j (by omega) u y e2 e1).symm
    · simp only [if_neg e] at e1
      by_cases e' : j = n
      · subst e'
        simp only [if_pos] at e2
        exact hap i (by omega) y u e1 e2
      · simp only [if_neg e'] at e2
        exact h.apart i j (by omega) (by omega) hij y u e1 e2
theorem MatZ.nil (k : IntKind) (T TT : Nat) (w : World) (B E : Nat) (A : Nat → Option Addr) (L C : Nat → Nat) (Z : Nat → Nat → Int) : MatZ k T TT w B E none 0 0 A L C Z :=
  ⟨World.ownsRow_nil w B _ _, fun x e => (by cases e), fun i hi => by omega, fun i hi => by omega, fun i j hi => by omega⟩
theorem MatZ.zero {G c : Nat} (k : IntKind) (T TT : Nat) (w : World) (B E : Nat) (A : Nat → Option Addr) (L C : Nat → Nat) (Z : Nat → Nat → Int) (h : w.ownsRow B TT 1 (.slice (some ⟨G, 0, none⟩) 0 c) 0 []) (hE : G < E) : MatZ k T TT w B E (some ⟨G, 0, none⟩) 0 c A L C Z :=
  ⟨h, fun x e => by cases e; exact hE, fun i hi => by omega, fun i hi => by omega, fun i j hi => by omega⟩
/-- A matrix just made: every row is nil. -/
theorem MatZ.made {G : Nat} (h : w.ownsRow B TT 1 (.slice (some ⟨G, 0, none⟩) n n) n (List.replicate n (Value.slice none 0 0))) (hE : G < E) (Z : Nat → Nat → Int) : MatZ k T TT w B E (some ⟨G, 0, none⟩) n n (fun _ => none) (fun _ => 0) (fun _ => 0) Z := by
  refine ⟨?_, fun x e => by cases e; exact hE, fun i _ => World.ownsRow_nil w B _ _, fun i _ x e => (by cases e), fun i j _ _ _ x y e => (by cases e)⟩
  have e : hds (fun _ => none) (fun _ => 0) (fun _ => 0) n = List.replicate n (Value.slice none 0 0) := by
    apply List.ext_getElem?
    intro i
    by_cases hi : i < n
    · rw [hds_get _ _ _ _ _ hi]; simp [hi]
    · rw [List.getElem?_eq_none (by rw [hds_len]; omega), List.getElem?_eq_none (by simp; omega)]
  rw [e]
  exact h
end
/-- A matrix that is only read. -/
def MatAt (w : World) (a : Option Addr) (n : Nat) (L : Nat → Nat) (Z : Nat → Nat → Int) : Prop :=
  ∀ i, i < n → ∃ b off ai ci, a = some ⟨b, off, none⟩ ∧ w.cell? ⟨b, off + i, none⟩ = some (.slice ai (L i) ci) ∧ IntsAt w ai (L i) (zI (Z i) (L i))
theorem MatAt.below {w w' : World} {a : Option Addr} {n : Nat} {L : Nat → Nat} {Z : Nat → Nat → Int} (h : MatAt w a n L Z) (hb : Below w.heap.size w w') : MatAt w' a n L Z := fun i hi => by
  obtain ⟨b, off, ai, ci, e, hc, hr⟩ := h i hi
  exact ⟨b, off, ai, ci, e, (hb.cell (p := ⟨b, off + i, none⟩) (block_lt_of_cell hc)).trans hc, hr.below hb⟩
theorem own_ints {w : World} {B T n c : Nat} {a : Option Addr} {z : Nat → Int} (h : w.ownsRow B T 1 (.slice a n c) n ((zI z n).map (Value.int .i64))) : IntsAt w a n (zI z n) := by
  rcases own_shape h with ⟨rfl, rfl, rfl⟩ | ⟨g, cur, rfl, _⟩
  · exact ⟨zI_len _ _, fun i hi => by omega⟩
  · exact ownsRow.ints h
theorem MatZ.at {T TT : Nat} {w : World} {B E : Nat} {a : Option Addr} {n cap : Nat} {A : Nat → Option Addr} {L C : Nat → Nat} {Z : Nat → Nat → Int} (h : MatZ .i64 T TT w B E a n cap A L C Z) : MatAt w a n L Z := by
  intro i hi
  obtain ⟨G, rfl⟩ := h.addr (by omega)
  exact ⟨G, 0, A i, C i, rfl, by rw [Nat.zero_add]; exact h.hdr hi, own_ints (h.row i hi)⟩
theorem MatAt.congr {w : World} {a : Option Addr} {n : Nat} {L L' : Nat → Nat} {Z Z' : Nat → Nat → Int} (h : MatAt w a n L Z) (e : ∀ i, i < n → L i = L' i ∧ ∀ j, j < L i → Z i j = Z' i j) : MatAt w a n L' Z' := fun i hi => by
  obtain ⟨b, off, ai, ci, ea, hc, hr⟩ := h i hi
  obtain ⟨e1, e2⟩ := e i hi
  rw [zI_congr e2, e1] at hr
  rw [e1] at hc
  exact ⟨b, off, ai, ci, ea, hc, hr⟩
/-- A matrix that was handed in: it lies ahead of block 's'. -/
def MatArg (w : World) (s : Nat) (a : Option Addr) (n : Nat) (L : Nat → Nat) (Z : Nat → Nat → Int) : Prop :=
  ∀ i, i < n → ∃ b off ai ci, a = some ⟨b, off, none⟩ ∧ b < s ∧ w.cell? ⟨b, off + i, none⟩ = some (.slice ai (L i) ci) ∧ Arg w s ai (L i) (zI (Z i) (L i))
theorem MatArg.at {w : World} {s : Nat} {a : Option Addr} {n : Nat} {L : Nat → Nat} {Z : Nat → Nat → Int} (h : MatArg w s a n L Z) : MatAt w a n L Z := fun i hi => by
  obtain ⟨b, off, ai, ci, e, _, hc, hr⟩ := h i hi
  exact ⟨b, off, ai, ci, e, hc, hr.1⟩
theorem MatAt.arg {w : World} {a : Option Addr} {n : Nat} {L : Nat → Nat} {Z : Nat → Nat → Int} (h : MatAt w a n L Z) : MatArg w w.heap.size a n L Z := fun i hi => by
  obtain ⟨b, off, ai, ci, e, hc, hr⟩ := h i hi
  exact ⟨b, off, ai, ci, e, block_lt_of_cell hc, hc, hr.arg⟩
theorem MatArg.keep {w w' : World} {s : Nat} {a : Option Addr} {n : Nat} {L : Nat → Nat} {Z : Nat → Nat → Int} (h : MatArg w s a n L Z) (hb : Below s w w') : MatArg w' s a n L Z := fun i hi => by
  obtain ⟨b, off, ai, ci, e, hs, hc, hr⟩ := h i hi
  refine ⟨b, off, ai, ci, e, hs, (hb.cell (p := ⟨b, off + i, none⟩) hs).trans hc, ⟨hr.1.1, fun j hj => ?_⟩, hr.2⟩
  obtain ⟨b', off', e', hc'⟩ := hr.1.2 j hj
  exact ⟨b', off', e', (hb.cell (p := ⟨b', off' + j, none⟩) (hr.2 (by omega) b' off' e')).trans hc'⟩
theorem Turned.m {w w' : World} {B E : Nat} (h : Turned w w' B E) : TurnM w w' B E := by
  obtain ⟨r, hg, hr⟩ := h
  exact ⟨hg.os, hg.tape, hg.output, hg.size, fun j hj hn => hg.block j hj (fun e => by have := hr j e.symm; omega)⟩
theorem MatZ.turned {k : IntKind} {T TT : Nat} {w w' : World} {B E B' E' : Nat} {a : Option Addr} {n cap : Nat} {A : Nat → Option Addr} {L C : Nat → Nat} {Z : Nat → Nat → Int} (h : MatZ k T TT w B E a n cap A L C Z) (ht : TurnM w w' B' E') (hd : E ≤ B' ∨ E' ≤ B) : MatZ k T TT w' B E a n cap A L C Z :=
  ⟨own_turn h.out ht h.oE hd, h.oE, fun i hi => own_turn (h.row i hi) ht (h.rE i hi) hd, h.rE, h.apart⟩
theorem Arg.keep {w w' : World} {s : Nat} {a : Option Addr} {n : Nat} {zs : List Int} (h : Arg w s a n zs) (hb : Below s w w') : Arg w' s a n zs := by
  refine ⟨⟨h.1.1, fun j hj => ?_⟩, h.2⟩
  obtain ⟨b', off', e', hc'⟩ := h.1.2 j hj
  exact ⟨b', off', e', (hb.cell (p := ⟨b', off' + j, none⟩) (h.2 (by omega) b' off' e')).trans hc'⟩
end Go.Proofs.YthnjhjgffkilcaaGreatDoor
/- The plain mathematics of fragments' bodies: texts as rows of byte numbers, bodies as products of a matrix and the pieces of a text, the frame round a text. Nothing of Go's text is walked; conditions stand at each theorem. -/
namespace Go.Proofs.YthnjhjgffkilcaaGreatDoor
set_option maxRecDepth 2000
open Go.Proofs.YthnjhjgffkilcaaGreatDoor.Gp (m m_lt m_comm m_assoc m_xor xor_m m_zero zero_m m_one one_m m_nat m_ne xor_self xor_left xor_can xor_eq xor_lt)

/-- The text of the first 'l' of 'f'. -/
def txt (f : Nat → Nat) (l : Nat) : ByteArray := strOfNums (eI f l)
theorem txt_size (f : Nat → Nat) (l : Nat) : (txt f l).size = l := by unfold txt; rw [strOfNums_size, eI_len]
theorem tat_txt {f : Nat → Nat} {l k : Nat} (hk : k < l) (hf : f k < 256) : tat (txt f l) k = f k := by
  unfold txt
  rw [tat_str, eI_getD _ _ _ hk, Int.toNat_natCast, Nat.mod_eq_of_lt hf]
theorem txt_congr {f g : Nat → Nat} {l : Nat} (h : ∀ i, i < l → f i = g i) : txt f l = txt g l := by unfold txt; rw [eI_congr h]
theorem txt_of (s : ByteArray) : txt (tat s) s.size = s := by
  refine str_ext (txt_size _ _) fun k => ?_
  by_cases hk : k < s.size
  · exact tat_txt hk (tat_lt s k)
  · rw [tat_out s k hk, tat_out _ k (by rw [txt_size]; exact hk)]
theorem txt_is {s : ByteArray} {f : Nat → Nat} {l : Nat} (hs : s.size = l) (h : ∀ k, k < l → tat s k = f k) : s = txt f l := by
  rw [← txt_of s, hs]
  exact txt_congr h
/-- How long each body is. -/
def blen (s k : Nat) : Nat := (s + 2 + k - 1) / k
theorem blen_ge {s k : Nat} (hk : 1 ≤ k) : s + 2 ≤ k * blen s k := by
  unfold blen
  have := Nat.div_add_mod (s + 2 + k - 1) k
  have h2 := Nat.mod_lt (s + 2 + k - 1) (show k > 0 by omega)
  omega
theorem blen_pos {s k : Nat} (hk : 1 ≤ k) : 1 ≤ blen s k := by
  have := blen_ge (s := s) hk
  rcases Nat.eq_zero_or_pos (blen s k) with h | h
  · rw [h] at this; omega
  · exact h
/-- A text behind its length and ahead of noughts. -/
def frm (s : ByteArray) (q : Nat) : Nat := if q = 0 then s.size / 256 else if q = 1 then s.size % 256 else tat s (q - 2)
theorem frm_lt {s : ByteArray} (hs : s.size < 65536) (q : Nat) : frm s q < 256 := by
  unfold frm
  split
  · omega
  · split
    · omega
    · exact tat_lt _ _
/-- The pieces of a whole, each 'l' long. -/
def pcs (W : Nat → Nat) (l i p : Nat) : Nat := W (i * l + p)
/-- The bodies: a matrix times pieces. -/
def bod (k : Nat) (F T : Nat → Nat → Nat) (l i : Nat) : ByteArray := txt (Gm.mp k F T i) l
theorem bod_size (k : Nat) (F T : Nat → Nat → Nat) (l i : Nat) : (bod k F T l i).size = l := txt_size _ _
theorem tat_bod {k : Nat} {F T : Nat → Nat → Nat} {l i p : Nat} (hp : p < l) : tat (bod k F T l i) p = Gm.mp k F T i p := tat_txt hp (Gm.mp_byt _ _ _ _ _)
theorem bod_congr {k : Nat} {F F' T T' : Nat → Nat → Nat} {l i : Nat} (h1 : ∀ t, t < k → F i t = F' i t) (h2 : ∀ t p, t < k → p < l → T t p = T' t p) : bod k F T l i = bod k F' T' l i :=
  txt_congr (fun p hp => Gm.mp_congr h1 (fun t ht => h2 t p ht hp))
/-- The pieces of a text in 'k' bodies. -/
def enc (s : ByteArray) (k i p : Nat) : Nat := pcs (frm s) (blen s.size k) i p
theorem enc_byt {s : ByteArray} (hs : s.size < 65536) (k : Nat) : Gm.Byt (enc s k) := fun _ _ => frm_lt hs _
/-- Bodies at places that differ lead back to the first k. -/
theorem back_first {k : Nat} {p : Nat → Nat} (hk : k ≤ 256) (hp : ∀ t, p t < 256) (hd : ∀ i j, i < k → j < k → i ≠ j → p i ≠ p j) {T : Nat → Nat → Nat} (hT : Gm.Byt T) {i q : Nat} (hi : i < k) :
    Gm.mp k (Gm.iv (fun t j => Gm.sprd k (p t) j) k) (fun t q => Gm.mp k (Gm.sprd k) T (p t) q) i q = T i q := by
  have hA : Gm.Byt (fun t j => Gm.sprd k (p t) j) := fun _ _ => Gm.sprd_byt k _ _
  have hr := Gm.spread_rk hk hp hd
  have e : Gm.mp k (Gm.iv (fun t j => Gm.sprd k (p t) j) k) (fun t q => Gm.mp k (Gm.sprd k) T (p t) q) i q = Gm.mp k (Gm.iv (fun t j => Gm.sprd k (p t) j) k) (Gm.mp k (fun t j => Gm.sprd k (p t) j) T) i q := rfl
  rw [e, ← Gm.mp_assoc]
  rw [Gm.mp_congr (A' := Gm.dl) (B' := T) (fun t ht => (Gm.iv_both hA hr i t hi ht).2) (fun _ _ => rfl)]
  exact Gm.mp_dl hi (hT i q)
/-- What a whole tells, as the program asks it. -/
def tells (W : Nat → Nat) (N k : Nat) : Prop := 2 ≤ N ∧ W 0 * 256 + W 1 ≤ 2000 ∧ N = k * blen (W 0 * 256 + W 1) k ∧ ∀ q, W 0 * 256 + W 1 + 2 ≤ q → q < N → W q = 0
def told (W : Nat → Nat) : ByteArray := txt (fun q => W (q + 2)) (W 0 * 256 + W 1)
end Go.Proofs.YthnjhjgffkilcaaGreatDoor
/- The laws' own helpers over matrices of whole numbers: a copy holds the same numbers in new memory; two that hold the same are told equal; marks; how much there is. Conditions: at most 2^20 rows, at most 2^20 numbers a row. -/
namespace Go.Proofs.YthnjhjgffkilcaaGreatDoor
set_option maxRecDepth 2000
open Go.ChangeShapes Go.WideShapes Go.ChangeAt Go.RowKit

theorem Tryz.infoInts : (Tryz.prog.info? 43).map (fun i => (i.zero, i.size, i.bytes)) = some (some (.slice none 0 0), 1, 24) := by kernel_rfl
/-- A matrix of whole numbers of ours. -/
abbrev MatI (w : World) (B E : Nat) (a : Option Addr) (n cap : Nat) (A : Nat → Option Addr) (L C : Nat → Nat) (Z : Nat → Nat → Int) : Prop := MatZ .i64 3 43 w B E a n cap A L C Z
theorem tiNe : (3 : Nat) ≠ 43 := by decide
theorem TurnM.wide {w w' : World} {B E b e : Nat} (h : TurnM w w' b e) (hb : B ≤ b) (he : e ≤ E) : TurnM w w' B E := ⟨h.os, h.tape, h.output, h.size, fun j hj hr => h.block j hj (by omega)⟩
end Go.Proofs.YthnjhjgffkilcaaGreatDoor
/- The program's small functions over matrices: a side, the unit's numbers, reading a matrix, filling one by a function. Conditions: at most 2^20 rows and numbers a row, where a matrix is read. -/
namespace Go.Proofs.YthnjhjgffkilcaaGreatDoor
set_option maxRecDepth 2000
open Go.ChangeShapes Go.WideShapes Go.ChangeAt Go.RowKit

theorem Tryz.infoElems : (Tryz.prog.info? 259).map (fun i => (i.zero, i.size, i.bytes)) = some (some (.slice none 0 0), 1, 24) := by kernel_rfl
/-- A matrix of byte numbers of ours, as the program has them. -/
abbrev MatU (w : World) (B E : Nat) (a : Option Addr) (n cap : Nat) (A : Nat → Option Addr) (L C : Nat → Nat) (Z : Nat → Nat → Int) : Prop := MatZ .u8 155 259 w B E a n cap A L C Z
theorem teNe : (155 : Nat) ≠ 259 := by decide
def side (n : Int) : Bool := decide (1 ≤ n ∧ n ≤ 16)
theorem side_nat (n : Nat) : side (n : Int) = decide (1 ≤ n ∧ n ≤ 16) := by
  unfold side
  congr 1
  simp only [eq_iff_iff]
  omega
set_option maxHeartbeats 400000 in
theorem isSide_any (n : Int) (w : World) : Calls Tryz.prog 140 #[.int .i64 n] w fun e w' => e = .returned (.bool (side n)) ∧ w' = w := by
  go_enter Tryz.func140, Tryz.ntmps140
  go_wp2
  · go_ret
    exact ⟨ret_bool (by simp [side, *]), rfl⟩
  · go_ret
    exact ⟨ret_bool (by simp [side]; omega), rfl⟩
set_option maxHeartbeats 400000 in
theorem unitAt_any (i j : Nat) (w : World) : Calls Tryz.prog 143 #[.int .i64 (i : Int), .int .i64 (j : Int)] w fun e w' => e = .returned (.int .u8 ((Gm.dl i j : Nat) : Int)) ∧ w' = w := by
  by_cases h : i = j
  · subst h
    rw [Gm.dl_self]
    go_enter Tryz.func143, Tryz.ntmps143
    go_wp2
    go_ret
    exact ⟨rfl, rfl⟩
  · have h' : ((i : Int) == (j : Int)) = false := by simp; omega
    rw [Gm.dl_ne h]
    go_enter Tryz.func143, Tryz.ntmps143
    go_wp2
    go_ret
    exact ⟨rfl, rfl⟩
/-- What is asked of a function by which a matrix is filled. -/
def FillBy (g : Nat) (lb : Array Value) (r c : Nat) (F : Nat → Nat → Nat) (w : World) : Prop :=
  ∀ (W : World) (i j : Nat), Below w.heap.size w W → i < r → j < c → Calls Tryz.prog g (#[.int .i64 (i : Int), .int .i64 (j : Int)] ++ lb) W fun e w' => e = .returned (.int .u8 ((F i j : Nat) : Int)) ∧ Below W.heap.size W w'
theorem FillBy.below {g : Nat} {lb : Array Value} {r c : Nat} {F : Nat → Nat → Nat} {w w' : World} (h : FillBy g lb r c F w) (hb : Below w.heap.size w w') : FillBy g lb r c F w' := fun W i j hW hi hj => h W i j (below2 hb hW) hi hj
set_option maxHeartbeats 2000000 in
theorem filled_any (g : Nat) (lb : Array Value) (eg : ∀ args w, (callFunc g args).run Tryz.prog w = .ok (.enter g args) w) (r c : Nat) (F : Nat → Nat → Nat) (w : World) (hp : FillBy g lb r c F w) (hF : ∀ i j, F i j < 256) (hr : r ≤ 1048576) (hc : c ≤ 1048576) :
    Calls Tryz.prog 141 #[.int .i64 (r : Int), .int .i64 (c : Int), .func (.func g) #[] lb] w fun e w' => e = .returned (.slice (some ⟨w.heap.size, 0, none⟩) r r) ∧ (∃ A, MatI w' w.heap.size w'.heap.size (some ⟨w.heap.size, 0, none⟩) r r A (fun _ => c) (fun _ => c) (fun i j => ((F i j : Nat) : Int))) ∧ Below w.heap.size w w' := by
  obtain ⟨i0, hi, hz0, hz1, hz2⟩ := info_parts Tryz.infoInts
  obtain ⟨j0, hj, hy0, hy1, hy2⟩ := info_parts Tryz.infoInt
  go_enter Tryz.func141, Tryz.ntmps141
  go_wp2_with (at_make; refine wpList_make_full _ rfl _ _ 107 rfl w.heap.size 43 i0 (.slice none 0 0) 1 Tryz.underlying107 hi hz0 hz1 .i64 .i64 _ _ r rfl rfl rfl rfl (by rw [hz2]; omega) (by unfold maxLen; omega) (Nat.le_refl _) ?_; intro w1 hown hgrow)
  have hb1 : Below w.heap.size w w1 := (Below.refl _ _).grown hgrow (Nat.le_refl _) (by simp)
  have hlt1 := (World.ownsRow.lt hown _ rfl).2
  have ho1 : MatI w1 w.heap.size w1.heap.size (some ⟨w.heap.size, 0, none⟩) r r (fun _ => none) (fun i => if i < 0 then c else 0) (fun i => if i < 0 then c else 0) (fun i j => ((F i j : Nat) : Int)) :=
    (MatZ.made (by simpa [Value.cells, toList_madeCells_one] using hown) hlt1 _).congr (fun i _ => ⟨rfl, by simp, by simp, fun j hj => rfl⟩)
  have KO : Hid _ := ho1
  have KB : Hid (Below w.heap.size w w1) := hb1
  clear hown hgrow hlt1 ho1 hb1 hi hz0 hz1 hz2
  go_loopw [14] (fun i wr => ∃ k A, k ≤ r ∧ i = .int .i64 ((k : Nat) : Int) ∧ MatI wr w.heap.size wr.heap.size (some ⟨w.heap.size, 0, none⟩) r r A (fun i => if i < k then c else 0) (fun i => if i < k then c else 0) (fun i j => ((F i j : Nat) : Int)) ∧ (∀ i, k ≤ i → A i = none) ∧ Below w.heap.size w wr) (fun i _ => r - (intOf i).toNat)
  case atStart => exact ⟨0, _, Nat.zero_le _, rfl, KO.out, fun _ _ => rfl, KB.out⟩
  case round =>
    obtain ⟨k, A, hk, rfl, hown, hAn, hbel⟩ := hrel
    clear KO KB
    by_cases hlt : k < r
    · have hlti : (k : Int) < (r : Int) := by omega
      have KA : Hid _ := hAn
      have KM : Hid (MatI wr w.heap.size wr.heap.size (some ⟨w.heap.size, 0, none⟩) r r A (fun i => if i < k then c else 0) (fun i => if i < k then c else 0) (fun i j => ((F i j : Nat) : Int))) := hown
      have KB : Hid (Below w.heap.size w wr) := hbel
      have hsz := hbel.size
      have hGlt := hown.olt.2
      have hold0 := hown.hdr hlt
      have hfr0 := hown.ofree k
      simp only [Nat.lt_irrefl, if_false] at hold0
      clear hAn hown hbel
      go_wp2_with (at_make; refine wpList_make_full _ rfl _ _ 43 rfl wr.heap.size 3 j0 (.int .i64 0) 1 Tryz.underlying43 hj hy0 hy1 .i64 .i64 _ _ c rfl rfl rfl rfl (by rw [hy2]; omega) (by unfold maxLen; omega) (Nat.le_refl _) ?_; intro w2 hown2 hgrow2; have hb2 : Below wr.heap.size wr w2 := (Below.refl _ _).grown hgrow2 (Nat.le_refl _) (by simp); have hold2 := (hb2.cell (p := ⟨w.heap.size, k, none⟩) hGlt).trans hold0; have hfr2 := (World.frozen?_of_block (a := ⟨w.heap.size, k, none⟩) (hb2.block _ hGlt)).trans hfr0)
      have ho2 : w2.ownsRow wr.heap.size 3 1 (.slice (some ⟨wr.heap.size, 0, none⟩) c c) c ((zI (fun _ => 0) c).map (Value.int .i64)) := by
        rw [zI_const c 0 (fun _ _ => rfl)]
        simpa [Value.cells, toList_madeCells_one] using hown2
      have hSR := ((KM.out.below hb2).wide hb2.size).setRow tiNe hlt (own_base ho2 hsz) (World.ownsRow.lt ho2 _ rfl).2 (fun j hj _ x ex => by have := KM.out.rE j hj x ex; exact Nat.ne_of_lt this)
      obtain ⟨A', KA'⟩ : ∃ A', Hid (A' = fun i => if i = k then some ⟨wr.heap.size, 0, none⟩ else A i) := ⟨_, rfl⟩
      obtain ⟨g1, hg1⟩ : ∃ g1, wr.heap.size = g1 := ⟨_, rfl⟩
      rw [hg1] at hSR KA' ⊢
      obtain ⟨w3, hw3⟩ : ∃ w3, w2.setCell ⟨w.heap.size, k, none⟩ (.slice (some ⟨g1, 0, none⟩) c c) = w3 := ⟨_, rfl⟩
      rw [hw3] at hSR ⊢
      have hA'k : A' k = some ⟨g1, 0, none⟩ := by rw [KA'.out]; simp
      have KS : Hid (MatI w3 w.heap.size w3.heap.size (some ⟨w.heap.size, 0, none⟩) r r A' (fun i => if i < k + 1 then c else 0) (fun i => if i < k + 1 then c else 0) (fun i j => if i = k ∧ 0 ≤ j then 0 else ((F i j : Nat) : Int))) :=
        (hSR.1.wide hSR.2.size).congr (fun i _ => by
          rw [KA'.out]
          by_cases e : i = k
          · subst e; simp
          · by_cases e2 : i < k
            · simp [e, e2, show i < k + 1 by omega]
            · simp [e, e2, show ¬ i < k + 1 by omega])
      have KB2 : Hid (Below w.heap.size w w3) := by
        rw [← hw3]
        exact (below2 KB.out hb2).setCell (Nat.le_refl _) _
      clear hSR hw3 ho2 hown2 hgrow2 hb2 hold2 hfr2 hold0 hfr0 KM KB hGlt
      go_loopw [27] (fun j wr => ∃ q : Nat, q ≤ c ∧ j = .int .i64 (q : Int) ∧ MatI wr w.heap.size wr.heap.size (some ⟨w.heap.size, 0, none⟩) r r A' (fun i => if i < k + 1 then c else 0) (fun i => if i < k + 1 then c else 0) (fun i j => if i = k ∧ q ≤ j then 0 else ((F i j : Nat) : Int)) ∧ Below w.heap.size w wr) (fun j _ => c - (intOf j).toNat)
      case atStart => exact ⟨0, Nat.zero_le _, rfl, KS.out, KB2.out⟩
      case round =>
        obtain ⟨q, hq, rfl, hM, hbel⟩ := hrel
        clear KS KB2
        by_cases hqc : q < c
        · have hqci : (q : Int) < (c : Int) := by omega
          have hhd := hM.hdr hlt
          rw [hA'k] at hhd
          simp only [Nat.lt_succ_self, if_true] at hhd
          have hel := hM.elt (j := q) hlt hA'k (by simp only [Nat.lt_succ_self, if_true]; exact hqc)
          simp only [Nat.le_refl, and_self, if_true] at hel
          have hcall := hp wr.drew k q ⟨hbel.os, hbel.tape, hbel.output, hbel.size, hbel.block⟩ hlt hqc
          have hFkq := hF k q
          have hGl := hM.olt.2
          have hgl := (hM.glt hlt hA'k).2
          have KM : Hid (MatI wr w.heap.size wr.heap.size (some ⟨w.heap.size, 0, none⟩) r r A' (fun i => if i < k + 1 then c else 0) (fun i => if i < k + 1 then c else 0) (fun i j => if i = k ∧ q ≤ j then 0 else ((F i j : Nat) : Int))) := hM
          have KP : Hid (FillBy g lb r c F w) := hp
          have KF : Hid (∀ i j, F i j < 256) := hF
          have KB : Hid (Below w.heap.size w wr) := hbel
          have hfr := hM.free hlt hA'k q
          clear hM hp hF hbel
          generalize hX : F k q = X at hcall hFkq
          have KX : Hid (F k q = X) := hX
          clear hX
          go_wp2_with fail
          go_region_with ((go_at_fn g; refine Calls.mono hcall ?_; rintro e w5 ⟨rfl, hb5'⟩; have hb5 := below_of_drew hb5'; clear hb5'; have hhd5 := (hb5.cell (p := ⟨w.heap.size, k, none⟩) hGl).trans hhd; have hel5 := (hb5.cell (p := ⟨g1, q, none⟩) hgl).trans hel; have hfr5 := (World.frozen?_of_block (a := ⟨g1, q, none⟩) (hb5.block _ hgl)).trans hfr))
          all_goals
            have hwx : IntKind.i64.wrap (X : Int) = (X : Int) := by rw [IntKind.wrap_i64]; omega
            rw [hwx]
            have hSE := ((KM.out.below hb5).wide hb5.size).setElt tiNe (j := q) hlt hA'k (by simp only [Nat.lt_succ_self, if_true]; exact hqc) (X : Int)
            have HS : Hid (MatI (w5.setCell ⟨g1, q, none⟩ (.int .i64 (X : Int))) w.heap.size (w5.setCell ⟨g1, q, none⟩ (.int .i64 (X : Int))).heap.size (some ⟨w.heap.size, 0, none⟩) r r A' (fun i => if i < k + 1 then c else 0) (fun i => if i < k + 1 then c else 0) (fun i j => if i = k ∧ q + 1 ≤ j then 0 else ((F i j : Nat) : Int))) :=
              (hSE.1.wide hSE.2.size).congr (fun i _ => ⟨rfl, rfl, rfl, fun j _ => by
                by_cases e : i = k
                · subst e
                  by_cases e2 : j = q
                  · subst e2
                    rw [if_pos ⟨rfl, rfl⟩, if_neg (by omega), KX.out]
                  · rw [if_neg (by omega)]
                    by_cases e3 : q ≤ j
                    · rw [if_pos ⟨rfl, e3⟩, if_pos ⟨rfl, by omega⟩]
                    · rw [if_neg (by omega), if_neg (by omega)]
                · rw [if_neg (by omega), if_neg (by omega), if_neg (by omega)]⟩)
            have HB : Hid (Below w.heap.size w (w5.setCell ⟨g1, q, none⟩ (.int .i64 (X : Int)))) := (below2 KB.out hb5).setCell (show w.heap.size ≤ g1 by omega) _
            clear hSE hcall
            go_wp2
            go_roundw
            case rel => exact ⟨q + 1, by omega, by go_num, HS.out, HB.out⟩
            case measure => simp [intOf] <;> omega
        · obtain rfl : q = c := by omega
          have KM : Hid (MatI wr w.heap.size wr.heap.size (some ⟨w.heap.size, 0, none⟩) r r A' (fun i => if i < k + 1 then q else 0) (fun i => if i < k + 1 then q else 0) (fun i j => if i = k ∧ q ≤ j then 0 else ((F i j : Nat) : Int))) := hM
          have KP : Hid (FillBy g lb r q F w) := hp
          clear hM hp
          go_wp2
          go_roundw
          case rel => exact ⟨k + 1, A', by omega, by go_num, KM.out.congr (fun i hi => ⟨rfl, rfl, rfl, fun j hj => by
            rw [if_neg]
            intro h
            by_cases e : i < k + 1
            · rw [if_pos e] at hj; omega
            · omega⟩), fun i hi => by rw [KA'.out]; simp [show i ≠ k by omega, KA.out i (by omega)], hbel⟩
          case measure => simp [intOf] <;> omega
    · obtain rfl : k = r := by omega
      have KM : Hid _ := hown
      clear hown hAn hp
      go_wp2
      go_ret
      exact ⟨rfl, ⟨A, KM.out.congr (fun i hi => ⟨rfl, if_pos hi, if_pos hi, fun j _ => rfl⟩)⟩, hbel⟩
end Go.Proofs.YthnjhjgffkilcaaGreatDoor
/- The laws' own helpers over matrices, the second part: marks that are held; rows told equal. Conditions: at most 2^20 rows, at most 2^20 numbers a row. -/
namespace Go.Proofs.YthnjhjgffkilcaaGreatDoor
set_option maxRecDepth 2000
open Go.ChangeShapes Go.WideShapes Go.ChangeAt Go.RowKit

end Go.Proofs.YthnjhjgffkilcaaGreatDoor
/- The program reads a matrix: what it is when it is one, and that it is none. Conditions: at most 2^20 rows, at most 2^20 numbers a row. -/
namespace Go.Proofs.YthnjhjgffkilcaaGreatDoor
set_option maxRecDepth 2000
open Go.ChangeShapes Go.WideShapes Go.ChangeAt Go.RowKit

/-- It is a matrix. -/
def OkM (n : Nat) (L : Nat → Nat) (Z : Nat → Nat → Int) : Prop := 1 ≤ n ∧ n ≤ 16 ∧ 1 ≤ L 0 ∧ L 0 ≤ 16 ∧ ∀ i, i < n → L i = L 0 ∧ ∀ j, j < L 0 → isB (Z i j) = true
/-- Its numbers. -/
def cZ (Z : Nat → Nat → Int) (i j : Nat) : Nat := (Z i j).toNat
theorem readE_z (z : Nat → Int) (n : Nat) {w : World} {B g : Nat} (h : OwnU w B g n n (coP (zI z n))) : w.ownsRow B 155 1 (.slice (some ⟨g, 0, none⟩) n n) n ((zI (fun j => (((z j).toNat : Nat) : Int)) n).map (Value.int .u8)) := by
  unfold OwnU at h
  rw [eI_zI, zI_congr (g := fun j => (((z j).toNat : Nat) : Int)) (fun j hj => by unfold coP; rw [zI_getD z n j hj])] at h
  exact h
set_option maxHeartbeats 2000000 in
theorem readM_yes (a : Option Addr) (n cap : Nat) (L : Nat → Nat) (Z : Nat → Nat → Int) (w : World) (h : MatAt w a n L Z) (ok : OkM n L Z) :
    Calls Tryz.prog 231 #[.slice a n cap] w fun e w' => e = .returned (.tuple #[.slice (some ⟨w.heap.size, 0, none⟩) n n, .bool true]) ∧ (∃ g : Nat → Nat, MatU w' w.heap.size w'.heap.size (some ⟨w.heap.size, 0, none⟩) n n (fun i => some ⟨g i, 0, none⟩) (fun _ => L 0) (fun _ => L 0) (fun i j => ((cZ Z i j : Nat) : Int))) ∧ Below w.heap.size w w' := by
  obtain ⟨i0, hi, hz0, hz1, hz2⟩ := info_parts Tryz.infoElems
  obtain ⟨hn1, hn2, hl1, hl2, hall⟩ := ok
  obtain ⟨b0, off0, ai0, ci0, e0, hc0, _⟩ := h 0 (by omega)
  subst e0
  rw [Nat.add_zero] at hc0
  obtain ⟨l, hl⟩ : ∃ l, L 0 = l := ⟨_, rfl⟩
  rw [hl] at hc0 hl1 hl2 hall ⊢
  have hs1 : side (n : Int) = true := by rw [side_nat]; simp; omega
  have hs2 : side (l : Int) = true := by rw [side_nat]; simp; omega
  have hn1' : (1 : Int) ≤ (n : Int) := by omega
  have hb0 := block_lt_of_cell hc0
  have KH : Hid (MatAt w (some ⟨b0, off0, none⟩) n L Z) := h
  have KA : Hid _ := hall
  clear h hall hl
  go_enter Tryz.func231, Tryz.ntmps231
  go_wp2_with (first | (go_at_call 140; refine (isSide_any _ _).mono ?_; rintro e w' ⟨rfl, hw⟩; obtain rfl := hw.symm) | (at_make; refine wpList_make_full _ rfl _ _ 256 rfl w.heap.size 259 i0 (.slice none 0 0) 1 Tryz.underlying256 hi hz0 hz1 .i64 .i64 _ _ n rfl rfl rfl rfl (by rw [hz2]; omega) (by unfold maxLen; omega) (Nat.le_refl _) ?_; intro w1 hown hgrow))
  have hb1 : Below w.heap.size w w1 := (Below.refl _ _).grown hgrow (Nat.le_refl _) (by simp)
  have hlt1 := (World.ownsRow.lt hown _ rfl).2
  have KO : Hid (MatU w1 w.heap.size w1.heap.size (some ⟨w.heap.size, 0, none⟩) n n (fun i => if i < 0 then some ⟨0, 0, none⟩ else none) (fun i => if i < 0 then l else 0) (fun i => if i < 0 then l else 0) (fun i j => ((cZ Z i j : Nat) : Int))) :=
    (MatZ.made (by simpa [Value.cells, toList_madeCells_one] using hown) hlt1 _).congr (fun i _ => ⟨by simp, by simp, by simp, fun j hj => rfl⟩)
  have KB : Hid (Below w.heap.size w w1) := hb1
  clear hown hgrow hlt1 hb1 hi hz0 hz1 hz2
  go_loopw [26] (fun i wr => ∃ (k : Nat) (g : Nat → Nat), k ≤ n ∧ i = .int .i64 ((k : Nat) : Int) ∧ MatU wr w.heap.size wr.heap.size (some ⟨w.heap.size, 0, none⟩) n n (fun i => if i < k then some ⟨g i, 0, none⟩ else none) (fun i => if i < k then l else 0) (fun i => if i < k then l else 0) (fun i j => ((cZ Z i j : Nat) : Int)) ∧ Below w.heap.size w wr) (fun i _ => n - (intOf i).toNat)
  case atStart => exact ⟨0, fun _ => 0, Nat.zero_le _, rfl, KO.out, KB.out⟩
  case round =>
    obtain ⟨k, g, hk, rfl, hown, hbel⟩ := hrel
    clear KO KB
    by_cases hlt : k < n
    · have hlti : (k : Int) < (n : Int) := by omega
      obtain ⟨b, off, ai, ci, eb, hc, hr⟩ := KH.out.below hbel k hlt
      cases eb
      have hLk := (KA.out k hlt).1
      have hBk := (KA.out k hlt).2
      rw [hLk] at hc hr
      have hc0' := (hbel.cell (p := ⟨b0, off0, none⟩) hb0).trans hc0
      have hrd := readE_yes ai l ci (zI (Z k) l) wr hr (by omega) (fun i hi => by rw [zI_getD _ _ _ hi]; exact hBk i hi)
      have KM : Hid (MatU wr w.heap.size wr.heap.size (some ⟨w.heap.size, 0, none⟩) n n (fun i => if i < k then some ⟨g i, 0, none⟩ else none) (fun i => if i < k then l else 0) (fun i => if i < k then l else 0) (fun i j => ((cZ Z i j : Nat) : Int))) := hown
      have KR : Hid _ := hrd
      have KB : Hid (Below w.heap.size w wr) := hbel
      clear hown hrd hBk hr hLk hc0
      go_wp2_with fail
      refine Calls.mono KR.out ?_
      rintro e w2 ⟨rfl, ho2, hb2⟩
      have hM := (KM.out.below hb2).wide hb2.size
      have hold := hM.hdr hlt
      have hfr := hM.ofree k
      simp only [Nat.lt_irrefl, if_false] at hold
      have hsz := hbel.size
      have hSR := hM.setRow teNe hlt (own_base (readE_z (Z k) l ho2) hsz) (OwnU.lt ho2).2 (fun j hj _ x ex => by have := KM.out.rE j hj x ex; exact Nat.ne_of_lt this)
      have HS : Hid (MatU (w2.setCell ⟨w.heap.size, k, none⟩ (.slice (some ⟨wr.heap.size, 0, none⟩) l l)) w.heap.size (w2.setCell ⟨w.heap.size, k, none⟩ (.slice (some ⟨wr.heap.size, 0, none⟩) l l)).heap.size (some ⟨w.heap.size, 0, none⟩) n n (fun i => if i < k + 1 then some ⟨(fun i => if i = k then wr.heap.size else g i) i, 0, none⟩ else none) (fun i => if i < k + 1 then l else 0) (fun i => if i < k + 1 then l else 0) (fun i j => ((cZ Z i j : Nat) : Int))) :=
        (hSR.1.wide hSR.2.size).congr (fun i _ => by
          by_cases e : i = k
          · subst e; simp [cZ]
          · by_cases e2 : i < k
            · simp [e, e2, show i < k + 1 by omega]
            · simp [e, e2, show ¬ i < k + 1 by omega])
      have HB : Hid (Below w.heap.size w (w2.setCell ⟨w.heap.size, k, none⟩ (.slice (some ⟨wr.heap.size, 0, none⟩) l l))) := (below2 KB.out hb2).setCell (Nat.le_refl _) _
      clear hM ho2 hb2 hbel hSR KM KR
      go_wp2
      go_roundw
      case rel => exact ⟨k + 1, _, by omega, by go_num, HS.out, HB.out⟩
      case measure => simp [intOf] <;> omega
    · obtain rfl : k = n := by omega
      have KM : Hid (MatU wr w.heap.size wr.heap.size (some ⟨w.heap.size, 0, none⟩) k k (fun i => if i < k then some ⟨g i, 0, none⟩ else none) (fun i => if i < k then l else 0) (fun i => if i < k then l else 0) (fun i j => ((cZ Z i j : Nat) : Int))) := hown
      clear hown
      go_wp2
      go_ret2
      exact ⟨rfl, ⟨g, KM.out.congr (fun i hi => ⟨if_pos hi, if_pos hi, if_pos hi, fun j _ => rfl⟩)⟩, hbel⟩
end Go.Proofs.YthnjhjgffkilcaaGreatDoor
