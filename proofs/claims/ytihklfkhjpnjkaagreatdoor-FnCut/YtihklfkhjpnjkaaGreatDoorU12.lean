import Derived.Test.YtihklfkhjpnjkaaGreatDoorU10
import Derived.Test.YtihklfkhjpnjkaaGreatDoorU9
import Derived.Test.YtihklfkhjpnjkaaGreatDoorU7
import Derived.Test.YtihklfkhjpnjkaaGreatDoorU2
import Derived.Deep.Matrix
import Derived.Shelf.Abstract
import Derived.Test.YtihklfkhjpnjkaaGreatDoorU11
set_option maxHeartbeats 8000000
set_option maxRecDepth 2000
open Go.ChangeShapes Go.WideShapes Go.ChangeAt Go.RowKit
namespace Go.Proofs.YtihklfkhjpnjkaaGreatDoor
def marks (k n : Nat) : List Int := eI (fun i => k + i) n
theorem owns_cap {w : World} {B E g n cap : Nat} {xs : List Value} (h : w.ownsRow B E 1 (.slice (some ⟨g, 0, none⟩) n cap) n xs) : n ≤ cap := by
 rcases h.2 with h' | ⟨g', cap', cur, e, _, _, hn, _⟩
 ·cases h'.1
 ·cases e; exact hn
def pf (F : Nat → Nat → Nat) (N : Nat → Nat) : Nat → (Nat → Nat) × Nat
 | 0 => (Gp.one, 1)
 | i + 1 => (Gp.cv (pf F N i).1 (F i) (pf F N i).2, Gp.tl (Gp.cv (pf F N i).1 (F i) (pf F N i).2) ((pf F N i).2 + N i))
def OwnR (w : World) (B g n cap : Nat) (f : Nat → Nat) : Prop := w.ownsRow B 3 1 (.slice (some ⟨g, 0, none⟩) n cap) n ((eI f n).map (Value.int .i64))
theorem OwnR.cap {w : World} {B g n cap : Nat} {f : Nat → Nat} (h : OwnR w B g n cap f) : n ≤ cap := by
 rcases h.2 with h' | ⟨g', cap', cur, e, _, _, hn, _⟩
 ·cases h'.1
 ·cases e; exact hn
theorem OwnR.cell {w : World} {B g n cap i : Nat} {f : Nat → Nat} (h : OwnR w B g n cap f) (hi : i < n) : w.cell? ⟨g, i, none⟩ = some (.int .i64 ((f i : Nat) : Int)) := by
 rw [World.ownsRow.cellAt h i (by omega)]
 simp [eI, hi]
theorem OwnR.ints {w : World} {B g n cap : Nat} {f : Nat → Nat} (h : OwnR w B g n cap f) : IntsAt w (some ⟨g, 0, none⟩) n (eI f n) := ownsRow.ints h
theorem OwnR.lt {w : World} {B g n cap : Nat} {f : Nat → Nat} (h : OwnR w B g n cap f) : B ≤ g ∧ g < w.heap.size := World.ownsRow.lt h g rfl
theorem OwnR.below {w w' : World} {B g n cap : Nat} {f : Nat → Nat} (h : OwnR w B g n cap f) (hb : Below w.heap.size w w') : OwnR w' B g n cap f := ownsRow_below h hb
theorem OwnR.other {w w' : World} {B g n cap r : Nat} {f : Nat → Nat} (h : OwnR w B g n cap f) (hg : w.grownBy w' (some r)) (hr : g ≠ r) : OwnR w' B g n cap f :=
 World.ownsRow.kept h hg (.inr (by simp [Value.ownBlock]; exact hr))
theorem OwnR.congr {w : World} {B g n cap : Nat} {f h : Nat → Nat} (ho : OwnR w B g n cap f) (e : ∀ i, i < n → f i = h i) : OwnR w B g n cap h := by
 unfold OwnR at *
 rw [← eI_congr e]
 exact ho
theorem OwnR.set {w : World} {B g n cap k v : Nat} {f : Nat → Nat} (h : OwnR w B g n cap f) (hk : k < n) :
  OwnR (w.setCell ⟨g, k, none⟩ (.int .i64 (v : Int))) B g n cap (fun i => if i = k then v else f i) ∧ w.grownBy (w.setCell ⟨g, k, none⟩ (.int .i64 (v : Int))) (some g) := by
 have hs := World.ownsRow.stored h k (.int .i64 (v : Int))
 rw [eI_set f n k v .i64 hk] at hs
 exact ⟨hs.1, ⟨rfl, rfl, rfl, by simp, fun j _ hj => heap_setCell_other w ⟨g, k, none⟩ j _ (fun e => hj (by simp [e]))⟩⟩
theorem eI_snoc (f : Nat → Nat) (k : Nat) : eI f (k + 1) = eI f k ++ [((f k : Nat) : Int)] := by
 unfold eI
 rw [List.range_succ, List.map_append]
 rfl
theorem OwnR.snoc {w : World} {B g k cap : Nat} {f : Nat → Nat} (h : w.ownsRow B 3 1 (.slice (some ⟨g, 0, none⟩) (k + 1) cap) (k + 1) ((eI f k).map (Value.int .i64) ++ [.int .i64 ((f k : Nat) : Int)])) : OwnR w B g (k + 1) cap f := by
 unfold OwnR
 rw [eI_snoc, List.map_append]
 exact h
theorem lit0 (w : World) (f : Nat → Nat) : OwnR (w.alloc (.cells #[] 3)) w.heap.size w.heap.size 0 0 f :=
 World.ownsRow_lit w #[] 0 (Nat.le_refl _) (by unfold maxLen; omega) rfl
def zI (z : Nat → Int) (n : Nat) : List Int := (List.range n).map z
theorem zI_len (z : Nat → Int) (n : Nat) : (zI z n).length = n := by simp [zI]
theorem zI_get (z : Nat → Int) (n i : Nat) (h : i < n) : (zI z n)[i]? = some (z i) := by simp [zI, h]
theorem zI_congr {f g : Nat → Int} {n : Nat} (h : ∀ i, i < n → f i = g i) : zI f n = zI g n := by
 unfold zI
 apply List.map_congr_left
 intro i hi
 rw [h i (List.mem_range.1 hi)]
theorem zI_set (z : Nat → Int) (n k : Nat) (v : Int) (d : IntKind) (h : k < n) : ((zI z n).map (Value.int d)).set k (.int d v) = (zI (fun i => if i = k then v else z i) n).map (Value.int d) := by
 apply List.ext_getElem?
 intro i
 rw [List.getElem?_set]
 by_cases hi : i < n
 ·by_cases e : k = i
  ·subst e
   simp [zI, h]
  ·simp [zI, hi, e, Ne.symm e]
 ·by_cases e : k = i
  ·omega
  ·rw [if_neg e, List.getElem?_eq_none (by simp [zI_len]; omega), List.getElem?_eq_none (by simp [zI_len]; omega)]
theorem zI_const {z : Nat → Int} (n : Nat) (v : Int) (h : ∀ i, i < n → z i = v) : zI z n = List.replicate n v := by
 apply List.ext_getElem?
 intro i
 by_cases hi : i < n
 ·rw [zI_get z n i hi, h i hi]
  simp [hi]
 ·rw [List.getElem?_eq_none (by rw [zI_len]; omega), List.getElem?_eq_none (by simp; omega)]
def hds (A : Nat → Option Addr) (L C : Nat → Nat) (n : Nat) : List Value := (List.range n).map fun i => Value.slice (A i) (L i) (C i)
theorem hds_len (A : Nat → Option Addr) (L C : Nat → Nat) (n : Nat) : (hds A L C n).length = n := by simp [hds]
theorem hds_get (A : Nat → Option Addr) (L C : Nat → Nat) (n i : Nat) (h : i < n) : (hds A L C n)[i]? = some (Value.slice (A i) (L i) (C i)) := by simp [hds, h]
theorem hds_set (A : Nat → Option Addr) (L C : Nat → Nat) (n k : Nat) (x : Option Addr) (l c : Nat) : (hds A L C n).set k (.slice x l c) = hds (fun i => if i = k then x else A i) (fun i => if i = k then l else L i) (fun i => if i = k then c else C i) n := by
 apply List.ext_getElem?
 intro i
 rw [List.getElem?_set]
 by_cases hi : i < n
 ·rw [hds_get (fun i => if i = k then x else A i) _ _ _ _ hi]
  by_cases e : k = i
  ·subst e
   rw [if_pos rfl, if_pos (by rw [hds_len]; exact hi)]
   simp
  ·rw [if_neg e, hds_get _ _ _ _ _ hi]
   simp [Ne.symm e]
 ·rw [List.getElem?_eq_none (l := hds (fun i => if i = k then x else A i) _ _ _) (by rw [hds_len]; omega)]
  by_cases e : k = i
  ·subst e
   rw [if_pos rfl, if_neg (by rw [hds_len]; omega)]
  ·rw [if_neg e, List.getElem?_eq_none (by rw [hds_len]; omega)]
theorem hds_congr {A A' : Nat → Option Addr} {L L' C C' : Nat → Nat} {n : Nat} (h : ∀ i, i < n → A i = A' i ∧ L i = L' i ∧ C i = C' i) : hds A L C n = hds A' L' C' n := by
 unfold hds
 apply List.map_congr_left
 intro i hi
 obtain ⟨h1, h2, h3⟩ := h i (List.mem_range.1 hi)
 rw [h1, h2, h3]
theorem hds_snoc (A : Nat → Option Addr) (L C : Nat → Nat) (n : Nat) : hds A L C (n + 1) = hds A L C n ++ [Value.slice (A n) (L n) (C n)] := by
 unfold hds
 rw [List.range_succ, List.map_append]
 rfl
structure MatZ (k : IntKind) (T TT : Nat) (w : World) (B E : Nat) (a : Option Addr) (n cap : Nat) (A : Nat → Option Addr) (L C : Nat → Nat) (Z : Nat → Nat → Int) : Prop where
 out : w.ownsRow B TT 1 (.slice a n cap) n (hds A L C n)
 oE : ∀ x, a = some x → x.block < E
 row : ∀ i, i < n → w.ownsRow B T 1 (.slice (A i) (L i) (C i)) (L i) ((zI (Z i) (L i)).map (Value.int k))
 rE : ∀ i, i < n → ∀ x, A i = some x → x.block < E
 apart : ∀ i j, i < n → j < n → i ≠ j → ∀ x y, A i = some x → A j = some y → x.block ≠ y.block
section
variable {k : IntKind} {T TT : Nat} {w w' : World} {B E : Nat} {a : Option Addr} {n cap : Nat} {A : Nat → Option Addr} {L C : Nat → Nat} {Z : Nat → Nat → Int}
theorem MatZ.addr (h : MatZ k T TT w B E a n cap A L C Z) (hn : 0 < n) : ∃ G, a = some ⟨G, 0, none⟩ := by
 rcases own_shape h.out with ⟨_, h0, _⟩ | ⟨g, _, e, _⟩
 ·omega
 ·exact ⟨g, e⟩
theorem MatZ.hdr {G i : Nat} (h : MatZ k T TT w B E (some ⟨G, 0, none⟩) n cap A L C Z) (hi : i < n) : w.cell? ⟨G, i, none⟩ = some (.slice (A i) (L i) (C i)) := by
 rw [h.out.cellAt i (by omega), hds_get _ _ _ _ _ hi]
theorem MatZ.elt {g i j : Nat} (h : MatZ k T TT w B E a n cap A L C Z) (hi : i < n) (hA : A i = some ⟨g, 0, none⟩) (hj : j < L i) : w.cell? ⟨g, j, none⟩ = some (.int k (Z i j)) := by
 have hr := h.row i hi
 rw [hA] at hr
 rw [hr.cellAt j (by omega)]
 simp [zI, hj]
theorem MatZ.free {g i : Nat} (h : MatZ k T TT w B E a n cap A L C Z) (hi : i < n) (hA : A i = some ⟨g, 0, none⟩) (j : Nat) : w.frozen? ⟨g, j, none⟩ = false := by
 have hr := h.row i hi
 rw [hA] at hr
 exact hr.frozenAt j
theorem MatZ.ofree {G : Nat} (h : MatZ k T TT w B E (some ⟨G, 0, none⟩) n cap A L C Z) (j : Nat) : w.frozen? ⟨G, j, none⟩ = false := h.out.frozenAt j
theorem MatZ.olt {G : Nat} (h : MatZ k T TT w B E (some ⟨G, 0, none⟩) n cap A L C Z) : B ≤ G ∧ G < w.heap.size := h.out.lt G rfl
theorem MatZ.glt {g i : Nat} (h : MatZ k T TT w B E a n cap A L C Z) (hi : i < n) (hA : A i = some ⟨g, 0, none⟩) : B ≤ g ∧ g < w.heap.size := by
 have hr := h.row i hi
 rw [hA] at hr
 exact hr.lt g rfl
theorem MatZ.off (hT : T ≠ TT) {g G i : Nat} (h : MatZ k T TT w B E (some ⟨G, 0, none⟩) n cap A L C Z) (hi : i < n) (hA : A i = some ⟨g, 0, none⟩) : g ≠ G := by
 intro e
 subst e
 have hr := h.row i hi
 rw [hA] at hr
 rcases own_shape hr with ⟨h', _⟩ | ⟨g1, c1, e1, _, hg1, _⟩
 ·cases h'
 ·rcases own_shape h.out with ⟨h', _⟩ | ⟨g2, c2, e2, _, hg2, _⟩
  ·cases h'
  ·cases e1
   cases e2
   rw [hg1] at hg2
   cases hg2
   exact hT rfl
theorem MatZ.below (h : MatZ k T TT w B E a n cap A L C Z) (hb : Below w.heap.size w w') : MatZ k T TT w' B E a n cap A L C Z :=
 ⟨ownsRow_below h.out hb, h.oE, fun i hi => ownsRow_below (h.row i hi) hb, h.rE, h.apart⟩
theorem MatZ.wide {E' : Nat} (h : MatZ k T TT w B E a n cap A L C Z) (hE : E ≤ E') : MatZ k T TT w B E' a n cap A L C Z :=
 ⟨h.out, fun x e => Nat.lt_of_lt_of_le (h.oE x e) hE, h.row, fun i hi x e => Nat.lt_of_lt_of_le (h.rE i hi x e) hE, h.apart⟩
theorem MatZ.congr {A' : Nat → Option Addr} {L' C' : Nat → Nat} {Z' : Nat → Nat → Int} (h : MatZ k T TT w B E a n cap A L C Z) (e : ∀ i, i < n → A i = A' i ∧ L i = L' i ∧ C i = C' i ∧ ∀ j, j < L i → Z i j = Z' i j) : MatZ k T TT w B E a n cap A' L' C' Z' := by
 refine ⟨?_, h.oE, fun i hi => ?_, fun i hi x ex => ?_, fun i j hi hj hij x y ex ey => ?_⟩
 ·rw [← hds_congr (fun i hi => ⟨(e i hi).1, (e i hi).2.1, (e i hi).2.2.1⟩)]; exact h.out
 ·obtain ⟨e1, e2, e3, e4⟩ := e i hi
  have hr := h.row i hi
  rw [zI_congr e4, e1, e2, e3] at hr
  exact hr
 ·exact h.rE i hi x ((e i hi).1.trans ex)
 ·exact h.apart i j hi hj hij x y ((e i hi).1.trans ex) ((e j hj).1.trans ey)
theorem MatZ.kept {b : Nat} (h : MatZ k T TT w B E a n cap A L C Z) (hg : w.grownBy w' (some b)) (ho : ∀ x, a = some x → x.block ≠ b) (hr : ∀ i, i < n → ∀ x, A i = some x → x.block ≠ b) : MatZ k T TT w' B E a n cap A L C Z :=
 ⟨own_kept h.out hg ho, h.oE, fun i hi => own_kept (h.row i hi) hg (hr i hi), h.rE, h.apart⟩
theorem MatZ.keptE {b : Nat} (h : MatZ k T TT w B E a n cap A L C Z) (hg : w.grownBy w' (some b)) (hb : E ≤ b) : MatZ k T TT w' B E a n cap A L C Z :=
 h.kept hg (fun x e => by have := h.oE x e; omega) (fun i hi x e => by have := h.rE i hi x e; omega)
theorem MatZ.setElt (hT : T ≠ TT) {g i j : Nat} (h : MatZ k T TT w B E a n cap A L C Z) (hi : i < n) (hA : A i = some ⟨g, 0, none⟩) (hj : j < L i) (v : Int) :
  MatZ k T TT (w.setCell ⟨g, j, none⟩ (.int k v)) B E a n cap A L C (fun p q => if p = i ∧ q = j then v else Z p q) ∧ w.grownBy (w.setCell ⟨g, j, none⟩ (.int k v)) (some g) := by
 have hg := grown_set w g j (.int k v)
 obtain ⟨G, rfl⟩ := h.addr (by omega)
 refine ⟨⟨own_kept h.out hg (fun x e => by cases e; exact (h.off hT hi hA).symm), h.oE, fun p hp => ?_, h.rE, h.apart⟩, hg⟩
 by_cases e : p = i
 ·subst e
  have hr := h.row p hp
  rw [hA] at hr ⊢
  have h1 := (hr.stored j (.int k v)).1
  rw [zI_set _ _ _ _ _ hj] at h1
  rw [zI_congr (g := fun q => if q = j then v else Z p q) (fun q _ => by simp)]
  exact h1
 ·have hr := own_kept (h.row p hp) hg (fun x ex => h.apart p i hp hi e x _ ex hA)
  rw [zI_congr (f := fun q => if p = i ∧ q = j then v else Z p q) (g := Z p) (fun q _ => by simp [e])]
  exact hr
theorem MatZ.setRow (hT : T ≠ TT) {G g i l c : Nat} {z : Nat → Int} (h : MatZ k T TT w B E (some ⟨G, 0, none⟩) n cap A L C Z) (hi : i < n)
  (hrow : w.ownsRow B T 1 (.slice (some ⟨g, 0, none⟩) l c) l ((zI z l).map (Value.int k))) (hE : g < E) (hap : ∀ j, j < n → j ≠ i → ∀ x, A j = some x → x.block ≠ g) :
  MatZ k T TT (w.setCell ⟨G, i, none⟩ (.slice (some ⟨g, 0, none⟩) l c)) B E (some ⟨G, 0, none⟩) n cap (fun j => if j = i then some ⟨g, 0, none⟩ else A j) (fun j => if j = i then l else L j) (fun j => if j = i then c else C j) (fun j => if j = i then z else Z j) ∧ w.grownBy (w.setCell ⟨G, i, none⟩ (.slice (some ⟨g, 0, none⟩) l c)) (some G) := by
 have hg := grown_set w G i (.slice (some ⟨g, 0, none⟩) l c)
 have hgG : g ≠ G := by
  intro e
  subst e
  rcases own_shape hrow with ⟨h', _⟩ | ⟨g1, c1, e1, _, hg1, _⟩
  ·cases h'
  ·rcases own_shape h.out with ⟨h', _⟩ | ⟨g2, c2, e2, _, hg2, _⟩
   ·cases h'
   ·cases e1
    cases e2
    rw [hg1] at hg2
    cases hg2
    exact hT rfl
 refine ⟨⟨?_, h.oE, fun p hp => ?_, fun p hp x ex => ?_, fun p q hp hq hpq x y ex ey => ?_⟩, hg⟩
 ·have h1 := (h.out.stored i (.slice (some ⟨g, 0, none⟩) l c)).1
  rw [hds_set] at h1
  exact h1
 ·by_cases e : p = i
  ·subst e
   simp only [if_pos]
   exact own_kept hrow hg (fun x ex => by cases ex; exact hgG)
  ·simp only [if_neg e]
   refine own_kept (h.row p hp) hg (fun x ex => ?_)
   have hr := h.row p hp
   rw [ex] at hr
   rcases own_shape hr with ⟨h', _⟩ | ⟨g1, c1, e1, _⟩
   ·cases h'
   ·cases e1
    exact h.off hT hp ex
 ·by_cases e : p = i
  ·simp only [if_pos e] at ex; cases ex; exact hE
  ·simp only [if_neg e] at ex; exact h.rE p hp x ex
 ·by_cases e : p = i
  ·simp only [if_pos e] at ex
   cases ex
   simp only [if_neg (show q ≠ i by omega)] at ey
   exact (hap q hq (by omega) y ey).symm
  ·simp only [if_neg e] at ex
   by_cases e2 : q = i
   ·simp only [if_pos e2] at ey
    cases ey
    exact hap p hp e x ex
   ·simp only [if_neg e2] at ey
    exact h.apart p q hp hq hpq x y ex ey
theorem MatZ.push (hT : T ≠ TT) {E' : Nat} {a' : Option Addr} {cap' l c : Nat} {x : Option Addr} {z : Nat → Int} (h : MatZ k T TT w B E a n cap A L C Z)
  (hg : w.grownBy w' (Value.slice a n cap).ownBlock) (hout : w'.ownsRow B TT 1 (.slice a' (n + 1) cap') (n + 1) (hds A L C n ++ [Value.slice x l c])) (hsz : w'.heap.size ≤ E') (hE : E ≤ E')
  (hrow : w.ownsRow B T 1 (.slice x l c) l ((zI z l).map (Value.int k))) (hap : ∀ j, j < n → ∀ y u, A j = some y → x = some u → y.block ≠ u.block) :
  MatZ k T TT w' B E' a' (n + 1) cap' (fun j => if j = n then x else A j) (fun j => if j = n then l else L j) (fun j => if j = n then c else C j) (fun j => if j = n then z else Z j) := by
 have hrk : ∀ (u : Option Addr) (l c : Nat) (xs : List Value), w.ownsRow B T 1 (.slice u l c) l xs → w'.ownsRow B T 1 (.slice u l c) l xs := by
  intro u l c xs hr
  refine World.ownsRow.kept hr hg ?_
  rcases own_shape hr with ⟨rfl, _⟩ | ⟨g1, c1, rfl, _, hg1, _⟩
  ·exact .inl rfl
  ·right
   rcases own_shape h.out with ⟨rfl, _⟩ | ⟨g2, c2, rfl, _, hg2, _⟩
   ·simp [Value.ownBlock]
   ·simp only [Value.ownBlock, ne_eq, Option.some.injEq]
    intro e
    subst e
    rw [hg1] at hg2
    cases hg2
    exact hT rfl
 refine ⟨?_, fun y e => ?_, fun i hi => ?_, fun i hi y e => ?_, fun i j hi hj hij y u e1 e2 => ?_⟩
 ·rw [hds_snoc]
  simp only [if_pos]
  rw [← hds_congr (A := A) (L := L) (C := C) (fun i hi => by simp [show i ≠ n by omega])]
  exact hout
 ·subst e; exact Nat.lt_of_lt_of_le (hout.lt y.block rfl).2 hsz
 ·by_cases e : i = n
  ·subst e; simp only [if_pos]; exact hrk _ _ _ _ hrow
  ·simp only [if_neg e]; exact hrk _ _ _ _ (h.row i (by omega))
 ·by_cases e' : i = n
  ·subst e'
   simp only [if_pos] at e
   subst e
   exact Nat.lt_of_lt_of_le (Nat.lt_of_lt_of_le (hrow.lt y.block rfl).2 hg.size) hsz
  ·simp only [if_neg e'] at e
   exact Nat.lt_of_lt_of_le (h.rE i (by omega) y e) hE
 ·by_cases e : i = n
  ·subst e
   simp only [if_pos] at e1
   simp only [if_neg (show j ≠ i by omega)] at e2
   exact (hap j (by omega) u y e2 e1).symm
  ·simp only [if_neg e] at e1
   by_cases e' : j = n
   ·subst e'
    simp only [if_pos] at e2
    exact hap i (by omega) y u e1 e2
   ·simp only [if_neg e'] at e2
    exact h.apart i j (by omega) (by omega) hij y u e1 e2
theorem MatZ.nil (k : IntKind) (T TT : Nat) (w : World) (B E : Nat) (A : Nat → Option Addr) (L C : Nat → Nat) (Z : Nat → Nat → Int) : MatZ k T TT w B E none 0 0 A L C Z :=
 ⟨World.ownsRow_nil w B _ _, fun x e => (by cases e), fun i hi => by omega, fun i hi => by omega, fun i j hi => by omega⟩
theorem MatZ.zero {G c : Nat} (k : IntKind) (T TT : Nat) (w : World) (B E : Nat) (A : Nat → Option Addr) (L C : Nat → Nat) (Z : Nat → Nat → Int) (h : w.ownsRow B TT 1 (.slice (some ⟨G, 0, none⟩) 0 c) 0 []) (hE : G < E) : MatZ k T TT w B E (some ⟨G, 0, none⟩) 0 c A L C Z :=
 ⟨h, fun x e => by cases e; exact hE, fun i hi => by omega, fun i hi => by omega, fun i j hi => by omega⟩
theorem MatZ.made {G : Nat} (h : w.ownsRow B TT 1 (.slice (some ⟨G, 0, none⟩) n n) n (List.replicate n (Value.slice none 0 0))) (hE : G < E) (Z : Nat → Nat → Int) : MatZ k T TT w B E (some ⟨G, 0, none⟩) n n (fun _ => none) (fun _ => 0) (fun _ => 0) Z := by
 refine ⟨?_, fun x e => by cases e; exact hE, fun i _ => World.ownsRow_nil w B _ _, fun i _ x e => (by cases e), fun i j _ _ _ x y e => (by cases e)⟩
 have e : hds (fun _ => none) (fun _ => 0) (fun _ => 0) n = List.replicate n (Value.slice none 0 0) := by
  apply List.ext_getElem?
  intro i
  by_cases hi : i < n
  ·rw [hds_get _ _ _ _ _ hi]; simp [hi]
  ·rw [List.getElem?_eq_none (by rw [hds_len]; omega), List.getElem?_eq_none (by simp; omega)]
 rw [e]
 exact h
end
def MatAt (w : World) (a : Option Addr) (n : Nat) (L : Nat → Nat) (Z : Nat → Nat → Int) : Prop :=
 ∀ i, i < n → ∃ b off ai ci, a = some ⟨b, off, none⟩ ∧ w.cell? ⟨b, off + i, none⟩ = some (.slice ai (L i) ci) ∧ IntsAt w ai (L i) (zI (Z i) (L i))
theorem MatAt.below {w w' : World} {a : Option Addr} {n : Nat} {L : Nat → Nat} {Z : Nat → Nat → Int} (h : MatAt w a n L Z) (hb : Below w.heap.size w w') : MatAt w' a n L Z := fun i hi => by
 obtain ⟨b, off, ai, ci, e, hc, hr⟩ := h i hi
 exact ⟨b, off, ai, ci, e, (hb.cell (p := ⟨b, off + i, none⟩) (block_lt_of_cell hc)).trans hc, hr.below hb⟩
theorem own_ints {w : World} {B T n c : Nat} {a : Option Addr} {z : Nat → Int} (h : w.ownsRow B T 1 (.slice a n c) n ((zI z n).map (Value.int .i64))) : IntsAt w a n (zI z n) := by
 rcases own_shape h with ⟨rfl, rfl, rfl⟩ | ⟨g, cur, rfl, _⟩
 ·exact ⟨zI_len _ _, fun i hi => by omega⟩
 ·exact ownsRow.ints h
theorem MatZ.at {T TT : Nat} {w : World} {B E : Nat} {a : Option Addr} {n cap : Nat} {A : Nat → Option Addr} {L C : Nat → Nat} {Z : Nat → Nat → Int} (h : MatZ .i64 T TT w B E a n cap A L C Z) : MatAt w a n L Z := by
 intro i hi
 obtain ⟨G, rfl⟩ := h.addr (by omega)
 exact ⟨G, 0, A i, C i, rfl, by rw [Nat.zero_add]; exact h.hdr hi, own_ints (h.row i hi)⟩
theorem MatAt.congr {w : World} {a : Option Addr} {n : Nat} {L L' : Nat → Nat} {Z Z' : Nat → Nat → Int} (h : MatAt w a n L Z) (e : ∀ i, i < n → L i = L' i ∧ ∀ j, j < L i → Z i j = Z' i j) : MatAt w a n L' Z' := fun i hi => by
 obtain ⟨b, off, ai, ci, ea, hc, hr⟩ := h i hi
 obtain ⟨e1, e2⟩ := e i hi
 rw [zI_congr e2, e1] at hr
 rw [e1] at hc
 exact ⟨b, off, ai, ci, ea, hc, hr⟩
theorem MatZ.turned {k : IntKind} {T TT : Nat} {w w' : World} {B E B' E' : Nat} {a : Option Addr} {n cap : Nat} {A : Nat → Option Addr} {L C : Nat → Nat} {Z : Nat → Nat → Int} (h : MatZ k T TT w B E a n cap A L C Z) (ht : TurnM w w' B' E') (hd : E ≤ B' ∨ E' ≤ B) : MatZ k T TT w' B E a n cap A L C Z :=
 ⟨own_turn h.out ht h.oE hd, h.oE, fun i hi => own_turn (h.row i hi) ht (h.rE i hi) hd, h.rE, h.apart⟩
end Go.Proofs.YtihklfkhjpnjkaaGreatDoor
namespace Go.Proofs.YtihklfkhjpnjkaaGreatDoor
open Go.Proofs.YtihklfkhjpnjkaaGreatDoor.Gp (m m_lt m_comm m_assoc m_xor xor_m m_zero zero_m m_one one_m m_nat m_ne xor_self xor_left xor_can xor_eq xor_lt)
def txt (f : Nat → Nat) (l : Nat) : ByteArray := strOfNums (eI f l)
theorem txt_size (f : Nat → Nat) (l : Nat) : (txt f l).size = l := by unfold txt; rw [strOfNums_size, eI_len]
theorem tat_txt {f : Nat → Nat} {l k : Nat} (hk : k < l) (hf : f k < 256) : tat (txt f l) k = f k := by
 unfold txt
 rw [tat_str, eI_getD _ _ _ hk, Int.toNat_natCast, Nat.mod_eq_of_lt hf]
theorem txt_congr {f g : Nat → Nat} {l : Nat} (h : ∀ i, i < l → f i = g i) : txt f l = txt g l := by unfold txt; rw [eI_congr h]
theorem txt_of (s : ByteArray) : txt (tat s) s.size = s := by
 refine str_ext (txt_size _ _) fun k => ?_
 by_cases hk : k < s.size
 ·exact tat_txt hk (tat_lt s k)
 ·rw [tat_out s k hk, tat_out _ k (by rw [txt_size]; exact hk)]
theorem txt_is {s : ByteArray} {f : Nat → Nat} {l : Nat} (hs : s.size = l) (h : ∀ k, k < l → tat s k = f k) : s = txt f l := by
 rw [← txt_of s, hs]
 exact txt_congr h
def blen (s k : Nat) : Nat := (s + 2 + k - 1) / k
theorem blen_ge {s k : Nat} (hk : 1 ≤ k) : s + 2 ≤ k * blen s k := by
 unfold blen
 have := Nat.div_add_mod (s + 2 + k - 1) k
 have h2 := Nat.mod_lt (s + 2 + k - 1) (show k > 0 by omega)
 omega
theorem blen_pos {s k : Nat} (hk : 1 ≤ k) : 1 ≤ blen s k := by
 have := blen_ge (s := s) hk
 rcases Nat.eq_zero_or_pos (blen s k) with h | h
 ·rw [h] at this; omega
 ·exact h
theorem blen_le {s k : Nat} (hk : 1 ≤ k) : blen s k ≤ s + 2 := by
 unfold blen
 rw [Nat.div_le_iff_le_mul_add_pred (by omega)]
 have : s + 2 ≤ k * (s + 2) := Nat.le_mul_of_pos_left _ (by omega)
 omega
def frm (s : ByteArray) (q : Nat) : Nat := if q = 0 then s.size / 256 else if q = 1 then s.size % 256 else tat s (q - 2)
theorem frm_lt {s : ByteArray} (hs : s.size < 65536) (q : Nat) : frm s q < 256 := by
 unfold frm
 split
 ·omega
 ·split
  ·omega
  ·exact tat_lt _ _
theorem frm_out {s : ByteArray} {q : Nat} (h : s.size + 2 ≤ q) : frm s q = 0 := by
 unfold frm
 rw [if_neg (by omega), if_neg (by omega), tat_out _ _ (by omega)]
def pcs (W : Nat → Nat) (l i p : Nat) : Nat := W (i * l + p)
def bod (k : Nat) (F T : Nat → Nat → Nat) (l i : Nat) : ByteArray := txt (Gm.mp k F T i) l
theorem bod_congr {k : Nat} {F F' T T' : Nat → Nat → Nat} {l i : Nat} (h1 : ∀ t, t < k → F i t = F' i t) (h2 : ∀ t p, t < k → p < l → T t p = T' t p) : bod k F T l i = bod k F' T' l i :=
 txt_congr (fun p hp => Gm.mp_congr h1 (fun t ht => h2 t p ht hp))
def enc (s : ByteArray) (k i p : Nat) : Nat := pcs (frm s) (blen s.size k) i p
def tells (W : Nat → Nat) (N k : Nat) : Prop := 2 ≤ N ∧ W 0 * 256 + W 1 ≤ 2000 ∧ N = k * blen (W 0 * 256 + W 1) k ∧ ∀ q, W 0 * 256 + W 1 + 2 ≤ q → q < N → W q = 0
def told (W : Nat → Nat) : ByteArray := txt (fun q => W (q + 2)) (W 0 * 256 + W 1)
end Go.Proofs.YtihklfkhjpnjkaaGreatDoor
namespace Go.Proofs.YtihklfkhjpnjkaaGreatDoor
theorem Tryz.infoInts : (Tryz.prog.info? 80).map (fun i => (i.zero, i.size, i.bytes)) = some (some (.slice none 0 0), 1, 24) := by kernel_rfl
abbrev MatI (w : World) (B E : Nat) (a : Option Addr) (n cap : Nat) (A : Nat → Option Addr) (L C : Nat → Nat) (Z : Nat → Nat → Int) : Prop := MatZ .i64 3 80 w B E a n cap A L C Z
theorem tiNe : (3 : Nat) ≠ 80 := by decide
theorem TurnM.wide {w w' : World} {B E b e : Nat} (h : TurnM w w' b e) (hb : B ≤ b) (he : e ≤ E) : TurnM w w' B E := ⟨h.os, h.tape, h.output, h.size, fun j hj hr => h.block j hj (by omega)⟩
end Go.Proofs.YtihklfkhjpnjkaaGreatDoor
