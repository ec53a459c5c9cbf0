import Derived.Test.YtgooamiggebibaaGreatDoorG5
import Derived.Test.YtgooamiggebibaaGreatDoorG2
import Derived.Deep.Matrix
import Derived.Shelf.Abstract
import Derived.Deep.RegionLaw
set_option maxHeartbeats 8000000
set_option maxRecDepth 2000
open Go.ChangeShapes Go.WideShapes Go.ChangeAt Go.RowKit
namespace Go.Proofs.YtgooamiggebibaaGreatDoor
def OwnR (w : World) (B g n cap : Nat) (f : Nat → Nat) : Prop := w.ownsRow B 3 1 (.slice (some ⟨g, 0, none⟩) n cap) n ((eI f n).map (Value.int .i64))
theorem OwnR.lt {w : World} {B g n cap : Nat} {f : Nat → Nat} (h : OwnR w B g n cap f) : B ≤ g ∧ g < w.heap.size := World.ownsRow.lt h g rfl
theorem eI_snoc (f : Nat → Nat) (k : Nat) : eI f (k + 1) = eI f k ++ [((f k : Nat) : Int)] := by
 unfold eI
 rw [List.range_succ, List.map_append]
 rfl
theorem OwnR.snoc {w : World} {B g k cap : Nat} {f : Nat → Nat} (h : w.ownsRow B 3 1 (.slice (some ⟨g, 0, none⟩) (k + 1) cap) (k + 1) ((eI f k).map (Value.int .i64) ++ [.int .i64 ((f k : Nat) : Int)])) : OwnR w B g (k + 1) cap f := by
 unfold OwnR
 rw [eI_snoc, List.map_append]
 exact h
theorem sBytes_any (a : Option Addr) (n cap : Nat) (zs : List Int) (w : World) (h : IntsAt w a n zs) (hn : n ≤ 1048576) :
  Calls Tryz.prog 174 #[.slice a n cap] w fun e w' => e = .returned (.bool (zs.all isB)) ∧ w' = w := by
 have HL : Hid (zs.length = n) := h.1
 go_enter Tryz.func174, Tryz.ntmps174
 go_wp2
 go_loop [3] (fun p => ∃ k : Nat, k ≤ n ∧ p = .int .i64 k ∧ Hid (∀ j : Nat, j < k → isB (zs.getD j 0) = true)) (fun p => n - (intOf p).toNat)
 case atStart => exact ⟨0, by omega, rfl, fun j hj => absurd hj (by omega)⟩
 case round =>
  obtain ⟨k, hk, rfl, HB⟩ := hrel
  by_cases hlt : k < n
  ·obtain ⟨b, off, rfl, hc⟩ := h.2 k hlt
   have hltI : (k : Int) < (n : Int) := by omega
   clear h
   obtain ⟨x, HX⟩ : ∃ x, Hid (x = zs.getD k 0) := ⟨_, rfl⟩
   rw [← HX.out] at hc
   by_cases hx : isB x = true
   ·go_wp2_with (go_at_call 129; refine (sIs_any _ _).mono ?_; rintro e w' ⟨rfl, rfl⟩)
    go_round
    case rel => exact ⟨k + 1, by omega, by go_num, fun j hj => by
     by_cases e : j = k
     ·subst e; rw [← HX.out]; exact hx
     ·exact HB.out j (by omega)⟩
    case measure => simp [intOf] <;> omega
   ·have hx' : isB x = false := by simpa using hx
    have HR : Hid (zs.all isB = false) := by
     show _ = _
     rw [List.all_eq_false]
     refine ⟨x, ?_, hx⟩
     rw [HX.out]
     have := HL.out
     have hl : k < zs.length := by omega
     simp [List.getD, hl]
    go_wp2_with (go_at_call 129; refine (sIs_any _ _).mono ?_; rintro e w' ⟨rfl, rfl⟩)
    go_ret
    exact ⟨ret_bool HR.out.symm, rfl⟩
  ·have HR : Hid (zs.all isB = true) := by
    show _ = _
    rw [List.all_eq_true]
    intro x hx
    obtain ⟨i, hi, rfl⟩ := List.mem_iff_getElem.1 hx
    have := HL.out
    have h2 := HB.out i (by omega)
    simpa [List.getD, hi] using h2
   clear h
   go_wp2
   go_ret
   exact ⟨ret_bool HR.out.symm, rfl⟩
theorem lit0 (w : World) (f : Nat → Nat) : OwnR (w.alloc (.cells #[] 3)) w.heap.size w.heap.size 0 0 f :=
 World.ownsRow_lit w #[] 0 (Nat.le_refl _) (by unfold maxLen; omega) rfl
def zI (z : Nat → Int) (n : Nat) : List Int := (List.range n).map z
theorem zI_len (z : Nat → Int) (n : Nat) : (zI z n).length = n := by simp [zI]
theorem zI_get (z : Nat → Int) (n i : Nat) (h : i < n) : (zI z n)[i]? = some (z i) := by simp [zI, h]
theorem zI_getD (z : Nat → Int) (n i : Nat) (h : i < n) : (zI z n).getD i 0 = z i := by simp [List.getD, zI_get z n i h]
theorem zI_congr {f g : Nat → Int} {n : Nat} (h : ∀ i, i < n → f i = g i) : zI f n = zI g n := by
 unfold zI
 apply List.map_congr_left
 intro i hi
 rw [h i (List.mem_range.1 hi)]
theorem zI_set (z : Nat → Int) (n k : Nat) (v : Int) (d : IntKind) (h : k < n) : ((zI z n).map (Value.int d)).set k (.int d v) = (zI (fun i => if i = k then v else z i) n).map (Value.int d) := by
 apply List.ext_getElem?
 intro i
 rw [List.getElem?_set]
 by_cases hi : i < n
 ·by_cases e : k = i
  ·subst e
   simp [zI, h]
  ·simp [zI, hi, e, Ne.symm e]
 ·by_cases e : k = i
  ·omega
  ·rw [if_neg e, List.getElem?_eq_none (by simp [zI_len]; omega), List.getElem?_eq_none (by simp [zI_len]; omega)]
theorem eI_zI (f : Nat → Nat) (n : Nat) : eI f n = zI (fun i => ((f i : Nat) : Int)) n := rfl
theorem zI_const {z : Nat → Int} (n : Nat) (v : Int) (h : ∀ i, i < n → z i = v) : zI z n = List.replicate n v := by
 apply List.ext_getElem?
 intro i
 by_cases hi : i < n
 ·rw [zI_get z n i hi, h i hi]
  simp [hi]
 ·rw [List.getElem?_eq_none (by rw [zI_len]; omega), List.getElem?_eq_none (by simp; omega)]
def hds (A : Nat → Option Addr) (L C : Nat → Nat) (n : Nat) : List Value := (List.range n).map fun i => Value.slice (A i) (L i) (C i)
theorem hds_len (A : Nat → Option Addr) (L C : Nat → Nat) (n : Nat) : (hds A L C n).length = n := by simp [hds]
theorem hds_get (A : Nat → Option Addr) (L C : Nat → Nat) (n i : Nat) (h : i < n) : (hds A L C n)[i]? = some (Value.slice (A i) (L i) (C i)) := by simp [hds, h]
theorem hds_set (A : Nat → Option Addr) (L C : Nat → Nat) (n k : Nat) (x : Option Addr) (l c : Nat) : (hds A L C n).set k (.slice x l c) = hds (fun i => if i = k then x else A i) (fun i => if i = k then l else L i) (fun i => if i = k then c else C i) n := by
 apply List.ext_getElem?
 intro i
 rw [List.getElem?_set]
 by_cases hi : i < n
 ·rw [hds_get (fun i => if i = k then x else A i) _ _ _ _ hi]
  by_cases e : k = i
  ·subst e
   rw [if_pos rfl, if_pos (by rw [hds_len]; exact hi)]
   simp
  ·rw [if_neg e, hds_get _ _ _ _ _ hi]
   simp [Ne.symm e]
 ·rw [List.getElem?_eq_none (l := hds (fun i => if i = k then x else A i) _ _ _) (by rw [hds_len]; omega)]
  by_cases e : k = i
  ·subst e
   rw [if_pos rfl, if_neg (by rw [hds_len]; omega)]
  ·rw [if_neg e, List.getElem?_eq_none (by rw [hds_len]; omega)]
theorem hds_congr {A A' : Nat → Option Addr} {L L' C C' : Nat → Nat} {n : Nat} (h : ∀ i, i < n → A i = A' i ∧ L i = L' i ∧ C i = C' i) : hds A L C n = hds A' L' C' n := by
 unfold hds
 apply List.map_congr_left
 intro i hi
 obtain ⟨h1, h2, h3⟩ := h i (List.mem_range.1 hi)
 rw [h1, h2, h3]
theorem hds_snoc (A : Nat → Option Addr) (L C : Nat → Nat) (n : Nat) : hds A L C (n + 1) = hds A L C n ++ [Value.slice (A n) (L n) (C n)] := by
 unfold hds
 rw [List.range_succ, List.map_append]
 rfl
structure MatZ (k : IntKind) (T TT : Nat) (w : World) (B E : Nat) (a : Option Addr) (n cap : Nat) (A : Nat → Option Addr) (L C : Nat → Nat) (Z : Nat → Nat → Int) : Prop where
 out : w.ownsRow B TT 1 (.slice a n cap) n (hds A L C n)
 oE : ∀ x, a = some x → x.block < E
 row : ∀ i, i < n → w.ownsRow B T 1 (.slice (A i) (L i) (C i)) (L i) ((zI (Z i) (L i)).map (Value.int k))
 rE : ∀ i, i < n → ∀ x, A i = some x → x.block < E
 apart : ∀ i j, i < n → j < n → i ≠ j → ∀ x y, A i = some x → A j = some y → x.block ≠ y.block
section
variable {k : IntKind} {T TT : Nat} {w w' : World} {B E : Nat} {a : Option Addr} {n cap : Nat} {A : Nat → Option Addr} {L C : Nat → Nat} {Z : Nat → Nat → Int}
theorem MatZ.addr (h : MatZ k T TT w B E a n cap A L C Z) (hn : 0 < n) : ∃ G, a = some ⟨G, 0, none⟩ := by
 rcases own_shape h.out with ⟨_, h0, _⟩ | ⟨g, _, e, _⟩
 ·omega
 ·exact ⟨g, e⟩
theorem MatZ.hdr {G i : Nat} (h : MatZ k T TT w B E (some ⟨G, 0, none⟩) n cap A L C Z) (hi : i < n) : w.cell? ⟨G, i, none⟩ = some (.slice (A i) (L i) (C i)) := by
 rw [h.out.cellAt i (by omega), hds_get _ _ _ _ _ hi]
theorem MatZ.elt {g i j : Nat} (h : MatZ k T TT w B E a n cap A L C Z) (hi : i < n) (hA : A i = some ⟨g, 0, none⟩) (hj : j < L i) : w.cell? ⟨g, j, none⟩ = some (.int k (Z i j)) := by
 have hr := h.row i hi
 rw [hA] at hr
 rw [hr.cellAt j (by omega)]
 simp [zI, hj]
theorem MatZ.free {g i : Nat} (h : MatZ k T TT w B E a n cap A L C Z) (hi : i < n) (hA : A i = some ⟨g, 0, none⟩) (j : Nat) : w.frozen? ⟨g, j, none⟩ = false := by
 have hr := h.row i hi
 rw [hA] at hr
 exact hr.frozenAt j
theorem MatZ.ofree {G : Nat} (h : MatZ k T TT w B E (some ⟨G, 0, none⟩) n cap A L C Z) (j : Nat) : w.frozen? ⟨G, j, none⟩ = false := h.out.frozenAt j
theorem MatZ.olt {G : Nat} (h : MatZ k T TT w B E (some ⟨G, 0, none⟩) n cap A L C Z) : B ≤ G ∧ G < w.heap.size := h.out.lt G rfl
theorem MatZ.glt {g i : Nat} (h : MatZ k T TT w B E a n cap A L C Z) (hi : i < n) (hA : A i = some ⟨g, 0, none⟩) : B ≤ g ∧ g < w.heap.size := by
 have hr := h.row i hi
 rw [hA] at hr
 exact hr.lt g rfl
theorem MatZ.off (hT : T ≠ TT) {g G i : Nat} (h : MatZ k T TT w B E (some ⟨G, 0, none⟩) n cap A L C Z) (hi : i < n) (hA : A i = some ⟨g, 0, none⟩) : g ≠ G := by
 intro e
 subst e
 have hr := h.row i hi
 rw [hA] at hr
 rcases own_shape hr with ⟨h', _⟩ | ⟨g1, c1, e1, _, hg1, _⟩
 ·cases h'
 ·rcases own_shape h.out with ⟨h', _⟩ | ⟨g2, c2, e2, _, hg2, _⟩
  ·cases h'
  ·cases e1
   cases e2
   rw [hg1] at hg2
   cases hg2
   exact hT rfl
theorem MatZ.below (h : MatZ k T TT w B E a n cap A L C Z) (hb : Below w.heap.size w w') : MatZ k T TT w' B E a n cap A L C Z :=
 ⟨ownsRow_below h.out hb, h.oE, fun i hi => ownsRow_below (h.row i hi) hb, h.rE, h.apart⟩
theorem MatZ.wide {E' : Nat} (h : MatZ k T TT w B E a n cap A L C Z) (hE : E ≤ E') : MatZ k T TT w B E' a n cap A L C Z :=
 ⟨h.out, fun x e => Nat.lt_of_lt_of_le (h.oE x e) hE, h.row, fun i hi x e => Nat.lt_of_lt_of_le (h.rE i hi x e) hE, h.apart⟩
theorem MatZ.tight (h : MatZ k T TT w B E a n cap A L C Z) : MatZ k T TT w B w.heap.size a n cap A L C Z := by
 refine ⟨h.out, fun x e => ?_, h.row, fun i hi x e => ?_, h.apart⟩
 ·subst e; exact (h.out.lt x.block rfl).2
 ·have hr := h.row i hi
  rw [e] at hr
  exact (hr.lt x.block rfl).2
theorem MatZ.congr {A' : Nat → Option Addr} {L' C' : Nat → Nat} {Z' : Nat → Nat → Int} (h : MatZ k T TT w B E a n cap A L C Z) (e : ∀ i, i < n → A i = A' i ∧ L i = L' i ∧ C i = C' i ∧ ∀ j, j < L i → Z i j = Z' i j) : MatZ k T TT w B E a n cap A' L' C' Z' := by
 refine ⟨?_, h.oE, fun i hi => ?_, fun i hi x ex => ?_, fun i j hi hj hij x y ex ey => ?_⟩
 ·rw [← hds_congr (fun i hi => ⟨(e i hi).1, (e i hi).2.1, (e i hi).2.2.1⟩)]; exact h.out
 ·obtain ⟨e1, e2, e3, e4⟩ := e i hi
  have hr := h.row i hi
  rw [zI_congr e4, e1, e2, e3] at hr
  exact hr
 ·exact h.rE i hi x ((e i hi).1.trans ex)
 ·exact h.apart i j hi hj hij x y ((e i hi).1.trans ex) ((e j hj).1.trans ey)
theorem MatZ.kept {b : Nat} (h : MatZ k T TT w B E a n cap A L C Z) (hg : w.grownBy w' (some b)) (ho : ∀ x, a = some x → x.block ≠ b) (hr : ∀ i, i < n → ∀ x, A i = some x → x.block ≠ b) : MatZ k T TT w' B E a n cap A L C Z :=
 ⟨own_kept h.out hg ho, h.oE, fun i hi => own_kept (h.row i hi) hg (hr i hi), h.rE, h.apart⟩
theorem MatZ.keptE {b : Nat} (h : MatZ k T TT w B E a n cap A L C Z) (hg : w.grownBy w' (some b)) (hb : E ≤ b) : MatZ k T TT w' B E a n cap A L C Z :=
 h.kept hg (fun x e => by have := h.oE x e; omega) (fun i hi x e => by have := h.rE i hi x e; omega)
theorem MatZ.setElt (hT : T ≠ TT) {g i j : Nat} (h : MatZ k T TT w B E a n cap A L C Z) (hi : i < n) (hA : A i = some ⟨g, 0, none⟩) (hj : j < L i) (v : Int) :
  MatZ k T TT (w.setCell ⟨g, j, none⟩ (.int k v)) B E a n cap A L C (fun p q => if p = i ∧ q = j then v else Z p q) ∧ w.grownBy (w.setCell ⟨g, j, none⟩ (.int k v)) (some g) := by
 have hg := grown_set w g j (.int k v)
 obtain ⟨G, rfl⟩ := h.addr (by omega)
 refine ⟨⟨own_kept h.out hg (fun x e => by cases e; exact (h.off hT hi hA).symm), h.oE, fun p hp => ?_, h.rE, h.apart⟩, hg⟩
 by_cases e : p = i
 ·subst e
  have hr := h.row p hp
  rw [hA] at hr ⊢
  have h1 := (hr.stored j (.int k v)).1
  rw [zI_set _ _ _ _ _ hj] at h1
  rw [zI_congr (g := fun q => if q = j then v else Z p q) (fun q _ => by simp)]
  exact h1
 ·have hr := own_kept (h.row p hp) hg (fun x ex => h.apart p i hp hi e x _ ex hA)
  rw [zI_congr (f := fun q => if p = i ∧ q = j then v else Z p q) (g := Z p) (fun q _ => by simp [e])]
  exact hr
theorem MatZ.setRow (hT : T ≠ TT) {G g i l c : Nat} {z : Nat → Int} (h : MatZ k T TT w B E (some ⟨G, 0, none⟩) n cap A L C Z) (hi : i < n)
  (hrow : w.ownsRow B T 1 (.slice (some ⟨g, 0, none⟩) l c) l ((zI z l).map (Value.int k))) (hE : g < E) (hap : ∀ j, j < n → j ≠ i → ∀ x, A j = some x → x.block ≠ g) :
  MatZ k T TT (w.setCell ⟨G, i, none⟩ (.slice (some ⟨g, 0, none⟩) l c)) B E (some ⟨G, 0, none⟩) n cap (fun j => if j = i then some ⟨g, 0, none⟩ else A j) (fun j => if j = i then l else L j) (fun j => if j = i then c else C j) (fun j => if j = i then z else Z j) ∧ w.grownBy (w.setCell ⟨G, i, none⟩ (.slice (some ⟨g, 0, none⟩) l c)) (some G) := by
 have hg := grown_set w G i (.slice (some ⟨g, 0, none⟩) l c)
 have hgG : g ≠ G := by
  intro e
  subst e
  rcases own_shape hrow with ⟨h', _⟩ | ⟨g1, c1, e1, _, hg1, _⟩
  ·cases h'
  ·rcases own_shape h.out with ⟨h', _⟩ | ⟨g2, c2, e2, _, hg2, _⟩
   ·cases h'
   ·cases e1
    cases e2
    rw [hg1] at hg2
    cases hg2
    exact hT rfl
 refine ⟨⟨?_, h.oE, fun p hp => ?_, fun p hp x ex => ?_, fun p q hp hq hpq x y ex ey => ?_⟩, hg⟩
 ·have h1 := (h.out.stored i (.slice (some ⟨g, 0, none⟩) l c)).1
  rw [hds_set] at h1
  exact h1
 ·by_cases e : p = i
  ·subst e
   simp only [if_pos]
   exact own_kept hrow hg (fun x ex => by cases ex; exact hgG)
  ·simp only [if_neg e]
   refine own_kept (h.row p hp) hg (fun x ex => ?_)
   have hr := h.row p hp
   rw [ex] at hr
   rcases own_shape hr with ⟨h', _⟩ | ⟨g1, c1, e1, _⟩
   ·cases h'
   ·cases e1
    exact h.off hT hp ex
 ·by_cases e : p = i
  ·simp only [if_pos e] at ex; cases ex; exact hE
  ·simp only [if_neg e] at ex; exact h.rE p hp x ex
 ·by_cases e : p = i
  ·simp only [if_pos e] at ex
   cases ex
   simp only [if_neg (show q ≠ i by omega)] at ey
   exact (hap q hq (by omega) y ey).symm
  ·simp only [if_neg e] at ex
   by_cases e2 : q = i
   ·simp only [if_pos e2] at ey
    cases ey
    exact hap p hp e x ex
   ·simp only [if_neg e2] at ey
    exact h.apart p q hp hq hpq x y ex ey
theorem MatZ.push (hT : T ≠ TT) {E' : Nat} {a' : Option Addr} {cap' l c : Nat} {x : Option Addr} {z : Nat → Int} (h : MatZ k T TT w B E a n cap A L C Z)
  (hg : w.grownBy w' (Value.slice a n cap).ownBlock) (hout : w'.ownsRow B TT 1 (.slice a' (n + 1) cap') (n + 1) (hds A L C n ++ [Value.slice x l c])) (hsz : w'.heap.size ≤ E') (hE : E ≤ E')
  (hrow : w.ownsRow B T 1 (.slice x l c) l ((zI z l).map (Value.int k))) (hap : ∀ j, j < n → ∀ y u, A j = some y → x = some u → y.block ≠ u.block) :
  MatZ k T TT w' B E' a' (n + 1) cap' (fun j => if j = n then x else A j) (fun j => if j = n then l else L j) (fun j => if j = n then c else C j) (fun j => if j = n then z else Z j) := by
 have hrk : ∀ (u : Option Addr) (l c : Nat) (xs : List Value), w.ownsRow B T 1 (.slice u l c) l xs → w'.ownsRow B T 1 (.slice u l c) l xs := by
  intro u l c xs hr
  refine World.ownsRow.kept hr hg ?_
  rcases own_shape hr with ⟨rfl, _⟩ | ⟨g1, c1, rfl, _, hg1, _⟩
  ·exact .inl rfl
  ·right
   rcases own_shape h.out with ⟨rfl, _⟩ | ⟨g2, c2, rfl, _, hg2, _⟩
   ·simp [Value.ownBlock]
   ·simp only [Value.ownBlock, ne_eq, Option.some.injEq]
    intro e
    subst e
    rw [hg1] at hg2
    cases hg2
    exact hT rfl
 refine ⟨?_, fun y e => ?_, fun i hi => ?_, fun i hi y e => ?_, fun i j hi hj hij y u e1 e2 => ?_⟩
 ·rw [hds_snoc]
  simp only [if_pos]
  rw [← hds_congr (A := A) (L := L) (C := C) (fun i hi => by simp [show i ≠ n by omega])]
  exact hout
 ·subst e; exact Nat.lt_of_lt_of_le (hout.lt y.block rfl).2 hsz
 ·by_cases e : i = n
  ·subst e; simp only [if_pos]; exact hrk _ _ _ _ hrow
  ·simp only [if_neg e]; exact hrk _ _ _ _ (h.row i (by omega))
 ·by_cases e' : i = n
  ·subst e'
   simp only [if_pos] at e
   subst e
   exact Nat.lt_of_lt_of_le (Nat.lt_of_lt_of_le (hrow.lt y.block rfl).2 hg.size) hsz
  ·simp only [if_neg e'] at e
   exact Nat.lt_of_lt_of_le (h.rE i (by omega) y e) hE
 ·by_cases e : i = n
  ·subst e
   simp only [if_pos] at e1
   simp only [if_neg (show j ≠ i by omega)] at e2
   exact (hap j (by omega) u y e2 e1).symm
  ·simp only [if_neg e] at e1
   by_cases e' : j = n
   ·subst e'
    simp only [if_pos] at e2
    exact hap i (by omega) y u e1 e2
   ·simp only [if_neg e'] at e2
    exact h.apart i j (by omega) (by omega) hij y u e1 e2
theorem MatZ.nil (k : IntKind) (T TT : Nat) (w : World) (B E : Nat) (A : Nat → Option Addr) (L C : Nat → Nat) (Z : Nat → Nat → Int) : MatZ k T TT w B E none 0 0 A L C Z :=
 ⟨World.ownsRow_nil w B _ _, fun x e => (by cases e), fun i hi => by omega, fun i hi => by omega, fun i j hi => by omega⟩
theorem MatZ.zero {G c : Nat} (k : IntKind) (T TT : Nat) (w : World) (B E : Nat) (A : Nat → Option Addr) (L C : Nat → Nat) (Z : Nat → Nat → Int) (h : w.ownsRow B TT 1 (.slice (some ⟨G, 0, none⟩) 0 c) 0 []) (hE : G < E) : MatZ k T TT w B E (some ⟨G, 0, none⟩) 0 c A L C Z :=
 ⟨h, fun x e => by cases e; exact hE, fun i hi => by omega, fun i hi => by omega, fun i j hi => by omega⟩
theorem MatZ.made {G : Nat} (h : w.ownsRow B TT 1 (.slice (some ⟨G, 0, none⟩) n n) n (List.replicate n (Value.slice none 0 0))) (hE : G < E) (Z : Nat → Nat → Int) : MatZ k T TT w B E (some ⟨G, 0, none⟩) n n (fun _ => none) (fun _ => 0) (fun _ => 0) Z := by
 refine ⟨?_, fun x e => by cases e; exact hE, fun i _ => World.ownsRow_nil w B _ _, fun i _ x e => (by cases e), fun i j _ _ _ x y e => (by cases e)⟩
 have e : hds (fun _ => none) (fun _ => 0) (fun _ => 0) n = List.replicate n (Value.slice none 0 0) := by
  apply List.ext_getElem?
  intro i
  by_cases hi : i < n
  ·rw [hds_get _ _ _ _ _ hi]; simp [hi]
  ·rw [List.getElem?_eq_none (by rw [hds_len]; omega), List.getElem?_eq_none (by simp; omega)]
 rw [e]
 exact h
end
def MatAt (w : World) (a : Option Addr) (n : Nat) (L : Nat → Nat) (Z : Nat → Nat → Int) : Prop :=
 ∀ i, i < n → ∃ b off ai ci, a = some ⟨b, off, none⟩ ∧ w.cell? ⟨b, off + i, none⟩ = some (.slice ai (L i) ci) ∧ IntsAt w ai (L i) (zI (Z i) (L i))
theorem MatAt.below {w w' : World} {a : Option Addr} {n : Nat} {L : Nat → Nat} {Z : Nat → Nat → Int} (h : MatAt w a n L Z) (hb : Below w.heap.size w w') : MatAt w' a n L Z := fun i hi => by
 obtain ⟨b, off, ai, ci, e, hc, hr⟩ := h i hi
 exact ⟨b, off, ai, ci, e, (hb.cell (p := ⟨b, off + i, none⟩) (block_lt_of_cell hc)).trans hc, hr.below hb⟩
theorem own_ints {w : World} {B T n c : Nat} {a : Option Addr} {z : Nat → Int} (h : w.ownsRow B T 1 (.slice a n c) n ((zI z n).map (Value.int .i64))) : IntsAt w a n (zI z n) := by
 rcases own_shape h with ⟨rfl, rfl, rfl⟩ | ⟨g, cur, rfl, _⟩
 ·exact ⟨zI_len _ _, fun i hi => by omega⟩
 ·exact ownsRow.ints h
theorem MatZ.at {T TT : Nat} {w : World} {B E : Nat} {a : Option Addr} {n cap : Nat} {A : Nat → Option Addr} {L C : Nat → Nat} {Z : Nat → Nat → Int} (h : MatZ .i64 T TT w B E a n cap A L C Z) : MatAt w a n L Z := by
 intro i hi
 obtain ⟨G, rfl⟩ := h.addr (by omega)
 exact ⟨G, 0, A i, C i, rfl, by rw [Nat.zero_add]; exact h.hdr hi, own_ints (h.row i hi)⟩
end Go.Proofs.YtgooamiggebibaaGreatDoor
namespace Go.Proofs.YtgooamiggebibaaGreatDoor
open Go.Proofs.YtgooamiggebibaaGreatDoor.Gp (m m_lt m_comm m_assoc m_xor xor_m m_zero zero_m m_one one_m m_nat m_ne xor_self xor_left xor_can xor_eq xor_lt)
def txt (f : Nat → Nat) (l : Nat) : ByteArray := strOfNums (eI f l)
theorem txt_size (f : Nat → Nat) (l : Nat) : (txt f l).size = l := by unfold txt; rw [strOfNums_size, eI_len]
theorem tat_txt {f : Nat → Nat} {l k : Nat} (hk : k < l) (hf : f k < 256) : tat (txt f l) k = f k := by
 unfold txt
 rw [tat_str, eI_getD _ _ _ hk, Int.toNat_natCast, Nat.mod_eq_of_lt hf]
theorem txt_congr {f g : Nat → Nat} {l : Nat} (h : ∀ i, i < l → f i = g i) : txt f l = txt g l := by unfold txt; rw [eI_congr h]
theorem txt_of (s : ByteArray) : txt (tat s) s.size = s := by
 refine str_ext (txt_size _ _) fun k => ?_
 by_cases hk : k < s.size
 ·exact tat_txt hk (tat_lt s k)
 ·rw [tat_out s k hk, tat_out _ k (by rw [txt_size]; exact hk)]
theorem txt_is {s : ByteArray} {f : Nat → Nat} {l : Nat} (hs : s.size = l) (h : ∀ k, k < l → tat s k = f k) : s = txt f l := by
 rw [← txt_of s, hs]
 exact txt_congr h
def blen (s k : Nat) : Nat := (s + 2 + k - 1) / k
theorem blen_ge {s k : Nat} (hk : 1 ≤ k) : s + 2 ≤ k * blen s k := by
 unfold blen
 have := Nat.div_add_mod (s + 2 + k - 1) k
 have h2 := Nat.mod_lt (s + 2 + k - 1) (show k > 0 by omega)
 omega
theorem blen_pos {s k : Nat} (hk : 1 ≤ k) : 1 ≤ blen s k := by
 have := blen_ge (s := s) hk
 rcases Nat.eq_zero_or_pos (blen s k) with h | h
 ·rw [h] at this; omega
 ·exact h
theorem blen_le {s k : Nat} (hk : 1 ≤ k) : blen s k ≤ s + 2 := by
 unfold blen
 rw [Nat.div_le_iff_le_mul_add_pred (by omega)]
 have : s + 2 ≤ k * (s + 2) := Nat.le_mul_of_pos_left _ (by omega)
 omega
def frm (s : ByteArray) (q : Nat) : Nat := if q = 0 then s.size / 256 else if q = 1 then s.size % 256 else tat s (q - 2)
theorem frm_lt {s : ByteArray} (hs : s.size < 65536) (q : Nat) : frm s q < 256 := by
 unfold frm
 split
 ·omega
 ·split
  ·omega
  ·exact tat_lt _ _
theorem frm_out {s : ByteArray} {q : Nat} (h : s.size + 2 ≤ q) : frm s q = 0 := by
 unfold frm
 rw [if_neg (by omega), if_neg (by omega), tat_out _ _ (by omega)]
def pcs (W : Nat → Nat) (l i p : Nat) : Nat := W (i * l + p)
def whl (T : Nat → Nat → Nat) (l q : Nat) : Nat := T (q / l) (q % l)
theorem whl_at {T : Nat → Nat → Nat} {l i p : Nat} (hp : p < l) : whl T l (i * l + p) = T i p := by
 unfold whl
 have h1 : (i * l + p) / l = i := by rw [Nat.mul_comm, Nat.mul_add_div (by omega), Nat.div_eq_of_lt hp, Nat.add_zero]
 have h2 : (i * l + p) % l = p := by rw [Nat.mul_comm, Nat.mul_add_mod, Nat.mod_eq_of_lt hp]
 rw [h1, h2]
theorem whl_byt {T : Nat → Nat → Nat} (h : Gm.Byt T) (l q : Nat) : whl T l q < 256 := h _ _
def bod (k : Nat) (F T : Nat → Nat → Nat) (l i : Nat) : ByteArray := txt (Gm.mp k F T i) l
theorem bod_size (k : Nat) (F T : Nat → Nat → Nat) (l i : Nat) : (bod k F T l i).size = l := txt_size _ _
theorem tat_bod {k : Nat} {F T : Nat → Nat → Nat} {l i p : Nat} (hp : p < l) : tat (bod k F T l i) p = Gm.mp k F T i p := tat_txt hp (Gm.mp_byt _ _ _ _ _)
theorem bod_congr {k : Nat} {F F' T T' : Nat → Nat → Nat} {l i : Nat} (h1 : ∀ t, t < k → F i t = F' i t) (h2 : ∀ t p, t < k → p < l → T t p = T' t p) : bod k F T l i = bod k F' T' l i :=
 txt_congr (fun p hp => Gm.mp_congr h1 (fun t ht => h2 t p ht hp))
def enc (s : ByteArray) (k i p : Nat) : Nat := pcs (frm s) (blen s.size k) i p
theorem bod_first {k : Nat} {T : Nat → Nat → Nat} (hT : Gm.Byt T) {i p : Nat} (hi : i < k) : Gm.mp k (Gm.sprd k) T i p = T i p :=
 Gm.mp_row hi (hT i p) (fun t _ => by unfold Gm.sprd; rw [if_pos hi])
theorem iv_dl {n i j : Nat} {A : Nat → Nat → Nat} (hA : Gm.Byt A) (h : ∀ i j, i < n → j < n → A i j = Gm.dl i j) (hr : Gm.rk A n n = n) (hi : i < n) (hj : j < n) : Gm.iv A n i j = Gm.dl i j := by
 have h1 := (Gm.iv_both hA hr i j hi hj).1
 rw [Gm.mp_congr (A' := Gm.dl) (B' := Gm.iv A n) (fun t ht => h i t hi ht) (fun _ _ => rfl), Gm.mp_dl hi (Gm.iv_byt hA n i j)] at h1
 exact h1
def tells (W : Nat → Nat) (N k : Nat) : Prop := 2 ≤ N ∧ W 0 * 256 + W 1 ≤ 2000 ∧ N = k * blen (W 0 * 256 + W 1) k ∧ ∀ q, W 0 * 256 + W 1 + 2 ≤ q → q < N → W q = 0
def told (W : Nat → Nat) : ByteArray := txt (fun q => W (q + 2)) (W 0 * 256 + W 1)
theorem frm_told {W : Nat → Nat} {N k : Nat} (hW : ∀ q, W q < 256) (h : tells W N k) {q : Nat} (hq : q < N) : frm (told W) q = W q := by
 obtain ⟨_, h2, h3, h4⟩ := h
 have hs : (told W).size = W 0 * 256 + W 1 := txt_size _ _
 have hw0 := hW 0
 have hw1 := hW 1
 unfold frm
 by_cases e0 : q = 0
 ·subst e0
  rw [if_pos rfl, hs]
  omega
 ·rw [if_neg e0]
  by_cases e1 : q = 1
  ·subst e1
   rw [if_pos rfl, hs]
   omega
  ·rw [if_neg e1]
   by_cases e2 : q < W 0 * 256 + W 1 + 2
   ·unfold told
    rw [tat_txt (f := fun q => W (q + 2)) (by omega) (hW _)]
    show W (q - 2 + 2) = W q
    rw [show q - 2 + 2 = q by omega]
   ·have hno : ¬ q - 2 < W 0 * 256 + W 1 := by clear h3 h4 hs; omega
    have hge : W 0 * 256 + W 1 + 2 ≤ q := Nat.le_of_not_lt e2
    rw [tat_out (told W) (q - 2) (by rw [hs]; exact hno), h4 q hge hq]
theorem tells_iff {W : Nat → Nat} {l k : Nat} (hW : ∀ q, W q < 256) (hk : 1 ≤ k) (h0 : 2 ≤ k * l) (h1 : W 0 * 256 + W 1 ≤ 2000) :
  tells W (k * l) k ↔ (blen (W 0 * 256 + W 1) k = l ∧ ∀ q, q < k * l → frm (told W) q = W q) := by
 constructor
 ·intro h
  refine ⟨?_, fun q hq => frm_told hW h hq⟩
  have := h.2.2.1
  exact (Nat.eq_of_mul_eq_mul_left (by omega) this).symm
 ·rintro ⟨h3, h4⟩
  refine ⟨h0, h1, by rw [h3], fun q hq hq2 => ?_⟩
  rw [← h4 q hq2]
  exact frm_out (by unfold told; rw [txt_size]; omega)
end Go.Proofs.YtgooamiggebibaaGreatDoor
namespace Go.Proofs.YtgooamiggebibaaGreatDoor
theorem Tryz.infoInts : (Tryz.prog.info? 23).map (fun i => (i.zero, i.size, i.bytes)) = some (some (.slice none 0 0), 1, 24) := by kernel_rfl
abbrev MatI (w : World) (B E : Nat) (a : Option Addr) (n cap : Nat) (A : Nat → Option Addr) (L C : Nat → Nat) (Z : Nat → Nat → Int) : Prop := MatZ .i64 3 23 w B E a n cap A L C Z
theorem tiNe : (3 : Nat) ≠ 23 := by decide
theorem Tryz.infoElems : (Tryz.prog.info? 223).map (fun i => (i.zero, i.size, i.bytes)) = some (some (.slice none 0 0), 1, 24) := by kernel_rfl
abbrev MatU (w : World) (B E : Nat) (a : Option Addr) (n cap : Nat) (A : Nat → Option Addr) (L C : Nat → Nat) (Z : Nat → Nat → Int) : Prop := MatZ .u8 179 223 w B E a n cap A L C Z
theorem teNe : (179 : Nat) ≠ 223 := by decide
def side (n : Int) : Bool := decide (1 ≤ n ∧ n ≤ 16)
theorem side_nat (n : Nat) : side (n : Int) = decide (1 ≤ n ∧ n ≤ 16) := by
 unfold side
 congr 1
 simp only [eq_iff_iff]
 omega
theorem isSide_any (n : Int) (w : World) : Calls Tryz.prog 160 #[.int .i64 n] w fun e w' => e = .returned (.bool (side n)) ∧ w' = w := by
 go_enter Tryz.func160, Tryz.ntmps160
 go_wp2
 ·go_ret
  exact ⟨ret_bool (by simp [side, *]), rfl⟩
 ·go_ret
  exact ⟨ret_bool (by simp [side]; omega), rfl⟩
theorem unitAt_any (i j : Nat) (w : World) : Calls Tryz.prog 162 #[.int .i64 (i : Int), .int .i64 (j : Int)] w fun e w' => e = .returned (.int .u8 ((Gm.dl i j : Nat) : Int)) ∧ w' = w := by
 by_cases h : i = j
 ·subst h
  rw [Gm.dl_self]
  go_enter Tryz.func162, Tryz.ntmps162
  go_wp2
  go_ret
  exact ⟨rfl, rfl⟩
 ·have h' : ((i : Int) == (j : Int)) = false := by simp; omega
  rw [Gm.dl_ne h]
  go_enter Tryz.func162, Tryz.ntmps162
  go_wp2
  go_ret
  exact ⟨rfl, rfl⟩
def FillBy (g : Nat) (lb : Array Value) (r c : Nat) (F : Nat → Nat → Nat) (w : World) : Prop :=
 ∀ (W : World) (i j : Nat), Below w.heap.size w W → i < r → j < c → Calls Tryz.prog g (#[.int .i64 (i : Int), .int .i64 (j : Int)] ++ lb) W fun e w' => e = .returned (.int .u8 ((F i j : Nat) : Int)) ∧ Below W.heap.size W w'
theorem filled_any (g : Nat) (lb : Array Value) (eg : ∀ args w, (callFunc g args).run Tryz.prog w = .ok (.enter g args) w) (r c : Nat) (F : Nat → Nat → Nat) (w : World) (hp : FillBy g lb r c F w) (hF : ∀ i j, F i j < 256) (hr : r ≤ 1048576) (hc : c ≤ 1048576) :
  Calls Tryz.prog 156 #[.int .i64 (r : Int), .int .i64 (c : Int), .func (.func g) #[] lb] w fun e w' => e = .returned (.slice (some ⟨w.heap.size, 0, none⟩) r r) ∧ (∃ A, MatI w' w.heap.size w'.heap.size (some ⟨w.heap.size, 0, none⟩) r r A (fun _ => c) (fun _ => c) (fun i j => ((F i j : Nat) : Int))) ∧ Below w.heap.size w w' := by
 obtain ⟨i0, hi, hz0, hz1, hz2⟩ := info_parts Tryz.infoInts
 obtain ⟨j0, hj, hy0, hy1, hy2⟩ := info_parts Tryz.infoInt
 go_enter Tryz.func156, Tryz.ntmps156
 go_wp2_with (at_make; refine wpList_make_full _ rfl _ _ 136 rfl w.heap.size 23 i0 (.slice none 0 0) 1 Tryz.underlying136 hi hz0 hz1 .i64 .i64 _ _ r rfl rfl rfl rfl (by rw [hz2]; omega) (by unfold maxLen; omega) (Nat.le_refl _) ?_; intro w1 hown hgrow)
 have hb1 : Below w.heap.size w w1 := (Below.refl _ _).grown hgrow (Nat.le_refl _) (by simp)
 have hlt1 := (World.ownsRow.lt hown _ rfl).2
 have ho1 : MatI w1 w.heap.size w1.heap.size (some ⟨w.heap.size, 0, none⟩) r r (fun _ => none) (fun i => if i < 0 then c else 0) (fun i => if i < 0 then c else 0) (fun i j => ((F i j : Nat) : Int)) :=
  (MatZ.made (by simpa [Value.cells, toList_madeCells_one] using hown) hlt1 _).congr (fun i _ => ⟨rfl, by simp, by simp, fun j hj => rfl⟩)
 have KO : Hid _ := ho1
 have KB : Hid (Below w.heap.size w w1) := hb1
 clear hown hgrow hlt1 ho1 hb1 hi hz0 hz1 hz2
 go_loopw [14] (fun i wr => ∃ k A, k ≤ r ∧ i = .int .i64 ((k : Nat) : Int) ∧ MatI wr w.heap.size wr.heap.size (some ⟨w.heap.size, 0, none⟩) r r A (fun i => if i < k then c else 0) (fun i => if i < k then c else 0) (fun i j => ((F i j : Nat) : Int)) ∧ (∀ i, k ≤ i → A i = none) ∧ Below w.heap.size w wr) (fun i _ => r - (intOf i).toNat)
 case atStart => exact ⟨0, _, Nat.zero_le _, rfl, KO.out, fun _ _ => rfl, KB.out⟩
 case round =>
  obtain ⟨k, A, hk, rfl, hown, hAn, hbel⟩ := hrel
  clear KO KB
  by_cases hlt : k < r
  ·have hlti : (k : Int) < (r : Int) := by omega
   have KA : Hid _ := hAn
   have KM : Hid (MatI wr w.heap.size wr.heap.size (some ⟨w.heap.size, 0, none⟩) r r A (fun i => if i < k then c else 0) (fun i => if i < k then c else 0) (fun i j => ((F i j : Nat) : Int))) := hown
   have KB : Hid (Below w.heap.size w wr) := hbel
   have hsz := hbel.size
   have hGlt := hown.olt.2
   have hold0 := hown.hdr hlt
   have hfr0 := hown.ofree k
   simp only [Nat.lt_irrefl, if_false] at hold0
   clear hAn hown hbel
   go_wp2_with (at_make; refine wpList_make_full _ rfl _ _ 23 rfl wr.heap.size 3 j0 (.int .i64 0) 1 Tryz.underlying23 hj hy0 hy1 .i64 .i64 _ _ c rfl rfl rfl rfl (by rw [hy2]; omega) (by unfold maxLen; omega) (Nat.le_refl _) ?_; intro w2 hown2 hgrow2; have hb2 : Below wr.heap.size wr w2 := (Below.refl _ _).grown hgrow2 (Nat.le_refl _) (by simp); have hold2 := (hb2.cell (p := ⟨w.heap.size, k, none⟩) hGlt).trans hold0; have hfr2 := (World.frozen?_of_block (a := ⟨w.heap.size, k, none⟩) (hb2.block _ hGlt)).trans hfr0)
   have ho2 : w2.ownsRow wr.heap.size 3 1 (.slice (some ⟨wr.heap.size, 0, none⟩) c c) c ((zI (fun _ => 0) c).map (Value.int .i64)) := by
    rw [zI_const c 0 (fun _ _ => rfl)]
    simpa [Value.cells, toList_madeCells_one] using hown2
   have hSR := ((KM.out.below hb2).wide hb2.size).setRow tiNe hlt (own_base ho2 hsz) (World.ownsRow.lt ho2 _ rfl).2 (fun j hj _ x ex => by have := KM.out.rE j hj x ex; exact Nat.ne_of_lt this)
   obtain ⟨A', KA'⟩ : ∃ A', Hid (A' = fun i => if i = k then some ⟨wr.heap.size, 0, none⟩ else A i) := ⟨_, rfl⟩
   obtain ⟨g1, hg1⟩ : ∃ g1, wr.heap.size = g1 := ⟨_, rfl⟩
   rw [hg1] at hSR KA' ⊢
   obtain ⟨w3, hw3⟩ : ∃ w3, w2.setCell ⟨w.heap.size, k, none⟩ (.slice (some ⟨g1, 0, none⟩) c c) = w3 := ⟨_, rfl⟩
   rw [hw3] at hSR ⊢
   have hA'k : A' k = some ⟨g1, 0, none⟩ := by rw [KA'.out]; simp
   have KS : Hid (MatI w3 w.heap.size w3.heap.size (some ⟨w.heap.size, 0, none⟩) r r A' (fun i => if i < k + 1 then c else 0) (fun i => if i < k + 1 then c else 0) (fun i j => if i = k ∧ 0 ≤ j then 0 else ((F i j : Nat) : Int))) :=
    (hSR.1.wide hSR.2.size).congr (fun i _ => by
     rw [KA'.out]
     by_cases e : i = k
     ·subst e; simp
     ·by_cases e2 : i < k
      ·simp [e, e2, show i < k + 1 by omega]
      ·simp [e, e2, show ¬ i < k + 1 by omega])
   have KB2 : Hid (Below w.heap.size w w3) := by
    rw [← hw3]
    exact (below2 KB.out hb2).setCell (Nat.le_refl _) _
   clear hSR hw3 ho2 hown2 hgrow2 hb2 hold2 hfr2 hold0 hfr0 KM KB hGlt
   go_loopw [27] (fun j wr => ∃ q : Nat, q ≤ c ∧ j = .int .i64 (q : Int) ∧ MatI wr w.heap.size wr.heap.size (some ⟨w.heap.size, 0, none⟩) r r A' (fun i => if i < k + 1 then c else 0) (fun i => if i < k + 1 then c else 0) (fun i j => if i = k ∧ q ≤ j then 0 else ((F i j : Nat) : Int)) ∧ Below w.heap.size w wr) (fun j _ => c - (intOf j).toNat)
   case atStart => exact ⟨0, Nat.zero_le _, rfl, KS.out, KB2.out⟩
   case round =>
    obtain ⟨q, hq, rfl, hM, hbel⟩ := hrel
    clear KS KB2
    by_cases hqc : q < c
    ·have hqci : (q : Int) < (c : Int) := by omega
     have hhd := hM.hdr hlt
     rw [hA'k] at hhd
     simp only [Nat.lt_succ_self, if_true] at hhd
     have hel := hM.elt (j := q) hlt hA'k (by simp only [Nat.lt_succ_self, if_true]; exact hqc)
     simp only [Nat.le_refl, and_self, if_true] at hel
     have hcall := hp wr.drew k q ⟨hbel.os, hbel.tape, hbel.output, hbel.size, hbel.block⟩ hlt hqc
     have hFkq := hF k q
     have hGl := hM.olt.2
     have hgl := (hM.glt hlt hA'k).2
     have KM : Hid (MatI wr w.heap.size wr.heap.size (some ⟨w.heap.size, 0, none⟩) r r A' (fun i => if i < k + 1 then c else 0) (fun i => if i < k + 1 then c else 0) (fun i j => if i = k ∧ q ≤ j then 0 else ((F i j : Nat) : Int))) := hM
     have KP : Hid (FillBy g lb r c F w) := hp
     have KF : Hid (∀ i j, F i j < 256) := hF
     have KB : Hid (Below w.heap.size w wr) := hbel
     have hfr := hM.free hlt hA'k q
     clear hM hp hF hbel
     generalize hX : F k q = X at hcall hFkq
     have KX : Hid (F k q = X) := hX
     clear hX
     go_wp2_with fail
     go_region_with ((go_at_fn g; refine Calls.mono hcall ?_; rintro e w5 ⟨rfl, hb5'⟩; have hb5 := below_of_drew hb5'; clear hb5'; have hhd5 := (hb5.cell (p := ⟨w.heap.size, k, none⟩) hGl).trans hhd; have hel5 := (hb5.cell (p := ⟨g1, q, none⟩) hgl).trans hel; have hfr5 := (World.frozen?_of_block (a := ⟨g1, q, none⟩) (hb5.block _ hgl)).trans hfr))
     all_goals
      have hwx : IntKind.i64.wrap (X : Int) = (X : Int) := by rw [IntKind.wrap_i64]; omega
      rw [hwx]
      have hSE := ((KM.out.below hb5).wide hb5.size).setElt tiNe (j := q) hlt hA'k (by simp only [Nat.lt_succ_self, if_true]; exact hqc) (X : Int)
      have HS : Hid (MatI (w5.setCell ⟨g1, q, none⟩ (.int .i64 (X : Int))) w.heap.size (w5.setCell ⟨g1, q, none⟩ (.int .i64 (X : Int))).heap.size (some ⟨w.heap.size, 0, none⟩) r r A' (fun i => if i < k + 1 then c else 0) (fun i => if i < k + 1 then c else 0) (fun i j => if i = k ∧ q + 1 ≤ j then 0 else ((F i j : Nat) : Int))) :=
       (hSE.1.wide hSE.2.size).congr (fun i _ => ⟨rfl, rfl, rfl, fun j _ => by
        by_cases e : i = k
        ·subst e
         by_cases e2 : j = q
         ·subst e2
          rw [if_pos ⟨rfl, rfl⟩, if_neg (by omega), KX.out]
         ·rw [if_neg (by omega)]
          by_cases e3 : q ≤ j
          ·rw [if_pos ⟨rfl, e3⟩, if_pos ⟨rfl, by omega⟩]
          ·rw [if_neg (by omega), if_neg (by omega)]
        ·rw [if_neg (by omega), if_neg (by omega), if_neg (by omega)]⟩)
      have HB : Hid (Below w.heap.size w (w5.setCell ⟨g1, q, none⟩ (.int .i64 (X : Int)))) := (below2 KB.out hb5).setCell (show w.heap.size ≤ g1 by omega) _
      clear hSE hcall
      go_wp2
      go_roundw
      case rel => exact ⟨q + 1, by omega, by go_num, HS.out, HB.out⟩
      case measure => simp [intOf] <;> omega
    ·obtain rfl : q = c := by omega
     have KM : Hid (MatI wr w.heap.size wr.heap.size (some ⟨w.heap.size, 0, none⟩) r r A' (fun i => if i < k + 1 then q else 0) (fun i => if i < k + 1 then q else 0) (fun i j => if i = k ∧ q ≤ j then 0 else ((F i j : Nat) : Int))) := hM
     have KP : Hid (FillBy g lb r q F w) := hp
     clear hM hp
     go_wp2
     go_roundw
     case rel => exact ⟨k + 1, A', by omega, by go_num, KM.out.congr (fun i hi => ⟨rfl, rfl, rfl, fun j hj => by
      rw [if_neg]
      intro h
      by_cases e : i < k + 1
      ·rw [if_pos e] at hj; omega
      ·omega⟩), fun i hi => by rw [KA'.out]; simp [show i ≠ k by omega, KA.out i (by omega)], hbel⟩
     case measure => simp [intOf] <;> omega
  ·obtain rfl : k = r := by omega
   have KM : Hid _ := hown
   clear hown hAn hp
   go_wp2
   go_ret
   exact ⟨rfl, ⟨A, KM.out.congr (fun i hi => ⟨rfl, if_pos hi, if_pos hi, fun j _ => rfl⟩)⟩, hbel⟩
def OkM (n : Nat) (L : Nat → Nat) (Z : Nat → Nat → Int) : Prop := 1 ≤ n ∧ n ≤ 16 ∧ 1 ≤ L 0 ∧ L 0 ≤ 16 ∧ ∀ i, i < n → L i = L 0 ∧ ∀ j, j < L 0 → isB (Z i j) = true
def cZ (Z : Nat → Nat → Int) (i j : Nat) : Nat := (Z i j).toNat
theorem readE_z (z : Nat → Int) (n : Nat) {w : World} {B g : Nat} (h : OwnU w B g n n (coP (zI z n))) : w.ownsRow B 179 1 (.slice (some ⟨g, 0, none⟩) n n) n ((zI (fun j => (((z j).toNat : Nat) : Int)) n).map (Value.int .u8)) := by
 unfold OwnU at h
 rw [eI_zI, zI_congr (g := fun j => (((z j).toNat : Nat) : Int)) (fun j hj => by unfold coP; rw [zI_getD z n j hj])] at h
 exact h
theorem readM_yes (a : Option Addr) (n cap : Nat) (L : Nat → Nat) (Z : Nat → Nat → Int) (w : World) (h : MatAt w a n L Z) (ok : OkM n L Z) :
  Calls Tryz.prog 155 #[.slice a n cap] w fun e w' => e = .returned (.tuple #[.slice (some ⟨w.heap.size, 0, none⟩) n n, .bool true]) ∧ (∃ g : Nat → Nat, MatU w' w.heap.size w'.heap.size (some ⟨w.heap.size, 0, none⟩) n n (fun i => some ⟨g i, 0, none⟩) (fun _ => L 0) (fun _ => L 0) (fun i j => ((cZ Z i j : Nat) : Int))) ∧ Below w.heap.size w w' := by
 obtain ⟨i0, hi, hz0, hz1, hz2⟩ := info_parts Tryz.infoElems
 obtain ⟨hn1, hn2, hl1, hl2, hall⟩ := ok
 obtain ⟨b0, off0, ai0, ci0, e0, hc0, _⟩ := h 0 (by omega)
 subst e0
 rw [Nat.add_zero] at hc0
 obtain ⟨l, hl⟩ : ∃ l, L 0 = l := ⟨_, rfl⟩
 rw [hl] at hc0 hl1 hl2 hall ⊢
 have hs1 : side (n : Int) = true := by rw [side_nat]; simp; omega
 have hs2 : side (l : Int) = true := by rw [side_nat]; simp; omega
 have hn1' : (1 : Int) ≤ (n : Int) := by omega
 have hb0 := block_lt_of_cell hc0
 have KH : Hid (MatAt w (some ⟨b0, off0, none⟩) n L Z) := h
 have KA : Hid _ := hall
 clear h hall hl
 go_enter Tryz.func155, Tryz.ntmps155
 go_wp2_with (first | (go_at_call 160; refine (isSide_any _ _).mono ?_; rintro e w' ⟨rfl, hw⟩; obtain rfl := hw.symm) | (at_make; refine wpList_make_full _ rfl _ _ 220 rfl w.heap.size 223 i0 (.slice none 0 0) 1 Tryz.underlying220 hi hz0 hz1 .i64 .i64 _ _ n rfl rfl rfl rfl (by rw [hz2]; omega) (by unfold maxLen; omega) (Nat.le_refl _) ?_; intro w1 hown hgrow))
 have hb1 : Below w.heap.size w w1 := (Below.refl _ _).grown hgrow (Nat.le_refl _) (by simp)
 have hlt1 := (World.ownsRow.lt hown _ rfl).2
 have KO : Hid (MatU w1 w.heap.size w1.heap.size (some ⟨w.heap.size, 0, none⟩) n n (fun i => if i < 0 then some ⟨0, 0, none⟩ else none) (fun i => if i < 0 then l else 0) (fun i => if i < 0 then l else 0) (fun i j => ((cZ Z i j : Nat) : Int))) :=
  (MatZ.made (by simpa [Value.cells, toList_madeCells_one] using hown) hlt1 _).congr (fun i _ => ⟨by simp, by simp, by simp, fun j hj => rfl⟩)
 have KB : Hid (Below w.heap.size w w1) := hb1
 clear hown hgrow hlt1 hb1 hi hz0 hz1 hz2
 go_loopw [26] (fun i wr => ∃ (k : Nat) (g : Nat → Nat), k ≤ n ∧ i = .int .i64 ((k : Nat) : Int) ∧ MatU wr w.heap.size wr.heap.size (some ⟨w.heap.size, 0, none⟩) n n (fun i => if i < k then some ⟨g i, 0, none⟩ else none) (fun i => if i < k then l else 0) (fun i => if i < k then l else 0) (fun i j => ((cZ Z i j : Nat) : Int)) ∧ Below w.heap.size w wr) (fun i _ => n - (intOf i).toNat)
 case atStart => exact ⟨0, fun _ => 0, Nat.zero_le _, rfl, KO.out, KB.out⟩
 case round =>
  obtain ⟨k, g, hk, rfl, hown, hbel⟩ := hrel
  clear KO KB
  by_cases hlt : k < n
  ·have hlti : (k : Int) < (n : Int) := by omega
   obtain ⟨b, off, ai, ci, eb, hc, hr⟩ := KH.out.below hbel k hlt
   cases eb
   have hLk := (KA.out k hlt).1
   have hBk := (KA.out k hlt).2
   rw [hLk] at hc hr
   have hc0' := (hbel.cell (p := ⟨b0, off0, none⟩) hb0).trans hc0
   have hrd := readE_yes ai l ci (zI (Z k) l) wr hr (by omega) (fun i hi => by rw [zI_getD _ _ _ hi]; exact hBk i hi)
   have KM : Hid (MatU wr w.heap.size wr.heap.size (some ⟨w.heap.size, 0, none⟩) n n (fun i => if i < k then some ⟨g i, 0, none⟩ else none) (fun i => if i < k then l else 0) (fun i => if i < k then l else 0) (fun i j => ((cZ Z i j : Nat) : Int))) := hown
   have KR : Hid _ := hrd
   have KB : Hid (Below w.heap.size w wr) := hbel
   clear hown hrd hBk hr hLk hc0
   go_wp2_with fail
   refine Calls.mono KR.out ?_
   rintro e w2 ⟨rfl, ho2, hb2⟩
   have hM := (KM.out.below hb2).wide hb2.size
   have hold := hM.hdr hlt
   have hfr := hM.ofree k
   simp only [Nat.lt_irrefl, if_false] at hold
   have hsz := hbel.size
   have hSR := hM.setRow teNe hlt (own_base (readE_z (Z k) l ho2) hsz) (OwnU.lt ho2).2 (fun j hj _ x ex => by have := KM.out.rE j hj x ex; exact Nat.ne_of_lt this)
   have HS : Hid (MatU (w2.setCell ⟨w.heap.size, k, none⟩ (.slice (some ⟨wr.heap.size, 0, none⟩) l l)) w.heap.size (w2.setCell ⟨w.heap.size, k, none⟩ (.slice (some ⟨wr.heap.size, 0, none⟩) l l)).heap.size (some ⟨w.heap.size, 0, none⟩) n n (fun i => if i < k + 1 then some ⟨(fun i => if i = k then wr.heap.size else g i) i, 0, none⟩ else none) (fun i => if i < k + 1 then l else 0) (fun i => if i < k + 1 then l else 0) (fun i j => ((cZ Z i j : Nat) : Int))) :=
    (hSR.1.wide hSR.2.size).congr (fun i _ => by
     by_cases e : i = k
     ·subst e; simp [cZ]
     ·by_cases e2 : i < k
      ·simp [e, e2, show i < k + 1 by omega]
      ·simp [e, e2, show ¬ i < k + 1 by omega])
   have HB : Hid (Below w.heap.size w (w2.setCell ⟨w.heap.size, k, none⟩ (.slice (some ⟨wr.heap.size, 0, none⟩) l l))) := (below2 KB.out hb2).setCell (Nat.le_refl _) _
   clear hM ho2 hb2 hbel hSR KM KR
   go_wp2
   go_roundw
   case rel => exact ⟨k + 1, _, by omega, by go_num, HS.out, HB.out⟩
   case measure => simp [intOf] <;> omega
  ·obtain rfl : k = n := by omega
   have KM : Hid (MatU wr w.heap.size wr.heap.size (some ⟨w.heap.size, 0, none⟩) k k (fun i => if i < k then some ⟨g i, 0, none⟩ else none) (fun i => if i < k then l else 0) (fun i => if i < k then l else 0) (fun i j => ((cZ Z i j : Nat) : Int))) := hown
   clear hown
   go_wp2
   go_ret2
   exact ⟨rfl, ⟨g, KM.out.congr (fun i hi => ⟨if_pos hi, if_pos hi, if_pos hi, fun j _ => rfl⟩)⟩, hbel⟩
theorem OkM.not {n : Nat} {L : Nat → Nat} {Z : Nat → Nat → Int} (h : ¬ OkM n L Z) (h1 : 1 ≤ n) (h2 : n ≤ 16) (h3 : 1 ≤ L 0) (h4 : L 0 ≤ 16) : ∃ q, q < n ∧ ¬ (L q = L 0 ∧ ∀ j, j < L 0 → isB (Z q j) = true) := by
 refine Classical.byContradiction fun hno => h ⟨h1, h2, h3, h4, fun i hi => ?_⟩
 exact Classical.byContradiction fun hc => hno ⟨i, hi, hc⟩
theorem readM_no (a : Option Addr) (n cap : Nat) (L : Nat → Nat) (Z : Nat → Nat → Int) (w : World) (h : MatAt w a n L Z) (hL : ∀ i, i < n → L i ≤ 1048576) (ok : ¬ OkM n L Z) :
  Calls Tryz.prog 155 #[.slice a n cap] w fun e w' => e = .returned (.tuple #[.slice none 0 0, .bool false]) ∧ Below w.heap.size w w' := by
 obtain ⟨i0, hi, hz0, hz1, hz2⟩ := info_parts Tryz.infoElems
 by_cases hn : 1 ≤ n ∧ n ≤ 16
 ·obtain ⟨hn1, hn2⟩ := hn
  obtain ⟨b0, off0, ai0, ci0, e0, hc0, _⟩ := h 0 (by omega)
  subst e0
  rw [Nat.add_zero] at hc0
  have hs1 : side (n : Int) = true := by rw [side_nat]; simp; omega
  have hn1' : (1 : Int) ≤ (n : Int) := by omega
  have hb0 := block_lt_of_cell hc0
  by_cases hl : 1 ≤ L 0 ∧ L 0 ≤ 16
  ·obtain ⟨hl1, hl2⟩ := hl
   obtain ⟨q, hq, hbad⟩ := OkM.not ok hn1 hn2 hl1 hl2
   obtain ⟨l, hl⟩ : ∃ l, L 0 = l := ⟨_, rfl⟩
   rw [hl] at hc0 hl1 hl2 hbad
   have hs2 : side (l : Int) = true := by rw [side_nat]; simp; omega
   have KH : Hid (MatAt w (some ⟨b0, off0, none⟩) n L Z) := h
   have KL : Hid _ := hL
   have KB : Hid _ := hbad
   clear h hl hL hbad ok
   go_enter Tryz.func155, Tryz.ntmps155
   go_wp2_with (first | (go_at_call 160; refine (isSide_any _ _).mono ?_; rintro e w' ⟨rfl, hw⟩; obtain rfl := hw.symm) | (at_make; refine wpList_make_full _ rfl _ _ 220 rfl w.heap.size 223 i0 (.slice none 0 0) 1 Tryz.underlying220 hi hz0 hz1 .i64 .i64 _ _ n rfl rfl rfl rfl (by rw [hz2]; omega) (by unfold maxLen; omega) (Nat.le_refl _) ?_; intro w1 hown hgrow))
   have hb1 : Below w.heap.size w w1 := (Below.refl _ _).grown hgrow (Nat.le_refl _) (by simp)
   clear hgrow hi hz0 hz1 hz2
   go_loopw [26] (fun i wr => ∃ (k : Nat) (vs : List Value), k ≤ q ∧ i = .int .i64 ((k : Nat) : Int) ∧ wr.ownsRow w.heap.size 223 1 (.slice (some ⟨w.heap.size, 0, none⟩) n n) n vs ∧ Below w.heap.size w wr) (fun i _ => n - (intOf i).toNat)
   case atStart => exact ⟨0, _, Nat.zero_le _, rfl, hown, hb1⟩
   case round =>
    obtain ⟨k, vs, hk, rfl, hown', hbel⟩ := hrel
    clear hown hb1
    have hlt : k < n := by omega
    have hlti : (k : Int) < (n : Int) := by omega
    obtain ⟨b, off, ai, ci, eb, hc, hr⟩ := KH.out.below hbel k hlt
    cases eb
    have hc0' := (hbel.cell (p := ⟨b0, off0, none⟩) hb0).trans hc0
    have hLk := KL.out k hlt
    clear hc0
    by_cases hkl : L k = l
    ·rw [hkl] at hc hr
     by_cases hB : ∀ j, j < l → isB (Z k j) = true
     ·have hkq : k ≠ q := fun e => KB.out (by rw [← e]; exact ⟨hkl, hB⟩)
      have hrd := readE_yes ai l ci (zI (Z k) l) wr hr (by omega) (fun i hi => by rw [zI_getD _ _ _ hi]; exact hB i hi)
      obtain ⟨old, hold⟩ : ∃ v, wr.cell? ⟨w.heap.size, k, none⟩ = some v := by
       rw [hown'.cellAt k (by omega)]
       exact ⟨_, List.getElem?_eq_getElem (by rw [hown'.1]; omega)⟩
      have hfr := hown'.frozenAt k
      have hGlt := (hown'.lt _ rfl).2
      have KR : Hid _ := hrd
      have KW : Hid _ := hown'
      have KE : Hid (Below w.heap.size w wr) := hbel
      clear hrd hB hr hown' hbel
      go_wp2_with fail
      refine Calls.mono KR.out ?_
      rintro e w2 ⟨rfl, _, hb2⟩
      have hold2 := (hb2.cell (p := ⟨w.heap.size, k, none⟩) hGlt).trans hold
      have hfr2 := (World.frozen?_of_block (a := ⟨w.heap.size, k, none⟩) (hb2.block _ hGlt)).trans hfr
      have HS : Hid _ := ((ownsRow_below KW.out hb2).stored k (.slice (some ⟨wr.heap.size, 0, none⟩) l l)).1
      have HB : Hid (Below w.heap.size w (w2.setCell ⟨w.heap.size, k, none⟩ (.slice (some ⟨wr.heap.size, 0, none⟩) l l))) := (below2 KE.out hb2).setCell (Nat.le_refl _) _
      clear hb2 hold hfr KR KW
      go_wp2
      go_roundw
      case rel => exact ⟨k + 1, _, by omega, by go_num, HS.out, HB.out⟩
      case measure => simp [intOf] <;> omega
     ·have hrd := readE_no ai l ci (zI (Z k) l) wr hr (by omega) (by
       refine Classical.byContradiction fun hno => hB fun j hj => ?_
       refine Classical.byContradiction fun hc => hno ⟨j, hj, ?_⟩
       rw [zI_getD _ _ _ hj]
       simpa using hc)
      have KR : Hid _ := hrd
      have KE : Hid (Below w.heap.size w wr) := hbel
      clear hrd hB hr hown' hbel
      go_wp2_with fail
      refine Calls.mono KR.out ?_
      rintro e w2 ⟨rfl, hb2⟩
      go_wp2
      go_ret2
      exact ⟨rfl, below2 KE.out hb2⟩
    ·have hne : ((L k : Int) != (l : Int)) = true := by simp; omega
     generalize L k = lk at hc hne
     clear hown' hr
     go_wp2
     go_ret2
     exact ⟨rfl, hbel⟩
  ·have hs2 : side (L 0 : Int) = false := by rw [side_nat]; simp; omega
   clear h hL ok hl
   generalize L 0 = l at hc0 hs2
   go_enter Tryz.func155, Tryz.ntmps155
   go_wp2_with (go_at_call 160; refine (isSide_any _ _).mono ?_; rintro e w' ⟨rfl, hw⟩; obtain rfl := hw.symm)
   go_ret2
   exact ⟨rfl, Below.refl _ _⟩
 ·have hs1 : side (n : Int) = false := by rw [side_nat]; simp; omega
  clear h hL ok
  go_enter Tryz.func155, Tryz.ntmps155
  go_wp2_with (go_at_call 160; refine (isSide_any _ _).mono ?_; rintro e w' ⟨rfl, hw⟩; obtain rfl := hw.symm)
  go_ret2
  exact ⟨rfl, Below.refl _ _⟩
noncomputable def okM (n : Nat) (L : Nat → Nat) (Z : Nat → Nat → Int) : Bool := @decide (OkM n L Z) (Classical.propDecidable _)
theorem okM_yes {n : Nat} {L : Nat → Nat} {Z : Nat → Nat → Int} (h : OkM n L Z) : okM n L Z = true := by unfold okM; exact @decide_eq_true _ (Classical.propDecidable _) h
theorem okM_no {n : Nat} {L : Nat → Nat} {Z : Nat → Nat → Int} (h : ¬ OkM n L Z) : okM n L Z = false := by unfold okM; exact @decide_eq_false _ (Classical.propDecidable _) h
def ResM (w w' : World) (v : Value) (r c : Nat) (F : Nat → Nat → Nat) : Prop := ∃ a cap A C, v = .slice a r cap ∧ MatI w' w.heap.size w'.heap.size a r cap A (fun _ => c) C (fun i j => ((F i j : Nat) : Int))
theorem ResM.none (w w' : World) (c : Nat) (F : Nat → Nat → Nat) : ResM w w' (.slice none 0 0) 0 c F := ⟨_, _, fun _ => .none, fun _ => 0, rfl, MatZ.nil _ _ _ _ _ _ _ _ _ _⟩
theorem ResM.mk {w w' : World} {a : Option Addr} {r cap c : Nat} {A : Nat → Option Addr} {C : Nat → Nat} {F : Nat → Nat → Nat} {B : Nat} (h : MatI w' B w'.heap.size a r cap A (fun _ => c) C (fun i j => ((F i j : Nat) : Int))) (hB : w.heap.size ≤ B) : ResM w w' (.slice a r cap) r c F :=
 ⟨a, cap, A, C, rfl, ⟨own_base h.out hB, h.oE, fun i hi => own_base (h.row i hi) hB, h.rE, h.apart⟩⟩
theorem spread1_any (kb k i j : Nat) (w : World) (hk : w.cell? ⟨kb, 0, none⟩ = some (.int .i64 (k : Int))) (hi : i < 256) (hj : j < 256) :
  Calls Tryz.prog 161 #[.int .i64 (i : Int), .int .i64 (j : Int), .pointer (some ⟨kb, 0, none⟩)] w fun e w' => e = .returned (.int .u8 ((Gm.sprd k i j : Nat) : Int)) ∧ Below w.heap.size w w' := by
 by_cases h : i < k
 ·have h' : (i : Int) < (k : Int) := by omega
  have HS : Hid (Gm.sprd k i j = Gm.dl i j) := by show _ = _; unfold Gm.sprd; rw [if_pos h]
  go_enter Tryz.func161, Tryz.ntmps161
  go_wp2_with (go_at_call 162; refine (unitAt_any i j _).mono ?_; rintro e w' ⟨rfl, hw⟩; obtain rfl := hw.symm)
  go_ret
  exact ⟨by rw [HS.out] <;> rfl, Below.refl _ _⟩
 ·have h' : ¬ (i : Int) < (k : Int) := by omega
  have HS : Hid (Gm.sprd k i j = Gf.inv (i ^^^ j)) := by show _ = _; unfold Gm.sprd; rw [if_neg h]
  have hx := Gf.xor_lt hi hj
  go_enter Tryz.func161, Tryz.ntmps161
  go_wp2_with (first | (go_at_call 120; refine (plus_any i j _ hi hj).mono ?_; rintro e w' ⟨rfl, hw⟩; obtain rfl := hw.symm) | (go_at_call 163; refine (inverse_any (i ^^^ j) _ hx).mono ?_; rintro e w2 ⟨rfl, hb2⟩))
  go_ret
  exact ⟨by rw [HS.out] <;> rfl, hb2⟩
theorem spreadEnter : ∀ args w, (callFunc 161 args).run Tryz.prog w = .ok (.enter 161 args) w := enters_of Tryz.func161 (by kernel_rfl) rfl
theorem spreadFill (kb k r c : Nat) (w : World) (hk : w.cell? ⟨kb, 0, none⟩ = some (.int .i64 (k : Int))) (hr : r ≤ 256) (hc : c ≤ 256) : FillBy 161 #[.pointer (some ⟨kb, 0, none⟩)] r c (Gm.sprd k) w := fun W i j hb hi hj =>
 spread1_any kb k i j W ((hb.cell (p := ⟨kb, 0, none⟩) (block_lt_of_cell hk)).trans hk) (by omega) (by omega)
theorem boxed (w : World) (v : Value) (t : TypeId) : (w.alloc (.cells #[v] t)).cell? ⟨w.heap.size, 0, none⟩ = some v := cell_of_one (heap_alloc_new w _)
def sprOk (k n : Int) : Bool := side n && decide (1 ≤ k ∧ k ≤ n)
def sprR (k n : Int) : Nat := if sprOk k n = true then n.toNat else 0
theorem spread_any (k n : Int) (w : World) : Calls Tryz.prog 116 #[.int .i64 k, .int .i64 n] w fun e w' => ∃ v, e = .returned (.tuple #[v, .bool (sprOk k n)]) ∧ ResM w w' v (sprR k n) k.toNat (Gm.sprd k.toNat) ∧ Below w.heap.size w w' := by
 have hbx := boxed w (.int .i64 k) 3
 have hb1 : Below w.heap.size w (w.alloc (.cells #[.int .i64 k] 3)) := (Below.refl _ _).alloc (Nat.le_refl _) _
 have hsz : (w.alloc (.cells #[.int .i64 k] 3)).heap.size = w.heap.size + 1 := by simp
 by_cases h1 : side n = true
 ·by_cases h2 : 1 ≤ k
  ·by_cases h3 : k ≤ n
   ·have hr : 1 ≤ n ∧ n ≤ 16 := by simpa [side] using h1
    have hok : sprOk k n = true := by unfold sprOk; rw [h1]; simp; omega
    obtain ⟨N, rfl⟩ : ∃ N : Nat, n = (N : Int) := ⟨n.toNat, by omega⟩
    obtain ⟨K, rfl⟩ : ∃ K : Nat, k = (K : Int) := ⟨k.toNat, by omega⟩
    have hN : sprR (K : Int) (N : Int) = N := by unfold sprR; rw [if_pos hok]; simp
    rw [hN, hok, Int.toNat_natCast]
    have KF : Hid _ := filled_any 161 #[.pointer (some ⟨w.heap.size, 0, none⟩)] spreadEnter N K (Gm.sprd K) _ (spreadFill w.heap.size K N K _ hbx (by omega) (by omega)) (Gm.sprd_byt K) (by omega) (by omega)
    have h2' : ¬ (K : Int) < 1 := by omega
    have h3' : ¬ (K : Int) > (N : Int) := by omega
    obtain ⟨w1, hw1⟩ : ∃ w1, w.alloc (.cells #[.int .i64 (K : Int)] 3) = w1 := ⟨_, rfl⟩
    have KW : Hid (w.alloc (.cells #[.int .i64 (K : Int)] 3) = w1) := hw1
    rw [hw1] at KF hb1 hbx
    clear hw1 hN hok hsz
    go_enter Tryz.func116, Tryz.ntmps116
    go_wp2_with fail
    rw [KW.out]
    refine (isSide_any _ _).mono ?_
    rintro e w' ⟨rfl, hw⟩
    obtain rfl := hw.symm
    go_wp2_with fail
    refine Calls.mono KF.out ?_
    rintro e w2 ⟨rfl, ⟨A, hM⟩, hb2⟩
    have KM : Hid _ := hM
    clear hM
    go_wp2
    go_ret2
    exact ⟨_, rfl, ResM.mk KM.out hb1.size, below2 hb1 hb2⟩
   ·have hok : sprOk k n = false := by unfold sprOk; simp [h3]
    have hN : sprR k n = 0 := by unfold sprR; rw [if_neg (by rw [hok]; simp)]
    rw [hN, hok]
    have h2' : ¬ k < 1 := by omega
    have h3' : k > n := by omega
    clear hok hN
    go_enter Tryz.func116, Tryz.ntmps116
    go_wp2_with fail
    refine (isSide_any _ _).mono ?_
    rintro e w' ⟨rfl, hw⟩
    obtain rfl := hw.symm
    go_wp2
    go_ret2
    exact ⟨_, rfl, ResM.none _ _ _ _, hb1⟩
  ·have hok : sprOk k n = false := by unfold sprOk; simp [h2]
   have hN : sprR k n = 0 := by unfold sprR; rw [if_neg (by rw [hok]; simp)]
   rw [hN, hok]
   have h2' : k < 1 := by omega
   clear hok hN
   go_enter Tryz.func116, Tryz.ntmps116
   go_wp2_with fail
   refine (isSide_any _ _).mono ?_
   rintro e w' ⟨rfl, hw⟩
   obtain rfl := hw.symm
   go_wp2
   go_ret2
   exact ⟨_, rfl, ResM.none _ _ _ _, hb1⟩
 ·have h1' : side n = false := by simpa using h1
  have hok : sprOk k n = false := by unfold sprOk; simp [h1']
  have hN : sprR k n = 0 := by unfold sprR; rw [if_neg (by rw [hok]; simp)]
  rw [hN, hok]
  clear hok hN
  go_enter Tryz.func116, Tryz.ntmps116
  go_wp2_with fail
  refine (isSide_any _ _).mono ?_
  rintro e w' ⟨rfl, hw⟩
  obtain rfl := hw.symm
  go_wp2
  go_ret2
  exact ⟨_, rfl, ResM.none _ _ _ _, hb1⟩
def RdU (w : World) (pb r c : Nat) (F : Nat → Nat → Nat) : Prop :=
 ∃ G cap, w.cell? ⟨pb, 0, none⟩ = some (.slice (some ⟨G, 0, none⟩) r cap) ∧ ∀ i, i < r → ∃ g cc, w.cell? ⟨G, i, none⟩ = some (.slice (some ⟨g, 0, none⟩) c cc) ∧ ∀ j, j < c → w.cell? ⟨g, j, none⟩ = some (.int .u8 ((F i j : Nat) : Int))
theorem RdU.below {w w' : World} {pb r c : Nat} {F : Nat → Nat → Nat} (h : RdU w pb r c F) (hb : Below w.heap.size w w') : RdU w' pb r c F := by
 obtain ⟨G, cap, hp, hr⟩ := h
 refine ⟨G, cap, (hb.cell (p := ⟨pb, 0, none⟩) (block_lt_of_cell hp)).trans hp, fun i hi => ?_⟩
 obtain ⟨g, cc, hc, he⟩ := hr i hi
 exact ⟨g, cc, (hb.cell (p := ⟨G, i, none⟩) (block_lt_of_cell hc)).trans hc, fun j hj => (hb.cell (p := ⟨g, j, none⟩) (block_lt_of_cell (he j hj))).trans (he j hj)⟩
theorem MatU.rd {w w' : World} {B E G r cap c pb : Nat} {g : Nat → Nat} {C : Nat → Nat} {F : Nat → Nat → Nat} (h : MatU w B E (some ⟨G, 0, none⟩) r cap (fun i => some ⟨g i, 0, none⟩) (fun _ => c) C (fun i j => ((F i j : Nat) : Int))) (hb : Below w.heap.size w w') (hp : w'.cell? ⟨pb, 0, none⟩ = some (.slice (some ⟨G, 0, none⟩) r cap)) : RdU w' pb r c F := by
 have h' := h.below hb
 exact ⟨G, cap, hp, fun i hi => ⟨g i, C i, h'.hdr hi, fun j hj => h'.elt hi rfl hj⟩⟩
theorem cZ_byt {n : Nat} {L : Nat → Nat} {Z : Nat → Nat → Int} (ok : OkM n L Z) : ∀ i j, i < n → j < L 0 → cZ Z i j < 256 := fun i j hi hj => by
 obtain ⟨X, hX, e⟩ := isB_nat ((ok.2.2.2.2 i hi).2 j hj)
 unfold cZ
 rw [e]
 simpa using hX
def bZ (n : Nat) (L : Nat → Nat) (Z : Nat → Nat → Int) (i j : Nat) : Nat := if i < n ∧ j < L 0 then cZ Z i j % 256 else 0
theorem bZ_byt (n : Nat) (L : Nat → Nat) (Z : Nat → Nat → Int) : Gm.Byt (bZ n L Z) := fun i j => by unfold bZ; split <;> omega
theorem bZ_eq {n : Nat} {L : Nat → Nat} {Z : Nat → Nat → Int} (ok : OkM n L Z) {i j : Nat} (hi : i < n) (hj : j < L 0) : bZ n L Z i j = cZ Z i j := by
 unfold bZ
 rw [if_pos ⟨hi, hj⟩, Nat.mod_eq_of_lt (cZ_byt ok i j hi hj)]
theorem readM_b (a : Option Addr) (n cap : Nat) (L : Nat → Nat) (Z : Nat → Nat → Int) (w : World) (h : MatAt w a n L Z) (ok : OkM n L Z) :
  Calls Tryz.prog 155 #[.slice a n cap] w fun e w' => e = .returned (.tuple #[.slice (some ⟨w.heap.size, 0, none⟩) n n, .bool true]) ∧ (∃ g : Nat → Nat, MatU w' w.heap.size w'.heap.size (some ⟨w.heap.size, 0, none⟩) n n (fun i => some ⟨g i, 0, none⟩) (fun _ => L 0) (fun _ => L 0) (fun i j => ((bZ n L Z i j : Nat) : Int))) ∧ Below w.heap.size w w' := by
 refine Calls.mono (readM_yes a n cap L Z w h ok) ?_
 rintro e w' ⟨rfl, ⟨g, hM⟩, hb⟩
 exact ⟨rfl, ⟨g, hM.congr (fun i hi => ⟨rfl, rfl, rfl, fun j hj => by rw [bZ_eq ok hi hj]⟩)⟩, hb⟩
theorem mul1_any (pa pb r n c i j : Nat) (F H : Nat → Nat → Nat) (w : World) (ha : RdU w pa r n F) (hb : RdU w pb n c H) (hF : Gm.Byt F) (hH : Gm.Byt H) (hi : i < r) (hj : j < c) (hn : n ≤ 1048576) :
  Calls Tryz.prog 157 #[.int .i64 (i : Int), .int .i64 (j : Int), .pointer (some ⟨pa, 0, none⟩), .pointer (some ⟨pb, 0, none⟩)] w fun e w' => e = .returned (.int .u8 ((Gm.mp n F H i j : Nat) : Int)) ∧ Below w.heap.size w w' := by
 obtain ⟨Ga, ca, hpa, hra⟩ := ha
 obtain ⟨ga, cca, hca, hea⟩ := hra i hi
 have hi' : (i : Int) < (r : Int) := by omega
 have hj' : (j : Int) < (c : Int) := by omega
 have KB : Hid (RdU w pb n c H) := hb
 have KE : Hid _ := hea
 clear hra hea hb
 go_enter Tryz.func157, Tryz.ntmps157
 go_wp2
 go_loopw [7, 15] (fun s p wr => ∃ k V : Nat, k ≤ n ∧ V < 256 ∧ s = .int .u8 (V : Int) ∧ p = .int .i64 (k : Int) ∧ Hid (V = Gm.sm (fun t => Gp.m (F i t) (H t j)) k) ∧ Below w.heap.size w wr) (fun _ p _ => n - (intOf p).toNat)
 case atStart => exact ⟨0, 0, Nat.zero_le _, by omega, rfl, rfl, rfl, Below.refl _ _⟩
 case round =>
  obtain ⟨k, V, hk, hV, rfl, rfl, HV, hbel⟩ := hrel
  by_cases hlt : k < n
  ·have hki : (k : Int) < (n : Int) := by omega
   have hx0 := KE.out k hlt
   have hx := (hbel.cell (p := ⟨ga, k, none⟩) (block_lt_of_cell hx0)).trans hx0
   obtain ⟨Gb, cb, hpb, hrb⟩ := KB.out.below hbel
   obtain ⟨gb, ccb, hcb, heb⟩ := hrb k hlt
   have hy := heb j hj
   clear hx0 heb hrb hca hpa
   have hf := hF i k
   have hh := hH k j
   have HV2 : Hid (V ^^^ Gf.mul (F i k) (H k j) = Gm.sm (fun t => Gp.m (F i t) (H t j)) (k + 1)) := by
    show _ = _
    rw [Gm.sm_s, HV.out, Gp.m_nat hf hh]
   have hml := Gf.mul_lt hf hh
   have hxl : Hid (V ^^^ Gf.mul (F i k) (H k j) < 256) := Gf.xor_lt hV hml
   generalize F i k = x at hx hf HV2 hml hxl
   generalize H k j = y at hy hh HV2 hml hxl
   go_wp2_with (first | (go_at_call 121; refine (times_any x y _ hf hh).mono ?_; rintro e w5 ⟨rfl, hb5⟩) | (go_at_call 120; refine (plus_any V (Gf.mul x y) _ hV hml).mono ?_; rintro e w6 ⟨rfl, hw6⟩; obtain rfl := hw6.symm))
   go_roundw
   case rel => exact ⟨k + 1, _, by omega, hxl.out, rfl, by go_num, HV2.out, below2 hbel hb5⟩
   case measure => simp [intOf] <;> omega
  ·obtain rfl : k = n := by omega
   go_wp2
   go_ret
   exact ⟨by rw [HV.out] <;> rfl, hbel⟩
theorem mulEnter : ∀ args w, (callFunc 157 args).run Tryz.prog w = .ok (.enter 157 args) w := enters_of Tryz.func157 (by kernel_rfl) rfl
theorem mulFill {pa pb r n c : Nat} {F H : Nat → Nat → Nat} {w : World} (ha : RdU w pa r n F) (hb : RdU w pb n c H) (hF : Gm.Byt F) (hH : Gm.Byt H) (hn : n ≤ 1048576) :
  FillBy 157 #[.pointer (some ⟨pa, 0, none⟩), .pointer (some ⟨pb, 0, none⟩)] r c (Gm.mp n F H) w := fun W i j hW hi hj => mul1_any pa pb r n c i j F H W (ha.below hW) (hb.below hW) hF hH hi hj hn
def MulOk (n : Nat) (L : Nat → Nat) (Z : Nat → Nat → Int) (n' : Nat) (L' : Nat → Nat) (Z' : Nat → Nat → Int) : Prop := OkM n L Z ∧ OkM n' L' Z' ∧ L 0 = n'
noncomputable def muOk (n : Nat) (L : Nat → Nat) (Z : Nat → Nat → Int) (n' : Nat) (L' : Nat → Nat) (Z' : Nat → Nat → Int) : Bool := @decide (MulOk n L Z n' L' Z') (Classical.propDecidable _)
theorem muOk_yes {n : Nat} {L : Nat → Nat} {Z : Nat → Nat → Int} {n' : Nat} {L' : Nat → Nat} {Z' : Nat → Nat → Int} (h : MulOk n L Z n' L' Z') : muOk n L Z n' L' Z' = true := by unfold muOk; exact @decide_eq_true _ (Classical.propDecidable _) h
theorem muOk_no {n : Nat} {L : Nat → Nat} {Z : Nat → Nat → Int} {n' : Nat} {L' : Nat → Nat} {Z' : Nat → Nat → Int} (h : ¬ MulOk n L Z n' L' Z') : muOk n L Z n' L' Z' = false := by unfold muOk; exact @decide_eq_false _ (Classical.propDecidable _) h
noncomputable def muR (n : Nat) (L : Nat → Nat) (Z : Nat → Nat → Int) (n' : Nat) (L' : Nat → Nat) (Z' : Nat → Nat → Int) : Nat := if muOk n L Z n' L' Z' = true then n else 0
theorem mulM_any (a : Option Addr) (n cap : Nat) (L : Nat → Nat) (Z : Nat → Nat → Int) (a' : Option Addr) (n' cap' : Nat) (L' : Nat → Nat) (Z' : Nat → Nat → Int) (w : World) (h : MatAt w a n L Z) (h' : MatAt w a' n' L' Z') (hL : ∀ i, i < n → L i ≤ 1048576) (hL' : ∀ i, i < n' → L' i ≤ 1048576) :
  Calls Tryz.prog 113 #[.slice a n cap, .slice a' n' cap'] w fun e w' => ∃ v, e = .returned (.tuple #[v, .bool (muOk n L Z n' L' Z')]) ∧ ResM w w' v (muR n L Z n' L' Z') (L' 0) (Gm.mp n' (bZ n L Z) (bZ n' L' Z')) ∧ Below w.heap.size w w' := by
 by_cases ok : OkM n L Z
 ·have KR : Hid _ := readM_b a n cap L Z w h ok
  have hn : 1 ≤ n ∧ n ≤ 16 ∧ 1 ≤ L 0 ∧ L 0 ≤ 16 := ⟨ok.1, ok.2.1, ok.2.2.1, ok.2.2.2.1⟩
  have hn0' : 0 < n := by omega
  by_cases ok' : OkM n' L' Z'
  ·have hn' : 1 ≤ n' ∧ n' ≤ 16 ∧ 1 ≤ L' 0 ∧ L' 0 ≤ 16 := ⟨ok'.1, ok'.2.1, ok'.2.2.1, ok'.2.2.2.1⟩
   have hn1' : 0 < n' := by omega
   have KR' : Hid (∀ W, Below w.heap.size w W → _) := fun W hW => readM_b a' n' cap' L' Z' W (h'.below hW) ok'
   have hbt := bZ_byt n L Z
   have hbt' := bZ_byt n' L' Z'
   have hmo : MulOk n L Z n' L' Z' ↔ L 0 = n' := ⟨fun hh => hh.2.2, fun hh => ⟨ok, ok', hh⟩⟩
   have hR1 : L 0 = n' → muR n L Z n' L' Z' = n := fun e => by unfold muR; rw [if_pos (muOk_yes (hmo.2 e))]
   have hR2 : L 0 ≠ n' → muR n L Z n' L' Z' = 0 := fun e => by unfold muR; rw [if_neg (by rw [muOk_no (fun hh => e (hmo.1 hh))]; simp)]
   have hO1 : L 0 = n' → muOk n L Z n' L' Z' = true := fun e => muOk_yes (hmo.2 e)
   have hO2 : L 0 ≠ n' → muOk n L Z n' L' Z' = false := fun e => muOk_no (fun hh => e (hmo.1 hh))
   generalize muOk n L Z n' L' Z' = okf at hO1 hO2
   generalize muR n L Z n' L' Z' = R at hR1 hR2
   generalize bZ n L Z = F at KR hbt
   generalize bZ n' L' Z' = H at KR' hbt'
   clear hmo ok ok' h h' hL hL'
   generalize L 0 = l at hn KR hR1 hR2 hO1 hO2
   generalize L' 0 = l' at hn' KR'
   have KT : Hid (Gm.Byt F) := hbt
   have KT' : Hid (Gm.Byt H) := hbt'
   clear hbt hbt'
   by_cases e : l = n'
   ·obtain rfl := hO1 e
    have hRn := (hR1 e).symm
    subst hRn
    subst e
    clear hO1 hO2 hR1 hR2
    go_enter Tryz.func113, Tryz.ntmps113
    go_wp2_with fail
    refine Calls.mono KR.out ?_
    rintro e w2 ⟨rfl, ⟨g, hM⟩, hb2⟩
    have hp := boxed w2 (.slice (some ⟨w.heap.size, 0, none⟩) n n) 220
    have hb3 : Below w2.heap.size w2 (w2.alloc (.cells #[.slice (some ⟨w.heap.size, 0, none⟩) n n] 220)) := (Below.refl _ _).alloc (Nat.le_refl _) _
    have hRd := MatU.rd hM hb3 hp
    have hd0 := (hM.below hb3).hdr (i := 0) (by omega)
    obtain ⟨W, hW⟩ : ∃ W, w2.alloc (.cells #[.slice (some ⟨w.heap.size, 0, none⟩) n n] 220) = W := ⟨_, rfl⟩
    have KW2 : Hid (w2.alloc (.cells #[.slice (some ⟨w.heap.size, 0, none⟩) n n] 220) = W) := hW
    rw [hW] at hp hb3 hRd hd0
    generalize g 0 = g0 at hd0
    have KRd : Hid (RdU W w2.heap.size n l F) := hRd
    have KB : Hid (Below w.heap.size w W) := below2 hb2 hb3
    have hpl := block_lt_of_cell hp
    have hdl := block_lt_of_cell hd0
    have hKR' := KR'.out W KB.out
    clear hM hRd hW hb2 hb3 KR KR'
    go_wp2_with fail
    rw [KW2.out]
    refine Calls.mono hKR' ?_
    rintro e w4 ⟨rfl, ⟨g', hM'⟩, hb4⟩
    have hp' := boxed w4 (.slice (some ⟨W.heap.size, 0, none⟩) l l) 220
    have hb5 : Below w4.heap.size w4 (w4.alloc (.cells #[.slice (some ⟨W.heap.size, 0, none⟩) l l] 220)) := (Below.refl _ _).alloc (Nat.le_refl _) _
    have hRd' := MatU.rd hM' hb5 hp'
    have hd0' := (hM'.below hb5).hdr (i := 0) (by omega)
    have hp2 := ((below2 hb4 hb5).cell (p := ⟨w2.heap.size, 0, none⟩) hpl).trans hp
    have hd2 := ((below2 hb4 hb5).cell (p := ⟨w.heap.size, 0, none⟩) hdl).trans hd0
    generalize g' 0 = g0' at hd0'
    have KRa := KRd.out.below (below2 hb4 hb5)
    have KB5 := below2 KB.out (below2 hb4 hb5)
    clear hM' hb4 hb5 hp hd0 hpl hdl KRd KB KW2 hKR'
    go_wp2_with fail
    generalize w4.alloc (.cells #[.slice (some ⟨W.heap.size, 0, none⟩) l l] 220) = X at *
    go_quiet (fail)
    go_wp2_with fail
    generalize hX2 : X.drewN _ = X2
    have hbX : Below X.heap.size X X2 := by rw [← hX2]; exact below_drewN (Below.refl _ _) _
    have hp3 := (hbX.cell (p := ⟨w2.heap.size, 0, none⟩) (block_lt_of_cell hp2)).trans hp2
    have hd3 := (hbX.cell (p := ⟨w.heap.size, 0, none⟩) (block_lt_of_cell hd2)).trans hd2
    have hp3' := (hbX.cell (p := ⟨w4.heap.size, 0, none⟩) (block_lt_of_cell hp')).trans hp'
    have hd3' := (hbX.cell (p := ⟨W.heap.size, 0, none⟩) (block_lt_of_cell hd0')).trans hd0'
    have KB6 := below2 KB5 hbX
    have hsz6 := KB6.size
    have KF : Hid _ := filled_any 157 #[.pointer (some ⟨w2.heap.size, 0, none⟩), .pointer (some ⟨w4.heap.size, 0, none⟩)] mulEnter n l' (Gm.mp l F H) X2.drew (mulFill ((KRa.below hbX).below ⟨rfl, rfl, rfl, Nat.le_refl _, fun _ _ => rfl⟩) ((hRd'.below hbX).below ⟨rfl, rfl, rfl, Nat.le_refl _, fun _ _ => rfl⟩) KT.out KT'.out (by omega)) (Gm.mp_byt _ _ _) (by omega) (by omega)
    have hq1 := block_lt_of_cell hp3
    have hq2 := block_lt_of_cell hp3'
    have hq3 := block_lt_of_cell hd3'
    clear hX2 hp2 hd2 hp' hd0' KRa hRd' KB5
    go_region_held3 (fun w' => w'.cell? ⟨w2.heap.size, 0, none⟩ = some (.slice (some ⟨w.heap.size, 0, none⟩) n n) ∧ w'.cell? ⟨w4.heap.size, 0, none⟩ = some (.slice (some ⟨W.heap.size, 0, none⟩) l l) ∧ w'.cell? ⟨W.heap.size, 0, none⟩ = some (.slice (some ⟨g0', 0, none⟩) l' l')) (go_keep) ((go_at_call 156; refine Calls.mono KF.out ?_; rintro e w5 ⟨rfl, ⟨A5, hM5⟩, hb5'⟩; have hb5 := below_of_drew hb5'; have KM : Hid _ := hM5; clear hb5' hM5; have hp5 := (hb5.cell (p := ⟨w2.heap.size, 0, none⟩) hq1).trans hp3; have hd5 := (hb5.cell (p := ⟨w4.heap.size, 0, none⟩) hq2).trans hp3'; have hr5 := (hb5.cell (p := ⟨W.heap.size, 0, none⟩) hq3).trans hd3'))
    all_goals
     go_wp2
     go_ret2
     exact ⟨_, rfl, ResM.mk KM.out hsz6, below2 KB6 hb5⟩
   ·obtain rfl := hO2 e
    obtain rfl := hR2 e
    have hne : ((l : Int) != (n' : Int)) = true := by simp; omega
    clear hO1 hO2 hR1 hR2
    go_enter Tryz.func113, Tryz.ntmps113
    go_wp2_with fail
    refine Calls.mono KR.out ?_
    rintro e w2 ⟨rfl, ⟨g, hM⟩, hb2⟩
    have hp := boxed w2 (.slice (some ⟨w.heap.size, 0, none⟩) n n) 220
    have hb3 : Below w2.heap.size w2 (w2.alloc (.cells #[.slice (some ⟨w.heap.size, 0, none⟩) n n] 220)) := (Below.refl _ _).alloc (Nat.le_refl _) _
    have hRd := MatU.rd hM hb3 hp
    have hd0 := (hM.below hb3).hdr (i := 0) (by omega)
    obtain ⟨W, hW⟩ : ∃ W, w2.alloc (.cells #[.slice (some ⟨w.heap.size, 0, none⟩) n n] 220) = W := ⟨_, rfl⟩
    have KW2 : Hid (w2.alloc (.cells #[.slice (some ⟨w.heap.size, 0, none⟩) n n] 220) = W) := hW
    rw [hW] at hp hb3 hRd hd0
    generalize g 0 = g0 at hd0
    have KRd : Hid (RdU W w2.heap.size n l F) := hRd
    have KB : Hid (Below w.heap.size w W) := below2 hb2 hb3
    have hpl := block_lt_of_cell hp
    have hdl := block_lt_of_cell hd0
    have hKR' := KR'.out W KB.out
    clear hM hRd hW hb2 hb3 KR KR'
    go_wp2_with fail
    rw [KW2.out]
    refine Calls.mono hKR' ?_
    rintro e w4 ⟨rfl, ⟨g', hM'⟩, hb4⟩
    have hp' := boxed w4 (.slice (some ⟨W.heap.size, 0, none⟩) n' n') 220
    have hb5 : Below w4.heap.size w4 (w4.alloc (.cells #[.slice (some ⟨W.heap.size, 0, none⟩) n' n'] 220)) := (Below.refl _ _).alloc (Nat.le_refl _) _
    have hRd' := MatU.rd hM' hb5 hp'
    have hd0' := (hM'.below hb5).hdr (i := 0) (by omega)
    have hp2 := ((below2 hb4 hb5).cell (p := ⟨w2.heap.size, 0, none⟩) hpl).trans hp
    have hd2 := ((below2 hb4 hb5).cell (p := ⟨w.heap.size, 0, none⟩) hdl).trans hd0
    generalize g' 0 = g0' at hd0'
    have KRa := KRd.out.below (below2 hb4 hb5)
    have KB5 := below2 KB.out (below2 hb4 hb5)
    clear hM' hb4 hb5 hp hd0 hpl hdl KRd KB KW2 hKR'
    go_wp2_with fail
    generalize w4.alloc (.cells #[.slice (some ⟨W.heap.size, 0, none⟩) n' n'] 220) = X at *
    go_quiet (fail)
    go_wp2
    go_ret2
    exact ⟨_, rfl, ResM.none _ _ _ _, below_drewN KB5 _⟩
  ·have KR' : Hid (∀ W, Below w.heap.size w W → _) := fun W hW => readM_no a' n' cap' L' Z' W (h'.below hW) hL' ok'
   have hO : muOk n L Z n' L' Z' = false := muOk_no (fun hh => ok' hh.2.1)
   have hR : muR n L Z n' L' Z' = 0 := by unfold muR; rw [if_neg (by rw [hO]; simp)]
   rw [hO, hR]
   generalize bZ n L Z = F at KR
   generalize bZ n' L' Z' = H
   clear hO hR ok ok' h h' hL hL'
   generalize L 0 = l at hn KR
   generalize L' 0 = l'
   go_enter Tryz.func113, Tryz.ntmps113
   go_wp2_with fail
   refine Calls.mono KR.out ?_
   rintro e w2 ⟨rfl, _, hb2⟩
   have hb3 : Below w2.heap.size w2 (w2.alloc (.cells #[.slice (some ⟨w.heap.size, 0, none⟩) n n] 220)) := (Below.refl _ _).alloc (Nat.le_refl _) _
   have hKR' := KR'.out _ (below2 hb2 hb3)
   go_wp2_with fail
   refine Calls.mono hKR' ?_
   rintro e w4 ⟨rfl, hb4⟩
   have KB := below2 (below2 (below2 hb2 hb3) hb4) ((Below.refl w4.heap.size w4).alloc (Nat.le_refl _) (.cells #[.slice none 0 0] 220))
   clear hKR' KR KR' hb2 hb3 hb4
   go_wp2_with fail
   generalize w4.alloc (.cells #[.slice none 0 0] 220) = X at *
   go_quiet (fail)
   go_wp2
   go_ret2
   exact ⟨_, rfl, ResM.none _ _ _ _, below_drewN KB _⟩
 ·have KR : Hid _ := readM_no a n cap L Z w h hL ok
  have hO : muOk n L Z n' L' Z' = false := muOk_no (fun hh => ok hh.1)
  have hR : muR n L Z n' L' Z' = 0 := by unfold muR; rw [if_neg (by rw [hO]; simp)]
  rw [hO, hR]
  have KR' : Hid (∀ W, Below w.heap.size w W → Calls Tryz.prog 155 #[.slice a' n' cap'] W fun e w' => ∃ v b, e = .returned (.tuple #[.slice v n' n', .bool b]) ∧ Below W.heap.size W w' ∨ e = .returned (.tuple #[.slice none 0 0, .bool false]) ∧ Below W.heap.size W w') := fun W hW => by
   by_cases ok' : OkM n' L' Z'
   ·refine Calls.mono (readM_b a' n' cap' L' Z' W (h'.below hW) ok') ?_
    rintro e w' ⟨rfl, _, hb⟩
    exact ⟨_, _, .inl ⟨rfl, hb⟩⟩
   ·refine Calls.mono (readM_no a' n' cap' L' Z' W (h'.below hW) hL' ok') ?_
    rintro e w' ⟨rfl, hb⟩
    exact ⟨none, true, .inr ⟨rfl, hb⟩⟩
  clear hO hR ok h h' hL hL'
  generalize bZ n L Z = F
  generalize bZ n' L' Z' = H
  generalize L' 0 = l'
  go_enter Tryz.func113, Tryz.ntmps113
  go_wp2_with fail
  refine Calls.mono KR.out ?_
  rintro e w2 ⟨rfl, hb2⟩
  have hb3 : Below w2.heap.size w2 (w2.alloc (.cells #[.slice none 0 0] 220)) := (Below.refl _ _).alloc (Nat.le_refl _) _
  have hKR' := KR'.out _ (below2 hb2 hb3)
  go_wp2_with fail
  refine Calls.mono hKR' ?_
  rintro e w4 ⟨v, b, ⟨rfl, hb4⟩ | ⟨rfl, hb4⟩⟩
  ·have KB := below2 (below2 (below2 hb2 hb3) hb4) ((Below.refl w4.heap.size w4).alloc (Nat.le_refl _) (.cells #[.slice v n' n'] 220))
   clear hKR' KR KR' hb2 hb3 hb4
   go_wp2_with fail
   generalize w4.alloc (.cells #[.slice v n' n'] 220) = X at *
   go_quiet (fail)
   go_wp2
   go_ret2
   exact ⟨_, rfl, ResM.none _ _ _ _, below_drewN KB _⟩
  ·have KB := below2 (below2 (below2 hb2 hb3) hb4) ((Below.refl w4.heap.size w4).alloc (Nat.le_refl _) (.cells #[.slice none 0 0] 220))
   clear hKR' KR KR' hb2 hb3 hb4
   go_wp2_with fail
   generalize w4.alloc (.cells #[.slice none 0 0] 220) = X at *
   go_quiet (fail)
   go_wp2
   go_ret2
   exact ⟨_, rfl, ResM.none _ _ _ _, below_drewN KB _⟩
theorem pick1_any (pb rb r c i j p : Nat) (F : Nat → Nat → Nat) (ra : Option Addr) (nr rc : Nat) (zs : List Int) (w : World) (h : RdU w pb r c F) (hv : w.cell? ⟨rb, 0, none⟩ = some (.slice ra nr rc)) (hz : IntsAt w ra nr zs) (hi : i < nr) (hp : zs.getD i 0 = (p : Int)) (hpr : p < r) (hj : j < c) :
  Calls Tryz.prog 164 #[.int .i64 (i : Int), .int .i64 (j : Int), .pointer (some ⟨pb, 0, none⟩), .pointer (some ⟨rb, 0, none⟩)] w fun e w' => e = .returned (.int .u8 ((F p j : Nat) : Int)) ∧ Below w.heap.size w w' := by
 obtain ⟨G, cap, hpp, hr⟩ := h
 obtain ⟨g, cc, hc, he⟩ := hr p hpr
 have hel := he j hj
 obtain ⟨b, off, rfl, hcz⟩ := hz.2 i hi
 rw [hp] at hcz
 have hi' : (i : Int) < (nr : Int) := by omega
 have hj' : (j : Int) < (c : Int) := by omega
 have hp' : (p : Int) < (r : Int) := by omega
 clear he hr hz hp
 generalize F p j = X at hel
 go_enter Tryz.func164, Tryz.ntmps164
 go_wp2
 go_quiet (fail)
 go_wp2
 go_ret
 exact ⟨rfl, below_drewN (Below.refl _ _) _⟩
theorem pickEnter : ∀ args w, (callFunc 164 args).run Tryz.prog w = .ok (.enter 164 args) w := enters_of Tryz.func164 (by kernel_rfl) rfl
def Places (n : Nat) (zs : List Int) : Prop := 1 ≤ zs.length ∧ zs.length ≤ 16 ∧ ∀ i, i < zs.length → 0 ≤ zs.getD i 0 ∧ zs.getD i 0 < (n : Int)
def pkF (F : Nat → Nat → Nat) (zs : List Int) (i j : Nat) : Nat := F (zs.getD i 0).toNat j
theorem pickFill {pb rb r c : Nat} {F : Nat → Nat → Nat} {ra : Option Addr} {nr rc : Nat} {zs : List Int} {w : World} (h : RdU w pb r c F) (hv : w.cell? ⟨rb, 0, none⟩ = some (.slice ra nr rc)) (hz : IntsAt w ra nr zs) (hp : Places r zs) :
  FillBy 164 #[.pointer (some ⟨pb, 0, none⟩), .pointer (some ⟨rb, 0, none⟩)] nr c (pkF F zs) w := fun W i j hb hi hj => by
 have hl := hz.1
 obtain ⟨h1, h2⟩ := hp.2.2 i (by omega)
 have h3 := pick1_any pb rb r c i j (zs.getD i 0).toNat F ra nr rc zs W (h.below hb) ((hb.cell (p := ⟨rb, 0, none⟩) (block_lt_of_cell hv)).trans hv) (hz.below hb) hi (by omega) (by omega) hj
 exact h3
noncomputable def pkOk (n : Nat) (L : Nat → Nat) (Z : Nat → Nat → Int) (zs : List Int) : Bool := @decide (OkM n L Z ∧ Places n zs) (Classical.propDecidable _)
theorem pkOk_yes {n : Nat} {L : Nat → Nat} {Z : Nat → Nat → Int} {zs : List Int} (h : OkM n L Z ∧ Places n zs) : pkOk n L Z zs = true := by unfold pkOk; exact @decide_eq_true _ (Classical.propDecidable _) h
theorem pkOk_no {n : Nat} {L : Nat → Nat} {Z : Nat → Nat → Int} {zs : List Int} (h : ¬ (OkM n L Z ∧ Places n zs)) : pkOk n L Z zs = false := by unfold pkOk; exact @decide_eq_false _ (Classical.propDecidable _) h
noncomputable def pkR (n : Nat) (L : Nat → Nat) (Z : Nat → Nat → Int) (zs : List Int) : Nat := if pkOk n L Z zs = true then zs.length else 0
theorem placesNot {n : Nat} {zs : List Int} (h : ¬ Places n zs) (h1 : 1 ≤ zs.length) (h2 : zs.length ≤ 16) : ∃ q, q < zs.length ∧ ¬ (0 ≤ zs.getD q 0 ∧ zs.getD q 0 < (n : Int)) := by
 refine Classical.byContradiction fun hno => h ⟨h1, h2, fun i hi => ?_⟩
 exact Classical.byContradiction fun hc => hno ⟨i, hi, hc⟩
theorem pickM_any (a : Option Addr) (n cap : Nat) (L : Nat → Nat) (Z : Nat → Nat → Int) (ra : Option Addr) (nr rc : Nat) (zs : List Int) (w : World) (h : MatAt w a n L Z) (hz : IntsAt w ra nr zs) (hL : ∀ i, i < n → L i ≤ 1048576) (hnr : nr ≤ 1048576) :
  Calls Tryz.prog 118 #[.slice a n cap, .slice ra nr rc] w fun e w' => ∃ v, e = .returned (.tuple #[v, .bool (pkOk n L Z zs)]) ∧ ResM w w' v (pkR n L Z zs) (L 0) (pkF (bZ n L Z) zs) ∧ Below w.heap.size w w' := by
 have hlen := hz.1
 have hrb := boxed w (.slice ra nr rc) 23
 have hb1 : Below w.heap.size w (w.alloc (.cells #[.slice ra nr rc] 23)) := (Below.refl _ _).alloc (Nat.le_refl _) _
 obtain ⟨w1, hw1⟩ : ∃ w1, w.alloc (.cells #[.slice ra nr rc] 23) = w1 := ⟨_, rfl⟩
 have KW : Hid (w.alloc (.cells #[.slice ra nr rc] 23) = w1) := hw1
 rw [hw1] at hrb hb1
 clear hw1
 have h1 := h.below hb1
 have hz1 := hz.below hb1
 clear h hz
 have hrl := block_lt_of_cell hrb
 by_cases ok : OkM n L Z
 ·have KR : Hid _ := readM_b a n cap L Z w1 h1 ok
  have hn : 1 ≤ n ∧ n ≤ 16 ∧ 1 ≤ L 0 ∧ L 0 ≤ 16 := ⟨ok.1, ok.2.1, ok.2.2.1, ok.2.2.2.1⟩
  have hbt := bZ_byt n L Z
  by_cases hs : 1 ≤ nr ∧ nr ≤ 16
  ·have hsd : side (nr : Int) = true := by rw [side_nat]; simp; omega
   by_cases hpl : Places n zs
   ·have hok := pkOk_yes ⟨ok, hpl⟩
    have hR : pkR n L Z zs = nr := by unfold pkR; rw [if_pos hok]; exact hlen
    rw [hok, hR]
    generalize bZ n L Z = F at KR hbt
    clear h1 hL ok hR hok
    generalize L 0 = l at hn KR
    obtain ⟨hn1, hn2, hl1, hl2⟩ := hn
    have hn0' : 0 < n := by omega
    have KT : Hid (Gm.Byt F) := hbt
    have KP : Hid (Places n zs) := hpl
    have KZ : Hid (IntsAt w1 ra nr zs) := hz1
    clear hbt hpl hz1
    go_enter Tryz.func118, Tryz.ntmps118
    go_wp2_with fail
    rw [KW.out]
    refine Calls.mono KR.out ?_
    rintro e w2 ⟨rfl, ⟨g, hM⟩, hb2⟩
    have hp := boxed w2 (.slice (some ⟨w1.heap.size, 0, none⟩) n n) 220
    have hb3 : Below w2.heap.size w2 (w2.alloc (.cells #[.slice (some ⟨w1.heap.size, 0, none⟩) n n] 220)) := (Below.refl _ _).alloc (Nat.le_refl _) _
    have hRd := MatU.rd hM hb3 hp
    have hd0 := (hM.below hb3).hdr (i := 0) (by omega)
    have hrb3 := ((below2 hb2 hb3).cell (p := ⟨w.heap.size, 0, none⟩) hrl).trans hrb
    have hrb3e := hrb3
    obtain ⟨W, hW⟩ : ∃ W, w2.alloc (.cells #[.slice (some ⟨w1.heap.size, 0, none⟩) n n] 220) = W := ⟨_, rfl⟩
    have KW2 : Hid (w2.alloc (.cells #[.slice (some ⟨w1.heap.size, 0, none⟩) n n] 220) = W) := hW
    rw [hW] at hp hb3 hRd hd0 hrb3
    have KZ3 : Hid (IntsAt W ra nr zs) := KZ.out.below (below2 hb2 hb3)
    have KRd : Hid (RdU W w2.heap.size n l F) := hRd
    have KB : Hid (Below w.heap.size w W) := below2 hb1 (below2 hb2 hb3)
    have hsz3 : w.heap.size ≤ W.heap.size := KB.out.size
    clear hM hRd hW KZ KR hrb hrl hb1 hb2 hb3
    generalize g 0 = g0 at hd0
    go_wp2_with fail
    rw [KW2.out]
    refine (isSide_any _ _).mono ?_
    rintro e w' ⟨rfl, hw⟩
    obtain rfl := hw.symm
    clear KW2 KW hrb3e
    go_wp2
    go_loop [25] (fun q => ∃ k : Nat, k ≤ nr ∧ q = .int .i64 (k : Int)) (fun q => nr - (intOf q).toNat)
    case atStart => exact ⟨0, Nat.zero_le _, rfl⟩
    case round =>
     obtain ⟨k, hk, rfl⟩ := hrel
     by_cases hlt : k < nr
     ·obtain ⟨b, off, rfl, hcz⟩ := KZ3.out.2 k hlt
      have hpk := KP.out.2.2 k (by omega)
      generalize zs.getD k 0 = x at hcz hpk
      obtain ⟨hx1, hx2⟩ := hpk
      have hx1' : ¬ x < 0 := by omega
      have hx2' : ¬ x ≥ (n : Int) := by omega
      have hki : (k : Int) < (nr : Int) := by omega
      go_wp2
      go_round
      case rel => exact ⟨k + 1, by omega, by go_num⟩
      case measure => simp [intOf] <;> omega
     ·have hki : ¬ (k : Int) < (nr : Int) := by omega
      have hpl2 := block_lt_of_cell hp
      have hdl := block_lt_of_cell hd0
      have hrl3 := block_lt_of_cell hrb3
      have KF : Hid _ := filled_any 164 #[.pointer (some ⟨w2.heap.size, 0, none⟩), .pointer (some ⟨w.heap.size, 0, none⟩)] pickEnter nr l (pkF F zs) W.drew (pickFill (KRd.out.below ⟨rfl, rfl, rfl, Nat.le_refl _, fun _ _ => rfl⟩) hrb3 (KZ3.out.below ⟨rfl, rfl, rfl, Nat.le_refl _, fun _ _ => rfl⟩) KP.out) (fun i j => KT.out _ j) (by omega) (by omega)
      go_wp2_with fail
      go_region_held3 (fun w' => w'.cell? ⟨w2.heap.size, 0, none⟩ = some (.slice (some ⟨w1.heap.size, 0, none⟩) n n) ∧ w'.cell? ⟨w1.heap.size, 0, none⟩ = some (.slice (some ⟨g0, 0, none⟩) l l) ∧ w'.cell? ⟨w.heap.size, 0, none⟩ = some (.slice ra nr rc)) (go_keep) ((go_at_call 156; refine Calls.mono KF.out ?_; rintro e w5 ⟨rfl, ⟨A5, hM5⟩, hb5'⟩; have hb5 := below_of_drew hb5'; have KM : Hid _ := hM5; clear hb5' hM5; have hp5 := (hb5.cell (p := ⟨w2.heap.size, 0, none⟩) hpl2).trans hp; have hd5 := (hb5.cell (p := ⟨w1.heap.size, 0, none⟩) hdl).trans hd0; have hr5 := (hb5.cell (p := ⟨w.heap.size, 0, none⟩) hrl3).trans hrb3))
      all_goals
       go_wp2
       go_ret2
       exact ⟨_, rfl, ResM.mk KM.out hsz3, below2 KB.out hb5⟩
   ·have hok := pkOk_no (Z := Z) (L := L) (n := n) (zs := zs) (fun hh => hpl hh.2)
    have hR : pkR n L Z zs = 0 := by unfold pkR; rw [if_neg (by rw [hok]; simp)]
    have hbad := placesNot hpl (by omega) (by omega)
    rw [hok, hR]
    generalize bZ n L Z = F at KR hbt
    clear h1 hL ok hR hok
    generalize L 0 = l at hn KR
    obtain ⟨hn1, hn2, hl1, hl2⟩ := hn
    have hn0' : 0 < n := by omega
    have KT : Hid (Gm.Byt F) := hbt
    have KP : Hid _ := hbad
    have KZ : Hid (IntsAt w1 ra nr zs) := hz1
    clear hbt hpl hz1 hbad
    go_enter Tryz.func118, Tryz.ntmps118
    go_wp2_with fail
    rw [KW.out]
    refine Calls.mono KR.out ?_
    rintro e w2 ⟨rfl, ⟨g, hM⟩, hb2⟩
    have hp := boxed w2 (.slice (some ⟨w1.heap.size, 0, none⟩) n n) 220
    have hb3 : Below w2.heap.size w2 (w2.alloc (.cells #[.slice (some ⟨w1.heap.size, 0, none⟩) n n] 220)) := (Below.refl _ _).alloc (Nat.le_refl _) _
    have hRd := MatU.rd hM hb3 hp
    have hd0 := (hM.below hb3).hdr (i := 0) (by omega)
    have hrb3 := ((below2 hb2 hb3).cell (p := ⟨w.heap.size, 0, none⟩) hrl).trans hrb
    have hrb3e := hrb3
    obtain ⟨W, hW⟩ : ∃ W, w2.alloc (.cells #[.slice (some ⟨w1.heap.size, 0, none⟩) n n] 220) = W := ⟨_, rfl⟩
    have KW2 : Hid (w2.alloc (.cells #[.slice (some ⟨w1.heap.size, 0, none⟩) n n] 220) = W) := hW
    rw [hW] at hp hb3 hRd hd0 hrb3
    have KZ3 : Hid (IntsAt W ra nr zs) := KZ.out.below (below2 hb2 hb3)
    have KRd : Hid (RdU W w2.heap.size n l F) := hRd
    have KB : Hid (Below w.heap.size w W) := below2 hb1 (below2 hb2 hb3)
    have hsz3 : w.heap.size ≤ W.heap.size := KB.out.size
    clear hM hRd hW KZ KR hrb hrl hb1 hb2 hb3
    generalize g 0 = g0 at hd0
    go_wp2_with fail
    rw [KW2.out]
    refine (isSide_any _ _).mono ?_
    rintro e w' ⟨rfl, hw⟩
    obtain rfl := hw.symm
    clear KW2 KW hrb3e
    go_wp2
    obtain ⟨q, hq, hbad⟩ := KP.out
    have KQ : Hid (¬ (0 ≤ zs.getD q 0 ∧ zs.getD q 0 < (n : Int))) := hbad
    clear KP hbad
    go_loop [25] (fun q' => ∃ k : Nat, k ≤ q ∧ q' = .int .i64 (k : Int)) (fun q => nr - (intOf q).toNat)
    case atStart => exact ⟨0, Nat.zero_le _, rfl⟩
    case round =>
     obtain ⟨k, hk, rfl⟩ := hrel
     have hlt : k < nr := by omega
     obtain ⟨b, off, rfl, hcz⟩ := KZ3.out.2 k hlt
     have hki : (k : Int) < (nr : Int) := by omega
     by_cases hx1 : zs.getD k 0 < 0
     ·generalize zs.getD k 0 = x at hcz hx1
      go_wp2
      go_ret2
      exact ⟨_, rfl, ResM.none _ _ _ _, KB.out⟩
     ·by_cases hx2 : zs.getD k 0 ≥ (n : Int)
      ·generalize zs.getD k 0 = x at hcz hx1 hx2
       go_wp2
       go_ret2
       exact ⟨_, rfl, ResM.none _ _ _ _, KB.out⟩
      ·have hkq : k ≠ q := fun e => KQ.out (by rw [← e]; omega)
       generalize zs.getD k 0 = x at hcz hx1 hx2
       go_wp2
       go_round
       case rel => exact ⟨k + 1, by omega, by go_num⟩
       case measure => simp [intOf] <;> omega
  ·have hsd : side (nr : Int) = false := by rw [side_nat]; simp; omega
   have hok := pkOk_no (Z := Z) (L := L) (n := n) (zs := zs) (fun hh => hs ⟨by have := hh.2.1; omega, by have := hh.2.2.1; omega⟩)
   have hR : pkR n L Z zs = 0 := by unfold pkR; rw [if_neg (by rw [hok]; simp)]
   rw [hok, hR]
   generalize bZ n L Z = F at KR hbt
   clear h1 hL ok hR hok hbt hz1
   generalize L 0 = l at hn KR
   go_enter Tryz.func118, Tryz.ntmps118
   go_wp2_with fail
   rw [KW.out]
   refine Calls.mono KR.out ?_
   rintro e w2 ⟨rfl, ⟨g, hM⟩, hb2⟩
   have hb3 : Below w2.heap.size w2 (w2.alloc (.cells #[.slice (some ⟨w1.heap.size, 0, none⟩) n n] 220)) := (Below.refl _ _).alloc (Nat.le_refl _) _
   have hrb3 := ((below2 hb2 hb3).cell (p := ⟨w.heap.size, 0, none⟩) hrl).trans hrb
   have KB : Hid (Below w.heap.size w _) := below2 hb1 (below2 hb2 hb3)
   clear hM KR hrb hrl hb1 hb2 hb3
   go_wp2_with fail
   refine (isSide_any _ _).mono ?_
   rintro e w' ⟨rfl, hw⟩
   obtain rfl := hw.symm
   clear KW
   go_wp2
   go_ret2
   exact ⟨_, rfl, ResM.none _ _ _ _, KB.out⟩
 ·have KR : Hid _ := readM_no a n cap L Z w1 h1 hL ok
  have hok := pkOk_no (Z := Z) (L := L) (n := n) (zs := zs) (fun hh => ok hh.1)
  have hR : pkR n L Z zs = 0 := by unfold pkR; rw [if_neg (by rw [hok]; simp)]
  rw [hok, hR]
  clear h1 hL ok hz1 hR hok
  go_enter Tryz.func118, Tryz.ntmps118
  go_wp2_with fail
  rw [KW.out]
  refine Calls.mono KR.out ?_
  rintro e w2 ⟨rfl, hb2⟩
  go_wp2
  go_ret2
  exact ⟨_, rfl, ResM.none _ _ _ _, below2 hb1 (below2 hb2 ((Below.refl _ _).alloc (Nat.le_refl _) _))⟩
theorem all_zI (z : Nat → Int) (n : Nat) : (zI z n).all isB = true ↔ ∀ j, j < n → isB (z j) = true := by
 simp [zI, List.all_eq_true]
theorem MatI.pushed {wr w2 : World} {B b0 G k cap g2 cap3 gr W capr : Nat} {A : Nat → Option Addr} {C : Nat → Nat} {F : Nat → Nat → Nat} (o : Obj) (hM : MatI wr B b0 (some ⟨G, 0, none⟩) k cap A (fun _ => W) C (fun i j => ((F i j : Nat) : Int)))
  (hb : B ≤ b0) (hr : OwnR wr b0 gr W capr (F k)) (hgrow : (wr.alloc o).grownBy w2 (some G))
  (hout : w2.ownsRow B 23 1 (.slice (some ⟨g2, 0, none⟩) (k + 1) cap3) (k + 1) (hds A (fun _ => W) C k ++ [.slice (some ⟨gr, 0, none⟩) W capr])) :
  ∃ A' C', MatI w2 B w2.heap.size (some ⟨g2, 0, none⟩) (k + 1) cap3 A' (fun _ => W) C' (fun i j => ((F i j : Nat) : Int)) := by
 have hbo : Below wr.heap.size wr (wr.alloc o) := (Below.refl _ _).alloc (Nat.le_refl _) _
 have hM1 := hM.below hbo
 have hr1 : (wr.alloc o).ownsRow B 3 1 (.slice (some ⟨gr, 0, none⟩) W capr) W ((zI (fun j => ((F k j : Nat) : Int)) W).map (Value.int .i64)) := own_base (ownsRow_below hr hbo) hb
 have hgr := hr.lt.1
 refine ⟨_, _, (MatZ.push tiNe hM1 hgrow hout (Nat.le_refl _) ?_ hr1 (fun j hj y u ey eu => ?_)).congr (fun i _ => ⟨rfl, by split <;> rfl, rfl, fun j _ => by by_cases e : i = k; subst e; simp; simp [e]⟩)⟩
 ·by_cases h0 : G < b0
  ·exact Nat.le_trans (Nat.le_of_lt (Nat.lt_of_le_of_lt hgr hr.lt.2)) (Nat.le_trans hbo.size hgrow.size)
  ·exact Nat.le_trans (Nat.le_of_lt (Nat.lt_of_le_of_lt hgr hr.lt.2)) (Nat.le_trans hbo.size hgrow.size)
 ·cases eu
  have := hM.rE j hj y ey
  exact Nat.ne_of_lt (Nat.lt_of_lt_of_le this hgr)
theorem MatI.rowed {wr w2 : World} {B b0 gr : Nat} {a : Option Addr} {k cap W : Nat} {A : Nat → Option Addr} {C : Nat → Nat} {F : Nat → Nat → Nat} (o : Obj) (hM : MatI wr B b0 a k cap A (fun _ => W) C (fun i j => ((F i j : Nat) : Int))) (hgr : b0 ≤ gr) (hgrow : (wr.alloc o).grownBy w2 (some gr)) :
  MatI w2 B b0 a k cap A (fun _ => W) C (fun i j => ((F i j : Nat) : Int)) := (hM.below ((Below.refl _ _).alloc (Nat.le_refl _) o)).keptE hgrow hgr
theorem litM (w : World) (A : Nat → Option Addr) (L C : Nat → Nat) (Z : Nat → Nat → Int) : MatI (w.alloc (.cells #[] 23)) w.heap.size (w.alloc (.cells #[] 23)).heap.size (some ⟨w.heap.size, 0, none⟩) 0 0 A L C Z :=
 MatZ.zero _ _ _ _ _ _ _ _ _ _ (World.ownsRow_lit w #[] 0 (Nat.le_refl _) (by unfold maxLen; omega) rfl) (by simp)
theorem resLit0 (w w1 : World) (h : w.heap.size ≤ w1.heap.size) (c : Nat) (F : Nat → Nat → Nat) : ResM w (w1.alloc (.cells #[] 23)) (.slice (some ⟨w1.heap.size, 0, none⟩) 0 0) 0 c F :=
 ResM.mk (litM w1 (fun _ => none) (fun _ => c) (fun _ => 0) _) h
theorem sMatOk_any (a : Option Addr) (n cap : Nat) (L : Nat → Nat) (Z : Nat → Nat → Int) (w : World) (h : MatAt w a n L Z) (hL : ∀ i, i < n → L i ≤ 1048576) :
  Calls Tryz.prog 137 #[.slice a n cap] w fun e w' => e = .returned (.bool (okM n L Z)) ∧ Below w.heap.size w w' := by
 by_cases hn : 1 ≤ n ∧ n ≤ 16
 ·have hs1 : inB (n : Int) 1 16 = true := by unfold inB; simp; omega
  have hn0' : 0 < n := by omega
  have hn0i : (0 : Int) < (n : Int) := by omega
  obtain ⟨b0, off0, ai0, ci0, e0, hc0, _⟩ := h 0 (by omega)
  subst e0
  rw [Nat.add_zero] at hc0
  by_cases hl : 1 ≤ L 0 ∧ L 0 ≤ 16
  ·have hs2 : inB (L 0 : Int) 1 16 = true := by unfold inB; simp; omega
   have KO : Hid (∀ q, q ≤ n → (∀ i, i < q → L i = L 0 ∧ ∀ j, j < L 0 → isB (Z i j) = true) → q < n → ¬ (L q = L 0 ∧ ∀ j, j < L 0 → isB (Z q j) = true) → okM n L Z = false) := fun q _ _ h2 h3 => okM_no (fun hh => h3 (hh.2.2.2.2 q h2))
   have KY : Hid ((∀ i, i < n → L i = L 0 ∧ ∀ j, j < L 0 → isB (Z i j) = true) → okM n L Z = true) := fun h1 => okM_yes ⟨hn.1, hn.2, hl.1, hl.2, h1⟩
   generalize okM n L Z = okf at KO KY
   have KH : Hid (MatAt w (some ⟨b0, off0, none⟩) n L Z) := h
   obtain ⟨l, hl0⟩ : ∃ l, L 0 = l := ⟨_, rfl⟩
   rw [hl0] at hc0 hl hs2 KO KY
   have KL : Hid _ := hL
   clear h hL hl0
   go_enter Tryz.func137, Tryz.ntmps137
   go_wp2_with (go_at_call 94; refine (sIn_any _ _ _ _).mono ?_; rintro e w' ⟨rfl, hw⟩; obtain rfl := hw.symm)
   go_loopw [3] (fun p wr => ∃ k : Nat, k ≤ n ∧ p = .int .i64 (k : Int) ∧ Hid (∀ i, i < k → L i = l ∧ ∀ j, j < l → isB (Z i j) = true) ∧ Below w.heap.size w wr) (fun p _ => n - (intOf p).toNat)
   case atStart => exact ⟨0, Nat.zero_le _, rfl, fun i hi => by omega, Below.refl _ _⟩
   case round =>
    obtain ⟨k, hk, rfl, HB, hbel⟩ := hrel
    by_cases hlt : k < n
    ·have hki : (k : Int) < (n : Int) := by omega
     obtain ⟨b, off, ai, ci, eb, hc, hr⟩ := KH.out.below hbel k hlt
     cases eb
     have hc0' := (hbel.cell (p := ⟨b0, off0, none⟩) (block_lt_of_cell hc0)).trans hc0
     have hLk := KL.out k hlt
     clear hc0
     by_cases hkl : L k = l
     ·rw [hkl] at hc hr
      have hS := fun w h => sBytes_any ai l ci (zI (Z k) l) w h (by omega)
      have hall := all_zI (Z k) l
      obtain ⟨ba, hba⟩ : ∃ ba, (zI (Z k) l).all isB = ba := ⟨_, rfl⟩
      rw [hba] at hS hall
      clear hba
      cases ba with
      | true =>
       have HB2 : Hid (∀ i, i < k + 1 → L i = l ∧ ∀ j, j < l → isB (Z i j) = true) := fun i hi => by
        by_cases e : i = k
        ·subst e; exact ⟨hkl, hall.1 rfl⟩
        ·exact HB.out i (by omega)
       clear hall
       generalize zI (Z k) l = zs at hr hS
       go_wp2_with fail
       go_quiet ((go_at_call 174; exact Calls.quiet_of_same (hS _ (hr.below ⟨rfl, rfl, rfl, Nat.le_refl _, fun _ _ => rfl⟩))))
       go_wp2
       go_roundw
       case rel => exact ⟨k + 1, by omega, by go_num, HB2, below_drewN hbel _⟩
       case measure => simp [intOf] <;> omega
      | false =>
       have HN : Hid (okf = false) := KO.out k (by omega) HB.out hlt (fun hh => by have := hall.2 hh.2; cases this)
       clear hall
       generalize zI (Z k) l = zs at hr hS
       go_wp2_with fail
       go_quiet ((go_at_call 174; exact Calls.quiet_of_same (hS _ (hr.below ⟨rfl, rfl, rfl, Nat.le_refl _, fun _ _ => rfl⟩))))
       go_wp2
       go_ret
       exact ⟨ret_bool HN.out.symm, below_drewN hbel _⟩
     ·have HN : Hid (okf = false) := KO.out k (by omega) HB.out hlt (fun hh => hkl hh.1)
      have hne : ((L k : Int) != (l : Int)) = true := by simp; omega
      clear hr
      generalize L k = lk at hc hne
      go_wp2_with fail
      go_quiet (fail)
      go_wp2
      go_ret
      exact ⟨ret_bool HN.out.symm, below_drewN hbel _⟩
    ·obtain rfl : k = n := by omega
     have HN : Hid (okf = true) := KY.out HB.out
     go_wp2
     go_ret
     exact ⟨ret_bool HN.out.symm, hbel⟩
  ·have hs2 : inB (L 0 : Int) 1 16 = false := by unfold inB; simp; omega
   have HN : Hid (okM n L Z = false) := okM_no (fun hh => hl ⟨hh.2.2.1, hh.2.2.2.1⟩)
   generalize okM n L Z = okf at HN
   clear h hL hl
   generalize L 0 = l at hc0 hs2
   go_enter Tryz.func137, Tryz.ntmps137
   go_wp2_with (go_at_call 94; refine (sIn_any _ _ _ _).mono ?_; rintro e w' ⟨rfl, hw⟩; obtain rfl := hw.symm)
   go_ret
   exact ⟨ret_bool HN.out.symm, Below.refl _ _⟩
 ·have hs1 : inB (n : Int) 1 16 = false := by unfold inB; simp; omega
  have HN : Hid (okM n L Z = false) := okM_no (fun hh => hn ⟨hh.1, hh.2.1⟩)
  generalize okM n L Z = okf at HN
  clear h hL
  go_enter Tryz.func137, Tryz.ntmps137
  go_wp2_with (go_at_call 94; refine (sIn_any _ _ _ _).mono ?_; rintro e w' ⟨rfl, hw⟩; obtain rfl := hw.symm)
  go_ret
  exact ⟨ret_bool HN.out.symm, Below.refl _ _⟩
abbrev MatF (w : World) (B E G r cap : Nat) (g C : Nat → Nat) (W : Nat) (F : Nat → Nat → Nat) : Prop := MatU w B E (some ⟨G, 0, none⟩) r cap (fun i => some ⟨g i, 0, none⟩) (fun _ => W) C (fun i j => ((F i j : Nat) : Int))
theorem MatF.set {w : World} {B E G r cap : Nat} {g C : Nat → Nat} {W : Nat} {F F' : Nat → Nat → Nat} {i j v : Nat} (h : MatF w B E G r cap g C W F) (hi : i < r) (hj : j < W) (e : ∀ p q, p < r → q < W → (if p = i ∧ q = j then v else F p q) = F' p q) :
  MatF (w.setCell ⟨g i, j, none⟩ (.int .u8 (v : Int))) B E G r cap g C W F' :=
 (h.setElt teNe hi rfl hj (v : Int)).1.congr (fun p hp => ⟨rfl, rfl, rfl, fun q hq => by
  rw [← e p q hp hq]
  split <;> rfl⟩)
theorem grown_belowM {w w1 w2 : World} {g : Nat} (h0 : w.grownBy w1 (some g)) (hb : Below w1.heap.size w1 w2) : w.grownBy w2 (some g) :=
 ⟨hb.os.trans h0.os, hb.tape.trans h0.tape, hb.output.trans h0.output, Nat.le_trans h0.size hb.size, fun j hj hn => (hb.block j (Nat.lt_of_lt_of_le hj h0.size)).trans (h0.block j hj hn)⟩
def sclK (a x k : Nat) (F : Nat → Nat → Nat) (i j : Nat) : Nat := if i = a ∧ j < k then Gp.m (F i j) x else F i j
theorem scaleRow_any (B E G r cap : Nat) (g C : Nat → Nat) (W : Nat) (F : Nat → Nat → Nat) (a x : Nat) (w : World) (h : MatF w B E G r cap g C W F) (hF : Gm.Byt F) (ha : a < r) (hx : x < 256) (hW : W ≤ 1048576) :
  Calls Tryz.prog 198 #[.slice (some ⟨G, 0, none⟩) r cap, .int .i64 (a : Int), .int .u8 (x : Int)] w fun e w' => e = .returned (.tuple #[]) ∧ MatF w' B E G r cap g C W (Gm.scl a x F) ∧ w.grownBy w' (some (g a)) := by
 have hai : (a : Int) < (r : Int) := by omega
 have hh0 := h.hdr ha
 have K0 : Hid (MatF w B E G r cap g C W F) := h
 have KF : Hid (Gm.Byt F) := hF
 clear h hF
 obtain ⟨ga, hga⟩ : ∃ ga, g a = ga := ⟨_, rfl⟩
 obtain ⟨Ca, hCa⟩ : ∃ Ca, C a = Ca := ⟨_, rfl⟩
 have KG : Hid (g a = ga) := hga
 have KC : Hid (C a = Ca) := hCa
 rw [hga, hCa] at hh0
 rw [hga]
 clear hga hCa
 go_enter Tryz.func198, Tryz.ntmps198
 go_wp2
 go_loopw [13] (fun i wr => ∃ k : Nat, k ≤ W ∧ i = .int .i64 k ∧ MatF wr B E G r cap g C W (sclK a x k F) ∧ w.grownBy wr (some ga)) (fun i _ => W - (intOf i).toNat)
 case atStart => exact ⟨0, Nat.zero_le _, rfl, K0.out.congr (fun i _ => ⟨rfl, rfl, rfl, fun j _ => by unfold sclK; rw [if_neg (by omega)]⟩), World.grownBy.refl _ _⟩
 case round =>
  obtain ⟨k, hk, rfl, hM, hgr⟩ := hrel
  clear K0
  by_cases hlt : k < W
  ·have hki : (k : Int) < (W : Int) := by omega
   have hh := hM.hdr ha
   have he := hM.elt (j := k) ha rfl hlt
   have hval : sclK a x k F a k = F a k := by unfold sclK; rw [if_neg (by omega)]
   rw [hval] at he
   have hf := KF.out a k
   have hfr := hM.free ha rfl k
   have hG := hM.olt.2
   have hg := (hM.glt ha rfl).2
   have hml := Gf.mul_lt hf hx
   have KE : Hid (∀ p q, (if p = a ∧ q = k then Gf.mul (F a k) x else sclK a x k F p q) = sclK a x (k + 1) F p q) := fun p q => by
    unfold sclK
    by_cases e : p = a ∧ q = k
    ·obtain ⟨rfl, rfl⟩ := e
     rw [if_pos ⟨rfl, rfl⟩, if_pos ⟨rfl, by omega⟩, Gp.m_nat hf hx]
    ·rw [if_neg e]
     by_cases e2 : p = a ∧ q < k
     ·rw [if_pos e2, if_pos (by omega)]
     ·rw [if_neg e2, if_neg (by omega)]
   have KM : Hid (MatF wr B E G r cap g C W (sclK a x k F)) := hM
   have hGg : G ≠ ga := by
    have := MatZ.off teNe hM ha rfl
    rw [KG.out] at this
    exact this.symm
   have hk2 : ∀ (u : World) (v : Value), u.cell? ⟨G, a, none⟩ = some (.slice (some ⟨ga, 0, none⟩) W Ca) → (u.setCell ⟨ga, k, none⟩ v).cell? ⟨G, a, none⟩ = some (.slice (some ⟨ga, 0, none⟩) W Ca) := fun u v hu => (grown_set u ga k v).cell hu (by simp; exact hGg)
   clear hM hval hh0
   obtain ⟨X, hX⟩ : ∃ X, F a k = X := ⟨_, rfl⟩
   rw [hX] at he hf hml KE
   clear hX
   rw [KG.out] at hh he hfr hg
   rw [KC.out] at hh
   go_wp2_with fail
   go_region_held3 (fun w' => w'.cell? ⟨G, a, none⟩ = some (.slice (some ⟨ga, 0, none⟩) W Ca)) (first | go_keep | exact hk2 _ _ (by assumption)) ((go_at_call 121; refine (times_any X x _ hf hx).mono ?_; rintro e w1 ⟨rfl, hb1'⟩; have hb1 := below_of_drew hb1'; clear hb1'; have hh1 := (hb1.cell (p := ⟨G, a, none⟩) hG).trans hh; have he1 := (hb1.cell (p := ⟨ga, k, none⟩) hg).trans he; have hfr1 := (World.frozen?_of_block (a := ⟨ga, k, none⟩) (hb1.block _ hg)).trans hfr))
   all_goals
    have HS : Hid (MatF (w1.setCell ⟨ga, k, none⟩ (.int .u8 ((Gf.mul X x : Nat) : Int))) B E G r cap g C W (sclK a x (k + 1) F)) := by
     have := MatF.set (KM.out.below hb1) (i := a) (j := k) (v := Gf.mul X x) ha hlt (fun p q _ _ => KE.out p q)
     rw [KG.out] at this
     exact this
    have HG : Hid (w.grownBy (w1.setCell ⟨ga, k, none⟩ (.int .u8 ((Gf.mul X x : Nat) : Int))) (some ga)) := grownBy_trans (grown_belowM hgr hb1) (grown_set _ _ _ _)
    clear KM
    go_wp2
    go_roundw
    case rel => exact ⟨k + 1, by omega, by go_num, HS.out, HG.out⟩
    case measure => simp [intOf] <;> omega
  ·obtain rfl : k = W := by omega
   have KM : Hid (MatF wr B E G r cap g C k (sclK a x k F)) := hM
   clear hM
   go_wp2
   go_end0
   exact ⟨rfl, KM.out.congr (fun i _ => ⟨rfl, rfl, rfl, fun j hj => by unfold sclK Gm.scl; by_cases e : i = a; rw [if_pos ⟨e, hj⟩, if_pos e]; rw [if_neg (by omega), if_neg e]⟩), hgr⟩
def addK (a b y k : Nat) (F : Nat → Nat → Nat) (i j : Nat) : Nat := if i = a ∧ j < k then F i j ^^^ Gp.m (F b j) y else F i j
def blOk (s k : Int) : Bool := decide (0 ≤ s ∧ s ≤ 2000) && side k
def blI (s k : Int) : Int := if blOk s k = true then ((blen s.toNat k.toNat : Nat) : Int) else -1
theorem blI_yes {s k : Nat} (hs : s ≤ 2000) (hk : 1 ≤ k) (hk2 : k ≤ 16) : blI (s : Int) (k : Int) = ((blen s k : Nat) : Int) := by
 unfold blI
 rw [if_pos (by unfold blOk side; simp; omega)]
 simp
theorem blI_no {s k : Int} (h : ¬ (0 ≤ s ∧ s ≤ 2000 ∧ 1 ≤ k ∧ k ≤ 16)) : blI s k = -1 := by
 unfold blI
 rw [if_neg]
 unfold blOk side
 simp
 omega
theorem quo_blen {s k : Nat} (_hk : 1 ≤ k) : Int.tdiv ((s : Int) + 2 + (k : Int) - 1) (k : Int) = ((blen s k : Nat) : Int) := by
 unfold blen
 rw [show (s : Int) + 2 + (k : Int) - 1 = ((s + 2 + k - 1 : Nat) : Int) by omega, ← Int.ofNat_tdiv]
theorem bodyLen_any (s k : Int) (w : World) : Calls Tryz.prog 122 #[.int .i64 s, .int .i64 k] w fun e w' => e = .returned (.int .i64 (blI s k)) ∧ w' = w := by
 by_cases h : 0 ≤ s ∧ s ≤ 2000 ∧ 1 ≤ k ∧ k ≤ 16
 ·obtain ⟨h1, h2, h3, h4⟩ := h
  obtain ⟨S, rfl⟩ := Int.eq_ofNat_of_zero_le h1
  obtain ⟨K, rfl⟩ := Int.eq_ofNat_of_zero_le (show 0 ≤ k by omega)
  have hsd : side (K : Int) = true := by rw [side_nat]; simp; omega
  have HB : Hid (blI (S : Int) (K : Int) = ((blen S K : Nat) : Int)) := blI_yes (by omega) (by omega) (by omega)
  have hq := quo_blen (s := S) (k := K) (by omega)
  have h1' : ¬ (S : Int) < 0 := by omega
  have h2' : ¬ (S : Int) > 2000 := by omega
  have hw1 : IntKind.i64.wrap (2 + (S : Int)) = (S : Int) + 2 := by rw [IntKind.wrap_i64]; omega
  have hw2 : IntKind.i64.wrap ((S : Int) + 2 + (K : Int)) = (S : Int) + 2 + (K : Int) := by rw [IntKind.wrap_i64]; omega
  have hw3 : IntKind.i64.wrap ((S : Int) + 2 + (K : Int) - 1) = (S : Int) + 2 + (K : Int) - 1 := by rw [IntKind.wrap_i64]; omega
  have hbl := blen_le (s := S) (k := K) (by omega)
  have hw4 : IntKind.i64.wrap ((blen S K : Nat) : Int) = ((blen S K : Nat) : Int) := by rw [IntKind.wrap_i64]; omega
  have hk0 : ((K : Int) == 0) = false := by simp; omega
  have hk0' : ¬ ((K : Int) = 0) := by omega
  generalize blen S K = b at hq hw4 HB
  go_enter Tryz.func122, Tryz.ntmps122
  go_wp2_with (go_at_call 160; refine (isSide_any _ _).mono ?_; rintro e w' ⟨rfl, hw⟩; obtain rfl := hw.symm)
  go_ret
  exact ⟨ret_int (by rw [HB.out] <;> simp [*]), rfl⟩
 ·have HB : Hid (blI s k = -1) := blI_no h
  by_cases h1 : s < 0
  ·go_enter Tryz.func122, Tryz.ntmps122
   go_wp2
   go_ret
   exact ⟨ret_int HB.out.symm, rfl⟩
  ·by_cases h2 : s > 2000
   ·go_enter Tryz.func122, Tryz.ntmps122
    go_wp2
    go_ret
    exact ⟨ret_int HB.out.symm, rfl⟩
   ·have hsd : side k = false := by unfold side; simp; omega
    go_enter Tryz.func122, Tryz.ntmps122
    go_wp2_with (go_at_call 160; refine (isSide_any _ _).mono ?_; rintro e w' ⟨rfl, hw⟩; obtain rfl := hw.symm)
    go_ret
    exact ⟨ret_int HB.out.symm, rfl⟩
theorem sBodyLen_any (s k : Int) (w : World) : Calls Tryz.prog 103 #[.int .i64 s, .int .i64 k] w fun e w' => e = .returned (.int .i64 (blI s k)) ∧ w' = w := by
 by_cases h : 0 ≤ s ∧ s ≤ 2000 ∧ 1 ≤ k ∧ k ≤ 16
 ·obtain ⟨h1, h2, h3, h4⟩ := h
  obtain ⟨S, rfl⟩ := Int.eq_ofNat_of_zero_le h1
  obtain ⟨K, rfl⟩ := Int.eq_ofNat_of_zero_le (show 0 ≤ k by omega)
  have hi1 : inB (S : Int) 0 2000 = true := by unfold inB; simp; omega
  have hi2 : inB (K : Int) 1 16 = true := by unfold inB; simp; omega
  have HB : Hid (blI (S : Int) (K : Int) = ((blen S K : Nat) : Int)) := blI_yes (by omega) (by omega) (by omega)
  have hq := quo_blen (s := S) (k := K) (by omega)
  have hw1 : IntKind.i64.wrap ((S : Int) + 2) = (S : Int) + 2 := by rw [IntKind.wrap_i64]; omega
  have hw2 : IntKind.i64.wrap ((S : Int) + 2 + (K : Int)) = (S : Int) + 2 + (K : Int) := by rw [IntKind.wrap_i64]; omega
  have hw3 : IntKind.i64.wrap ((S : Int) + 2 + (K : Int) - 1) = (S : Int) + 2 + (K : Int) - 1 := by rw [IntKind.wrap_i64]; omega
  have hbl := blen_le (s := S) (k := K) (by omega)
  have hw4 : IntKind.i64.wrap ((blen S K : Nat) : Int) = ((blen S K : Nat) : Int) := by rw [IntKind.wrap_i64]; omega
  have hk0 : ((K : Int) == 0) = false := by simp; omega
  have hk0' : ¬ ((K : Int) = 0) := by omega
  generalize blen S K = b at hq hw4 HB
  go_enter Tryz.func103, Tryz.ntmps103
  go_wp2_with (go_at_call 94; refine (sIn_any _ _ _ _).mono ?_; rintro e w' ⟨rfl, hw⟩; obtain rfl := hw.symm)
  go_ret
  exact ⟨ret_int (by rw [HB.out] <;> simp [*]), rfl⟩
 ·have HB : Hid (blI s k = -1) := blI_no h
  by_cases h1 : 0 ≤ s ∧ s ≤ 2000
  ·have hi1 : inB s 0 2000 = true := by unfold inB; simp; omega
   have hi2 : inB k 1 16 = false := by unfold inB; simp; omega
   go_enter Tryz.func103, Tryz.ntmps103
   go_wp2_with (go_at_call 94; refine (sIn_any _ _ _ _).mono ?_; rintro e w' ⟨rfl, hw⟩; obtain rfl := hw.symm)
   go_ret
   exact ⟨ret_int HB.out.symm, rfl⟩
  ·have hi1 : inB s 0 2000 = false := by unfold inB; simp; omega
   go_enter Tryz.func103, Tryz.ntmps103
   go_wp2_with (go_at_call 94; refine (sIn_any _ _ _ _).mono ?_; rintro e w' ⟨rfl, hw⟩; obtain rfl := hw.symm)
   go_ret
   exact ⟨ret_int HB.out.symm, rfl⟩
theorem sUnit0_any (n : Nat) (w : World) (hn : n ≤ 1000) :
  Calls Tryz.prog 131 #[.int .i64 (n : Int)] w fun e w' => ∃ G cap A C, e = .returned (.slice (some ⟨G, 0, none⟩) n cap) ∧ MatI w' w.heap.size w'.heap.size (some ⟨G, 0, none⟩) n cap A (fun _ => n) C (fun i j => ((Gm.dl i j : Nat) : Int)) ∧ Below w.heap.size w w' := by
 obtain ⟨i0, hi, hz0, hz1, hz2⟩ := info_parts Tryz.infoInt
 obtain ⟨i1, hj, hy0, hy1, hy2⟩ := info_parts Tryz.infoInts
 have H0 : Hid (MatI (w.alloc (.cells #[] 23)) w.heap.size (w.alloc (.cells #[] 23)).heap.size (some ⟨w.heap.size, 0, none⟩) 0 0 (fun _ => none) (fun _ => n) (fun _ => 0) (fun i j => ((Gm.dl i j : Nat) : Int))) := litM w _ _ _ _
 go_enter Tryz.func131, Tryz.ntmps131
 go_wp2
 go_loopw [3, 4] (fun v i wr => ∃ k G cap A C, k ≤ n ∧ i = .int .i64 ((k : Nat) : Int) ∧ v = .slice (some ⟨G, 0, none⟩) k cap ∧ MatI wr w.heap.size wr.heap.size (some ⟨G, 0, none⟩) k cap A (fun _ => n) C (fun i j => ((Gm.dl i j : Nat) : Int)) ∧ Below w.heap.size w wr) (fun _ i _ => n - (intOf i).toNat)
 case atStart => exact ⟨0, _, _, _, _, Nat.zero_le _, rfl, rfl, H0.out, (Below.refl _ _).alloc (Nat.le_refl _) _⟩
 case round =>
  obtain ⟨k, G, cap, A, C, hk, rfl, rfl, hM, hbel⟩ := hrel
  clear H0
  by_cases hlt : k < n
  ·have hki : (k : Int) < (n : Int) := by omega
   have hsz0 := hbel.size
   have KR : Hid (OwnR (wr.alloc (.cells #[] 3)) wr.heap.size wr.heap.size 0 0 (Gm.dl k)) := lit0 wr (Gm.dl k)
   have KM : Hid (MatI (wr.alloc (.cells #[] 3)) w.heap.size wr.heap.size (some ⟨G, 0, none⟩) k cap A (fun _ => n) C (fun i j => ((Gm.dl i j : Nat) : Int))) := hM.below ((Below.refl _ _).alloc (Nat.le_refl _) _)
   have KB : Hid (Below w.heap.size w (wr.alloc (.cells #[] 3))) := hbel.alloc hsz0 _
   have hGl := hM.olt.1
   clear hM hbel
   obtain ⟨b0, hb0⟩ : ∃ b0, wr.heap.size = b0 := ⟨_, rfl⟩
   rw [hb0] at KR KM hsz0
   go_wp2
   clear hb0
   go_loopw [5, 6] (fun v i wr => ∃ q gr capr, q ≤ n ∧ i = .int .i64 ((q : Nat) : Int) ∧ v = .slice (some ⟨gr, 0, none⟩) q capr ∧ OwnR wr b0 gr q capr (Gm.dl k) ∧ MatI wr w.heap.size b0 (some ⟨G, 0, none⟩) k cap A (fun _ => n) C (fun i j => ((Gm.dl i j : Nat) : Int)) ∧ Below w.heap.size w wr) (fun _ i _ => n - (intOf i).toNat)
   case atStart => exact ⟨0, _, _, Nat.zero_le _, rfl, rfl, KR.out, KM.out, KB.out⟩
   case round =>
    obtain ⟨q, gr, capr, hq, rfl, rfl, hown, hM, hbel⟩ := hrel
    clear KR KM KB
    have hgr := hown.lt.1
    have hsz := hbel.size
    have hglt := hown.lt.2
    by_cases hqn : q < n
    ·have hqi : (q : Int) < (n : Int) := by omega
     obtain ⟨x, hx⟩ : ∃ x, Gm.dl k q = x := ⟨_, rfl⟩
     by_cases e : k = q
     ·subst e
      have hxe : Gm.dl k k = 1 := Gm.dl_self k
      clear hx
      go_wp2_with (at_builtin; refine wpList_append_lies _ (by rfl) _ _ 23 (by rfl) b0 3 i0 (.int .i64 0) 1 8 Tryz.underlying23 hi hz0 hz1 hz2 rfl (by decide) (.slice (some ⟨gr, 0, none⟩) k capr) k _ (by rfl) (World.ownsRow.alloc hown _) ⟨wr.heap.size, 0, none⟩ 1 1 [.int .i64 1] (by rfl) (by rfl) (World.news_of_block (cs := #[.int .i64 1]) (t := 3) (fr := (0, 0)) (heap_alloc_new wr _)) (by simp [Value.oneCell']) (by omega) (by unfold maxLen; omega) (by omega) (by simp; omega) (wr.heap.size + 1) (by simp) ?_; intro g2 cap3 w2 hown2 hgrow hat hltg)
      have HO : Hid (OwnR w2 b0 g2 (k + 1) cap3 (Gm.dl k)) := OwnR.snoc (by rw [hxe]; exact hown2)
      have HM : Hid (MatI w2 w.heap.size b0 (some ⟨G, 0, none⟩) k cap A (fun _ => n) C (fun i j => ((Gm.dl i j : Nat) : Int))) := MatI.rowed _ hM hgr hgrow
      have hb' : Below w.heap.size w w2 := (hbel.alloc hsz _).grown (show World.grownBy _ w2 (some gr) from hgrow) (by simp; omega) (fun j hj => by cases hj; omega)
      clear hown2 hgrow hat hltg hown hM
      go_roundw
      case rel => exact ⟨k + 1, g2, cap3, by omega, by go_num, rfl, HO.out, HM.out, hb'⟩
      case measure => simp [intOf] <;> omega
     ·have hxe : Gm.dl k q = 0 := Gm.dl_ne e
      have hee : ((k : Int) == (q : Int)) = false := by simp; omega
      clear hx
      go_wp2_with (at_builtin; refine wpList_append_lies _ (by rfl) _ _ 23 (by rfl) b0 3 i0 (.int .i64 0) 1 8 Tryz.underlying23 hi hz0 hz1 hz2 rfl (by decide) (.slice (some ⟨gr, 0, none⟩) q capr) q _ (by rfl) (World.ownsRow.alloc hown _) ⟨wr.heap.size, 0, none⟩ 1 1 [.int .i64 0] (by rfl) (by rfl) (World.news_of_block (cs := #[.int .i64 0]) (t := 3) (fr := (0, 0)) (heap_alloc_new wr _)) (by simp [Value.oneCell']) (by omega) (by unfold maxLen; omega) (by omega) (by simp; omega) (wr.heap.size + 1) (by simp) ?_; intro g2 cap3 w2 hown2 hgrow hat hltg)
      have HO : Hid (OwnR w2 b0 g2 (q + 1) cap3 (Gm.dl k)) := OwnR.snoc (by rw [hxe]; exact hown2)
      have HM : Hid (MatI w2 w.heap.size b0 (some ⟨G, 0, none⟩) k cap A (fun _ => n) C (fun i j => ((Gm.dl i j : Nat) : Int))) := MatI.rowed _ hM hgr hgrow
      have hb' : Below w.heap.size w w2 := (hbel.alloc hsz _).grown (show World.grownBy _ w2 (some gr) from hgrow) (by simp; omega) (fun j hj => by cases hj; omega)
      clear hown2 hgrow hat hltg hown hM
      go_roundw
      case rel => exact ⟨q + 1, g2, cap3, by omega, by go_num, rfl, HO.out, HM.out, hb'⟩
      case measure => simp [intOf] <;> omega
    ·obtain rfl : q = n := by omega
     have hqi : ¬ (q : Int) < (q : Int) := by omega
     go_wp2_with (at_builtin; refine wpList_append_lies _ (by rfl) _ _ 136 (by rfl) w.heap.size 23 i1 (.slice none 0 0) 1 24 Tryz.underlying136 hj hy0 hy1 hy2 rfl (by decide) (.slice (some ⟨G, 0, none⟩) k cap) k _ (by rfl) (World.ownsRow.alloc hM.out _) ⟨wr.heap.size, 0, none⟩ 1 1 [.slice (some ⟨gr, 0, none⟩) q capr] (by rfl) (by rfl) (World.news_of_block (cs := #[.slice (some ⟨gr, 0, none⟩) q capr]) (t := 23) (fr := (0, 0)) (heap_alloc_new wr _)) (by simp [Value.oneCell']) (by omega) (by unfold maxLen; omega) (by omega) (by simp; omega) (wr.heap.size + 1) (by simp) ?_; intro g2 cap3 w2 hown2 hgrow hat hltg)
     obtain ⟨A', C', hP⟩ := MatI.pushed _ hM hsz0 hown hgrow hown2
     have HP : Hid (MatI w2 w.heap.size w2.heap.size (some ⟨g2, 0, none⟩) (k + 1) cap3 A' (fun _ => q) C' (fun i j => ((Gm.dl i j : Nat) : Int))) := hP
     have hb' : Below w.heap.size w w2 := (hbel.alloc hsz _).grown (show World.grownBy _ w2 (some G) from hgrow) (by simp; omega) (fun j hj => by cases hj; exact hGl)
     clear hown2 hgrow hat hltg hown hM hP
     go_roundw
     case rel => exact ⟨k + 1, g2, cap3, A', C', by omega, by go_num, rfl, HP.out, hb'⟩
     case measure => simp [intOf] <;> omega
  ·obtain rfl : k = n := by omega
   have KM : Hid _ := hM
   clear hM
   go_wp2
   go_ret
   exact ⟨G, cap, A, C, rfl, KM.out, hbel⟩
theorem addScaledRow_any (B E G r cap : Nat) (g C : Nat → Nat) (W : Nat) (F : Nat → Nat → Nat) (a b y : Nat) (w : World) (h : MatF w B E G r cap g C W F) (hF : Gm.Byt F) (ha : a < r) (hb : b < r) (hab : a ≠ b) (hy : y < 256) (hW : W ≤ 1048576) :
  Calls Tryz.prog 199 #[.slice (some ⟨G, 0, none⟩) r cap, .int .i64 (a : Int), .int .i64 (b : Int), .int .u8 (y : Int)] w fun e w' => e = .returned (.tuple #[]) ∧ MatF w' B E G r cap g C W (addK a b y W F) ∧ w.grownBy w' (some (g a)) := by
 have hai : (a : Int) < (r : Int) := by omega
 have hbi : (b : Int) < (r : Int) := by omega
 have hh0 := h.hdr hb
 have K0 : Hid (MatF w B E G r cap g C W F) := h
 have KF : Hid (Gm.Byt F) := hF
 clear h hF
 obtain ⟨ga, hga⟩ : ∃ ga, g a = ga := ⟨_, rfl⟩
 obtain ⟨Ca, hCa⟩ : ∃ Ca, C a = Ca := ⟨_, rfl⟩
 obtain ⟨gb, hgb⟩ : ∃ gb, g b = gb := ⟨_, rfl⟩
 obtain ⟨Cb, hCb⟩ : ∃ Cb, C b = Cb := ⟨_, rfl⟩
 have KG : Hid (g a = ga) := hga
 have KC : Hid (C a = Ca) := hCa
 have KGb : Hid (g b = gb) := hgb
 rw [hgb, hCb] at hh0
 rw [hga]
 clear hga hCa hgb hCb
 go_enter Tryz.func199, Tryz.ntmps199
 go_wp2
 go_loopw [15] (fun i wr => ∃ k : Nat, k ≤ W ∧ i = .int .i64 k ∧ MatF wr B E G r cap g C W (addK a b y k F) ∧ w.grownBy wr (some ga)) (fun i _ => W - (intOf i).toNat)
 case atStart => exact ⟨0, Nat.zero_le _, rfl, K0.out.congr (fun i _ => ⟨rfl, rfl, rfl, fun j _ => by unfold addK; rw [if_neg (by omega)]⟩), World.grownBy.refl _ _⟩
 case round =>
  obtain ⟨k, hk, rfl, hM, hgr⟩ := hrel
  clear K0
  by_cases hlt : k < W
  ·have hki : (k : Int) < (W : Int) := by omega
   have hh := hM.hdr ha
   have he := hM.elt (j := k) ha rfl hlt
   have heb := hM.elt (j := k) hb rfl hlt
   have hval : addK a b y k F a k = F a k := by unfold addK; rw [if_neg (by omega)]
   have hvalb : addK a b y k F b k = F b k := by unfold addK; rw [if_neg (by omega)]
   rw [hval] at he
   rw [hvalb] at heb
   have hf := KF.out a k
   have hfb := KF.out b k
   have hfr := hM.free ha rfl k
   have hG := hM.olt.2
   have hg := (hM.glt ha rfl).2
   have hml := Gf.mul_lt hfb hy
   have KE : Hid (∀ p q, (if p = a ∧ q = k then F a k ^^^ Gf.mul (F b k) y else addK a b y k F p q) = addK a b y (k + 1) F p q) := fun p q => by
    unfold addK
    by_cases e : p = a ∧ q = k
    ·obtain ⟨rfl, rfl⟩ := e
     rw [if_pos ⟨rfl, rfl⟩, if_pos ⟨rfl, by omega⟩, Gp.m_nat hfb hy]
    ·rw [if_neg e]
     by_cases e2 : p = a ∧ q < k
     ·rw [if_pos e2, if_pos (by omega)]
     ·rw [if_neg e2, if_neg (by omega)]
   have KM : Hid (MatF wr B E G r cap g C W (addK a b y k F)) := hM
   clear hM hval hvalb hh0
   obtain ⟨X, hX⟩ : ∃ X, F a k = X := ⟨_, rfl⟩
   obtain ⟨Y, hY⟩ : ∃ Y, F b k = Y := ⟨_, rfl⟩
   rw [hX] at he hf KE
   rw [hY] at heb hfb hml KE
   clear hX hY
   rw [KG.out] at hh he hfr hg
   rw [KC.out] at hh
   rw [KGb.out] at heb
   go_wp2_with fail
   go_region_with ((first | (go_at_call 121; refine (times_any Y y _ hfb hy).mono ?_; rintro e w1 ⟨rfl, hb1'⟩; have hb1 := below_of_drew hb1'; clear hb1'; have hh1 := (hb1.cell (p := ⟨G, a, none⟩) hG).trans hh; have he1 := (hb1.cell (p := ⟨ga, k, none⟩) hg).trans he; have hfr1 := (World.frozen?_of_block (a := ⟨ga, k, none⟩) (hb1.block _ hg)).trans hfr) | (go_at_call 120; refine (plus_any X (Gf.mul Y y) _ hf hml).mono ?_; rintro e w2 ⟨rfl, hw2⟩; obtain rfl := hw2.symm)))
   all_goals
    have HS : Hid (MatF (w1.setCell ⟨ga, k, none⟩ (.int .u8 ((X ^^^ Gf.mul Y y : Nat) : Int))) B E G r cap g C W (addK a b y (k + 1) F)) := by
     have := MatF.set (KM.out.below hb1) (i := a) (j := k) (v := X ^^^ Gf.mul Y y) ha hlt (fun p q _ _ => KE.out p q)
     rw [KG.out] at this
     exact this
    have HG : Hid (w.grownBy (w1.setCell ⟨ga, k, none⟩ (.int .u8 ((X ^^^ Gf.mul Y y : Nat) : Int))) (some ga)) := grownBy_trans (grown_belowM hgr hb1) (grown_set _ _ _ _)
    clear KM
    go_wp2
    go_roundw
    case rel => exact ⟨k + 1, by omega, by go_num, HS.out, HG.out⟩
    case measure => simp [intOf] <;> omega
  ·obtain rfl : k = W := by omega
   have KM : Hid (MatF wr B E G r cap g C k (addK a b y k F)) := hM
   clear hM
   go_wp2
   go_end0
   exact ⟨rfl, KM.out, hgr⟩
section
variable {k : IntKind} {T TT : Nat} {w w' : World} {B E : Nat} {n cap : Nat} {A : Nat → Option Addr} {L C : Nat → Nat} {Z : Nat → Nat → Int}
theorem MatZ.grew (hT : T ≠ TT) {G g0 g i l c E' : Nat} {z : Nat → Int} (h : MatZ k T TT w B E (some ⟨G, 0, none⟩) n cap A L C Z) (hi : i < n) (hA : A i = some ⟨g0, 0, none⟩) (hg : w.grownBy w' (some g0))
  (hrow : w'.ownsRow B T 1 (.slice (some ⟨g, 0, none⟩) l c) l ((zI z l).map (Value.int k))) (hat : g = g0 ∨ w.heap.size ≤ g) (hE : E ≤ E') (hE' : g < E') :
  w'.cell? ⟨G, i, none⟩ = some (.slice (A i) (L i) (C i)) ∧ w'.frozen? ⟨G, i, none⟩ = false ∧
  MatZ k T TT (w'.setCell ⟨G, i, none⟩ (.slice (some ⟨g, 0, none⟩) l c)) B E' (some ⟨G, 0, none⟩) n cap (fun j => if j = i then some ⟨g, 0, none⟩ else A j) (fun j => if j = i then l else L j) (fun j => if j = i then c else C j) (fun j => if j = i then z else Z j) ∧ w'.grownBy (w'.setCell ⟨G, i, none⟩ (.slice (some ⟨g, 0, none⟩) l c)) (some G) := by
 have hgs := grown_set w' G i (.slice (some ⟨g, 0, none⟩) l c)
 have ho := own_kept h.out hg (fun x e => by cases e; exact (h.off hT hi hA).symm)
 have hgG : g ≠ G := by
  intro e
  subst e
  rcases own_shape hrow with ⟨h', _⟩ | ⟨g1, c1, e1, _, hg1, _⟩
  ·cases h'
  ·rcases own_shape ho with ⟨h', _⟩ | ⟨g2, c2, e2, _, hg2, _⟩
   ·cases h'
   ·cases e1
    cases e2
    rw [hg1] at hg2
    cases hg2
    exact hT rfl
 refine ⟨?_, ho.frozenAt i, ⟨?_, fun x e => ?_, fun p hp => ?_, fun p hp x ex => ?_, fun p q hp hq hpq x y ex ey => ?_⟩, hgs⟩
 ·rw [ho.cellAt i (by omega), hds_get _ _ _ _ _ hi]
 ·have h1 := (ho.stored i (.slice (some ⟨g, 0, none⟩) l c)).1
  rw [hds_set] at h1
  exact h1
 ·have := h.oE x e; omega
 ·by_cases e : p = i
  ·subst e
   simp only [if_pos]
   exact own_kept hrow hgs (fun x ex => by cases ex; exact hgG)
  ·simp only [if_neg e]
   have h1 := own_kept (h.row p hp) hg (fun x ex => h.apart p i hp hi e x _ ex hA)
   refine own_kept h1 hgs (fun x ex => ?_)
   have hr := h.row p hp
   rw [ex] at hr
   rcases own_shape hr with ⟨h', _⟩ | ⟨g1, c1, e1, _⟩
   ·cases h'
   ·cases e1
    exact h.off hT hp ex
 ·by_cases e : p = i
  ·simp only [if_pos e] at ex; cases ex; exact hE'
  ·simp only [if_neg e] at ex
   have := h.rE p hp x ex
   omega
 ·have key : ∀ q, q < n → q ≠ i → ∀ y, A q = some y → y.block ≠ g := fun q hq hqi y ey => by
   rcases hat with rfl | hat
   ·exact h.apart q i hq hi hqi y _ ey hA
   ·have hr := h.row q hq
    rw [ey] at hr
    have := (hr.lt y.block rfl).2
    omega
  by_cases e : p = i
  ·simp only [if_pos e] at ex
   cases ex
   simp only [if_neg (show q ≠ i by omega)] at ey
   exact (key q hq (by omega) y ey).symm
  ·simp only [if_neg e] at ex
   by_cases e2 : q = i
   ·simp only [if_pos e2] at ey
    cases ey
    exact key p hp e x ex
   ·simp only [if_neg e2] at ey
    exact h.apart p q hp hq hpq x y ex ey
end
theorem news_below {w w' : World} {ad : Addr} {news : List Value} (h : ∀ j u, news[j]? = some u → w.cell? (ad.add j) = some u) (hb : Below w.heap.size w w') : ∀ j u, news[j]? = some u → w'.cell? (ad.add j) = some u := fun j u hu =>
 (hb.cell (p := ad.add j) (block_lt_of_cell (h j u hu))).trans (h j u hu)
end Go.Proofs.YtgooamiggebibaaGreatDoor
namespace Go.Proofs.YtgooamiggebibaaGreatDoor
def OwnB (w : World) (B g n cap : Nat) (f : Nat → Nat) : Prop := w.ownsRow B 5 1 (.slice (some ⟨g, 0, none⟩) n cap) n ((eI f n).map (Value.int .u8))
theorem OwnB.lt {w : World} {B g n cap : Nat} {f : Nat → Nat} (h : OwnB w B g n cap f) : B ≤ g ∧ g < w.heap.size := World.ownsRow.lt h g rfl
theorem OwnB.cell {w : World} {B g n cap i : Nat} {f : Nat → Nat} (h : OwnB w B g n cap f) (hi : i < n) : w.cell? ⟨g, i, none⟩ = some (.int .u8 ((f i : Nat) : Int)) := by
 rw [World.ownsRow.cellAt h i (by omega)]
 simp [eI, hi]
theorem OwnB.below {w w' : World} {B g n cap : Nat} {f : Nat → Nat} (h : OwnB w B g n cap f) (hb : Below w.heap.size w w') : OwnB w' B g n cap f := ownsRow_below h hb
theorem OwnB.congr {w : World} {B g n cap : Nat} {f h : Nat → Nat} (ho : OwnB w B g n cap f) (e : ∀ i, i < n → f i = h i) : OwnB w B g n cap h := by
 unfold OwnB at *
 rw [← eI_congr e]
 exact ho
theorem OwnB.set {w : World} {B g n cap k v : Nat} {f : Nat → Nat} (h : OwnB w B g n cap f) (hk : k < n) :
  OwnB (w.setCell ⟨g, k, none⟩ (.int .u8 (v : Int))) B g n cap (fun i => if i = k then v else f i) ∧ w.grownBy (w.setCell ⟨g, k, none⟩ (.int .u8 (v : Int))) (some g) := by
 have h1 := (World.ownsRow.stored h k (.int .u8 (v : Int))).1
 rw [eI_set f n k v .u8 hk] at h1
 exact ⟨h1, grown_set w g k _⟩
def rs (R : Nat → Nat) (T : Nat → Nat → Nat) (i p : Nat) : Nat := Gm.sm (fun t => Gp.m (R t) (T t p)) i
theorem rs_lt (R : Nat → Nat) (T : Nat → Nat → Nat) (i p : Nat) : rs R T i p < 256 := Gm.sm_lt (fun _ => Gp.m_lt _ _) _
theorem rs_step {R : Nat → Nat} {T : Nat → Nat → Nat} {i q : Nat} (hR : R i < 256) (hT : T i q < 256) (p : Nat) : (if p = q then rs R T i q ^^^ Gf.mul (T i q) (R i) else if p < q then rs R T (i + 1) p else rs R T i p) = if p < q + 1 then rs R T (i + 1) p else rs R T i p := by
 by_cases e : p = q
 ·subst e
  rw [if_pos rfl, if_pos (by omega), Gp.m_nat hT hR, Gp.m_comm]
  rfl
 ·rw [if_neg e]
  by_cases e2 : p < q
  ·rw [if_pos e2, if_pos (by omega)]
  ·rw [if_neg e2, if_neg (by omega)]
def lenV : Value → Nat
 | .slice _ n _ => n
 | _ => 0
structure Chg (S : Nat → Prop) (w w' : World) : Prop where
 os : w'.os = w.os
 tape : w'.tape = w.tape
 output : w'.output = w.output
 size : w.heap.size ≤ w'.heap.size
 block : ∀ j, j < w.heap.size → ¬ S j → w'.heap[j]? = w.heap[j]?
theorem Chg.refl (S : Nat → Prop) (w : World) : Chg S w w := ⟨rfl, rfl, rfl, Nat.le_refl _, fun _ _ _ => rfl⟩
theorem Chg.trans {S : Nat → Prop} {w w1 w2 : World} (h : Chg S w w1) (h2 : Chg S w1 w2) : Chg S w w2 :=
 ⟨h2.os.trans h.os, h2.tape.trans h.tape, h2.output.trans h.output, Nat.le_trans h.size h2.size, fun j hj hn => (h2.block j (Nat.lt_of_lt_of_le hj h.size) hn).trans (h.block j hj hn)⟩
theorem Chg.grown {S : Nat → Prop} {w w' : World} {b : Nat} (h : w.grownBy w' (some b)) (hb : S b) : Chg S w w' :=
 ⟨h.os, h.tape, h.output, h.size, fun j hj hn => h.block j hj (fun e => by cases e; exact hn hb)⟩
theorem Chg.of_below (S : Nat → Prop) {w w' : World} (h : Below w.heap.size w w') : Chg S w w' := ⟨h.os, h.tape, h.output, h.size, fun j hj _ => h.block j hj⟩
theorem Chg.imp {S S' : Nat → Prop} {w w' : World} (h : Chg S w w') (hi : ∀ j, S j → S' j) : Chg S' w w' := ⟨h.os, h.tape, h.output, h.size, fun j hj hn => h.block j hj (fun hs => hn (hi j hs))⟩
theorem Chg.at {S : Nat → Prop} {w w' : World} {b : Nat} {o : Obj} (h : Chg S w w') (hb : w.heap[b]? = some o) (hn : ¬ S b) : w'.heap[b]? = some o := by
 rw [h.block b (lt_of_block hb) hn]; exact hb
def clrK (s k q : Nat) (N : Nat → Nat → Nat) (p j : Nat) : Nat := if p < q ∧ p ≠ s then N p j ^^^ Gp.m (N s j) (N p k) else N p j
theorem clrK_byt {s k q : Nat} {N : Nat → Nat → Nat} (h : Gm.Byt N) : Gm.Byt (clrK s k q N) := fun p j => by
 unfold clrK
 split
 ·exact Gp.xor_lt (h _ _) (Gp.m_lt _ _)
 ·exact h _ _
theorem clearPlace_any (B E G r cap : Nat) (g C : Nat → Nat) (W : Nat) (F : Nat → Nat → Nat) (s k : Nat) (w : World) (h : MatF w B E G r cap g C W F) (hF : Gm.Byt F) (hs : s < r) (hk : k < W) (hW : W ≤ 1048576) (hr : r ≤ 1048576) :
  Calls Tryz.prog 188 #[.slice (some ⟨G, 0, none⟩) r cap, .int .i64 (s : Int), .int .i64 (k : Int)] w fun e w' => e = .returned (.tuple #[]) ∧ MatF w' B E G r cap g C W (Gm.clr s (fun i => Gm.scl s (Gf.inv (F s k)) F i k) (Gm.scl s (Gf.inv (F s k)) F)) ∧ Chg (fun b => ∃ i, i < r ∧ b = g i) w w' := by
 have hsi : (s : Int) < (r : Int) := by omega
 have hki : (k : Int) < (W : Int) := by omega
 have hh0 := h.hdr hs
 have he0 := h.elt (j := k) hs rfl hk
 have hf := hF s k
 have K0 : Hid (MatF w B E G r cap g C W F) := h
 obtain ⟨X, hX⟩ : ∃ X, F s k = X := ⟨_, rfl⟩
 rw [hX] at he0 hf ⊢
 clear hX
 have hx := Gf.inv_lt X
 have KF : Hid (Gm.Byt F) := hF
 have hNb : Gm.Byt (Gm.scl s (Gf.inv X) F) := Gm.scl_byt hF
 have KN : Hid (Gm.Byt (Gm.scl s (Gf.inv X) F)) := hNb
 clear h hF hNb
 obtain ⟨gs, hgs⟩ : ∃ gs, g s = gs := ⟨_, rfl⟩
 obtain ⟨Cs, hCs⟩ : ∃ Cs, C s = Cs := ⟨_, rfl⟩
 rw [hgs] at hh0 he0
 rw [hCs] at hh0
 have KG : Hid (g s = gs) := hgs
 clear hgs hCs
 go_enter Tryz.func188, Tryz.ntmps188
 go_wp2_with fail
 refine (inverse_any X _ hf).mono ?_
 rintro e w1 ⟨rfl, hb1⟩
 go_wp2_with fail
 refine (scaleRow_any B E G r cap g C W F s (Gf.inv X) w1 (K0.out.below hb1) KF.out hs hx hW).mono ?_
 rintro e w2 ⟨rfl, hM2, hg2⟩
 have KC : Hid (Chg (fun b => ∃ i, i < r ∧ b = g i) w w2) := (Chg.of_below _ hb1).trans (Chg.grown hg2 ⟨s, hs, rfl⟩)
 have KM : Hid (MatF w2 B E G r cap g C W (Gm.scl s (Gf.inv X) F)) := hM2
 clear hM2 hg2 hb1 K0 hh0 he0
 obtain ⟨N, hN⟩ : ∃ N, Gm.scl s (Gf.inv X) F = N := ⟨_, rfl⟩
 rw [hN] at KM KN
 have KNN : Hid (Gm.scl s (Gf.inv X) F = N) := hN
 clear hN
 go_wp2
 go_loopw [20] (fun i wr => ∃ q : Nat, q ≤ r ∧ i = .int .i64 q ∧ MatF wr B E G r cap g C W (clrK s k q N) ∧ Chg (fun b => ∃ i, i < r ∧ b = g i) w wr) (fun i _ => r - (intOf i).toNat)
 case atStart => exact ⟨0, Nat.zero_le _, rfl, KM.out.congr (fun i _ => ⟨rfl, rfl, rfl, fun j _ => by unfold clrK; rw [if_neg (by omega)]⟩), KC.out⟩
 case round =>
  obtain ⟨q, hq, rfl, hM, hC⟩ := hrel
  clear KM KC
  by_cases hlt : q < r
  ·have hqi : (q : Int) < (r : Int) := by omega
   by_cases hqs : q = s
   ·subst hqs
    have KM : Hid (MatF wr B E G r cap g C W (clrK q k q N)) := hM
    clear hM
    go_wp2
    go_roundw
    case rel => exact ⟨q + 1, by omega, by go_num, KM.out.congr (fun i _ => ⟨rfl, rfl, rfl, fun j _ => by
     unfold clrK
     by_cases e : i < q ∧ i ≠ q
     ·rw [if_pos e, if_pos (by omega)]
     ·rw [if_neg e, if_neg (by omega)]⟩), hC⟩
    case measure => simp [intOf] <;> omega
   ·have hne : ((q : Int) != (s : Int)) = true := by simp; omega
    have hh := hM.hdr hlt
    have he := hM.elt (j := k) hlt rfl hk
    have hval : clrK s k q N q k = N q k := by unfold clrK; rw [if_neg (by omega)]
    rw [hval] at he
    have hy := KN.out q k
    have KM : Hid (MatF wr B E G r cap g C W (clrK s k q N)) := hM
    have KE : Hid (∀ i j, addK q s (N q k) W (clrK s k q N) i j = if i < r ∧ j < W then clrK s k (q + 1) N i j else addK q s (N q k) W (clrK s k q N) i j) := fun i j => by
     by_cases hij : i < r ∧ j < W
     ·rw [if_pos hij]
      unfold addK clrK
      by_cases e : i = q
      ·subst e
       rw [if_pos ⟨rfl, hij.2⟩, if_neg (by omega), if_neg (by omega), if_pos ⟨by omega, hqs⟩]
      ·rw [if_neg (by omega)]
       by_cases e2 : i < q ∧ i ≠ s
       ·rw [if_pos e2, if_pos (by omega)]
       ·rw [if_neg e2, if_neg (by omega)]
     ·rw [if_neg hij]
    clear hM hval
    obtain ⟨Y, hY⟩ : ∃ Y, N q k = Y := ⟨_, rfl⟩
    rw [hY] at he hy KE
    clear hY
    obtain ⟨gq, hgq⟩ : ∃ gq, g q = gq := ⟨_, rfl⟩
    obtain ⟨Cq, hCq⟩ : ∃ Cq, C q = Cq := ⟨_, rfl⟩
    rw [hgq] at hh he
    rw [hCq] at hh
    have KGq : Hid (g q = gq) := hgq
    clear hgq hCq
    go_wp2_with fail
    refine (addScaledRow_any B E G r cap g C W (clrK s k q N) q s Y wr KM.out (clrK_byt KN.out) hlt hs hqs hy hW).mono ?_
    rintro e w3 ⟨rfl, hM3, hg3⟩
    have HS : Hid (MatF w3 B E G r cap g C W (clrK s k (q + 1) N)) := hM3.congr (fun i hi => ⟨rfl, rfl, rfl, fun j hj => by
     have := KE.out i j
     rw [if_pos ⟨hi, hj⟩] at this
     rw [this]⟩)
    have HC : Hid (Chg (fun b => ∃ i, i < r ∧ b = g i) w w3) := hC.trans (Chg.grown hg3 ⟨q, hlt, rfl⟩)
    clear hM3 hg3 KM hC
    go_wp2
    go_roundw
    case rel => exact ⟨q + 1, by omega, by go_num, HS.out, HC.out⟩
    case measure => simp [intOf] <;> omega
  ·obtain rfl : q = r := by omega
   have KM : Hid (MatF wr B E G q cap g C W (clrK s k q N)) := hM
   clear hM
   go_wp2
   go_end0
   refine ⟨rfl, ?_, hC⟩
   rw [KNN.out]
   exact KM.out.congr (fun i hi => ⟨rfl, rfl, rfl, fun j _ => by
    unfold clrK Gm.clr
    by_cases e : i = s
    ·rw [if_neg (by omega), if_pos e]
    ·rw [if_pos ⟨hi, e⟩, if_neg e]⟩)
theorem side_inB (n : Int) : inB n 1 16 = side n := rfl
theorem invM {x : Nat} (h : x < 256) (h0 : x ≠ 0) : invI (x : Int) = ((Gf.inv x : Nat) : Int) := by
 unfold invI
 rw [if_pos (by omega)]
 simp
theorem sSpread_any (k n : Int) (w : World) : Calls Tryz.prog 97 #[.int .i64 k, .int .i64 n] w fun e w' => ∃ v, e = .returned (.tuple #[v, .bool (sprOk k n)]) ∧ ResM w w' v (sprR k n) k.toNat (Gm.sprd k.toNat) ∧ Below w.heap.size w w' := by
 obtain ⟨i0, hi, hz0, hz1, hz2⟩ := info_parts Tryz.infoInt
 obtain ⟨i1, hj, hy0, hy1, hy2⟩ := info_parts Tryz.infoInts
 have hin := side_inB n
 by_cases h1 : side n = true
 case neg =>
  have h1' : side n = false := by simpa using h1
  have hok : sprOk k n = false := by unfold sprOk; simp [h1']
  have hN : sprR k n = 0 := by unfold sprR; rw [if_neg (by rw [hok]; simp)]
  rw [hN, hok]
  rw [h1'] at hin
  clear hok hN hi hz0 hz1 hz2 hj hy0 hy1 hy2
  go_enter Tryz.func97, Tryz.ntmps97
  go_wp2_with (go_at_call 94; refine (sIn_any _ _ _ _).mono ?_; rintro e w' ⟨rfl, hw⟩; obtain rfl := hw.symm)
  go_ret2
  exact ⟨_, rfl, resLit0 _ _ (Nat.le_refl _) _ _, (Below.refl _ _).alloc (Nat.le_refl _) _⟩
 rw [h1] at hin
 by_cases h2 : 1 ≤ k ∧ k ≤ n
 case neg =>
  have hok : sprOk k n = false := by unfold sprOk; simp [h2]
  have hN : sprR k n = 0 := by unfold sprR; rw [if_neg (by rw [hok]; simp)]
  have hin2 : inB k 1 n = false := by unfold inB; simpa using h2
  rw [hN, hok]
  clear hok hN h2 hi hz0 hz1 hz2 hj hy0 hy1 hy2
  go_enter Tryz.func97, Tryz.ntmps97
  go_wp2_with (go_at_call 94; refine (sIn_any _ _ _ _).mono ?_; rintro e w' ⟨rfl, hw⟩; obtain rfl := hw.symm)
  go_ret2
  exact ⟨_, rfl, resLit0 _ _ (Nat.le_refl _) _ _, (Below.refl _ _).alloc (Nat.le_refl _) _⟩
 have hr : 1 ≤ n ∧ n ≤ 16 := by simpa [side] using h1
 have hin2 : inB k 1 n = true := by unfold inB; simpa using h2
 have hok : sprOk k n = true := by unfold sprOk; rw [h1]; simp; omega
 obtain ⟨N, rfl⟩ : ∃ N : Nat, n = (N : Int) := ⟨n.toNat, by omega⟩
 obtain ⟨K, rfl⟩ : ∃ K : Nat, k = (K : Int) := ⟨k.toNat, by omega⟩
 have hN : sprR (K : Int) (N : Int) = N := by unfold sprR; rw [if_pos hok]; simp
 rw [hN, hok, Int.toNat_natCast]
 have hK1 : 1 ≤ K := by omega
 have hKN : K ≤ N := by omega
 have hN16 : N ≤ 16 := by omega
 clear hN hok hr h1 h2
 have KU : Hid _ := sUnit0_any K w (by omega)
 go_enter Tryz.func97, Tryz.ntmps97
 go_wp2_with (go_at_call 94; refine (sIn_any _ _ _ _).mono ?_; rintro e w' ⟨rfl, hw⟩; obtain rfl := hw.symm)
 refine Calls.mono KU.out ?_
 rintro e w1 ⟨G1, cap1, A1, C1, rfl, hM1, hb1⟩
 have H0 : Hid (MatI w1 w.heap.size w1.heap.size (some ⟨G1, 0, none⟩) K cap1 A1 (fun _ => K) C1 (fun i j => ((Gm.sprd K i j : Nat) : Int))) := hM1.congr (fun i hi => ⟨rfl, rfl, rfl, fun j _ => by unfold Gm.sprd; rw [if_pos hi]⟩)
 clear hM1 KU hin hin2
 go_wp2
 go_loopw [6, 7] (fun v i wr => ∃ k G cap A C, K ≤ k ∧ k ≤ N ∧ i = .int .i64 ((k : Nat) : Int) ∧ v = .slice (some ⟨G, 0, none⟩) k cap ∧ MatI wr w.heap.size wr.heap.size (some ⟨G, 0, none⟩) k cap A (fun _ => K) C (fun i j => ((Gm.sprd K i j : Nat) : Int)) ∧ Below w.heap.size w wr) (fun _ i _ => N - (intOf i).toNat)
 case atStart => exact ⟨K, G1, cap1, A1, C1, Nat.le_refl _, hKN, rfl, rfl, H0.out, hb1⟩
 case round =>
  obtain ⟨k, G, cap, A, C, hk0, hk, rfl, rfl, hM, hbel⟩ := hrel
  clear H0
  by_cases hlt : k < N
  ·have hki : (k : Int) < (N : Int) := by omega
   have hsz0 := hbel.size
   have KR : Hid (OwnR (wr.alloc (.cells #[] 3)) wr.heap.size wr.heap.size 0 0 (Gm.sprd K k)) := lit0 wr (Gm.sprd K k)
   have KM : Hid (MatI (wr.alloc (.cells #[] 3)) w.heap.size wr.heap.size (some ⟨G, 0, none⟩) k cap A (fun _ => K) C (fun i j => ((Gm.sprd K i j : Nat) : Int))) := hM.below ((Below.refl _ _).alloc (Nat.le_refl _) _)
   have KB : Hid (Below w.heap.size w (wr.alloc (.cells #[] 3))) := hbel.alloc hsz0 _
   have hGl := hM.olt.1
   clear hM hbel
   obtain ⟨b0, hb0⟩ : ∃ b0, wr.heap.size = b0 := ⟨_, rfl⟩
   rw [hb0] at KR KM hsz0
   go_wp2
   clear hb0
   go_loopw [8, 9] (fun v i wr => ∃ q gr capr, q ≤ K ∧ i = .int .i64 ((q : Nat) : Int) ∧ v = .slice (some ⟨gr, 0, none⟩) q capr ∧ OwnR wr b0 gr q capr (Gm.sprd K k) ∧ MatI wr w.heap.size b0 (some ⟨G, 0, none⟩) k cap A (fun _ => K) C (fun i j => ((Gm.sprd K i j : Nat) : Int)) ∧ Below w.heap.size w wr) (fun _ i _ => K - (intOf i).toNat)
   case atStart => exact ⟨0, _, _, Nat.zero_le _, rfl, rfl, KR.out, KM.out, KB.out⟩
   case round =>
    obtain ⟨q, gr, capr, hq, rfl, rfl, hown, hM, hbel⟩ := hrel
    clear KR KM KB
    have hgr := hown.lt.1
    have hsz := hbel.size
    have hglt := hown.lt.2
    by_cases hqn : q < K
    ·have hqi : (q : Int) < (K : Int) := by omega
     have hxr := xor_i64 k q (by omega) (by omega)
     have hx0 : k ^^^ q ≠ 0 := fun e => by have := Gp.xor_eq e; omega
     have hxl : k ^^^ q < 256 := Gf.xor_lt (by omega) (by omega)
     have HV : Hid (Gm.sprd K k q = Gf.inv (k ^^^ q)) := by show _ = _; unfold Gm.sprd; rw [if_neg (by omega)]
     have hiv := invM hxl hx0
     have hS := fun w => sInv_any ((k ^^^ q : Nat) : Int) w
     rw [hiv] at hS
     generalize Gf.inv (k ^^^ q) = V at HV hS
     clear hiv hx0
     go_wp2_with (first | (go_at_call 132; refine (hS _).mono ?_; rintro e w' ⟨rfl, hw⟩; obtain rfl := hw.symm) | (at_builtin; refine wpList_append_lies _ (by rfl) _ _ 23 (by rfl) b0 3 i0 (.int .i64 0) 1 8 Tryz.underlying23 hi hz0 hz1 hz2 rfl (by decide) (.slice (some ⟨gr, 0, none⟩) q capr) q _ (by rfl) (World.ownsRow.alloc hown _) ⟨wr.heap.size, 0, none⟩ 1 1 [.int .i64 (V : Int)] (by rfl) (by rfl) (World.news_of_block (cs := #[.int .i64 (V : Int)]) (t := 3) (fr := (0, 0)) (heap_alloc_new wr _)) (by simp [Value.oneCell']) (by omega) (by unfold maxLen; omega) (by omega) (by simp; omega) (wr.heap.size + 1) (by simp) ?_; intro g2 cap3 w2 hown2 hgrow hat hltg))
     have HO : Hid (OwnR w2 b0 g2 (q + 1) cap3 (Gm.sprd K k)) := OwnR.snoc (by rw [HV.out]; exact hown2)
     have HM : Hid (MatI w2 w.heap.size b0 (some ⟨G, 0, none⟩) k cap A (fun _ => K) C (fun i j => ((Gm.sprd K i j : Nat) : Int))) := MatI.rowed _ hM hgr hgrow
     have hb' : Below w.heap.size w w2 := (hbel.alloc hsz _).grown (show World.grownBy _ w2 (some gr) from hgrow) (by simp; omega) (fun j hj => by cases hj; omega)
     clear hown2 hgrow hat hltg hown hM
     go_roundw
     case rel => exact ⟨q + 1, g2, cap3, by omega, by go_num, rfl, HO.out, HM.out, hb'⟩
     case measure => simp [intOf] <;> omega
    ·obtain rfl : K = q := by omega
     have hqi : ¬ (K : Int) < (K : Int) := by omega
     go_wp2_with (at_builtin; refine wpList_append_lies _ (by rfl) _ _ 136 (by rfl) w.heap.size 23 i1 (.slice none 0 0) 1 24 Tryz.underlying136 hj hy0 hy1 hy2 rfl (by decide) (.slice (some ⟨G, 0, none⟩) k cap) k _ (by rfl) (World.ownsRow.alloc hM.out _) ⟨wr.heap.size, 0, none⟩ 1 1 [.slice (some ⟨gr, 0, none⟩) K capr] (by rfl) (by rfl) (World.news_of_block (cs := #[.slice (some ⟨gr, 0, none⟩) K capr]) (t := 23) (fr := (0, 0)) (heap_alloc_new wr _)) (by simp [Value.oneCell']) (by omega) (by unfold maxLen; omega) (by omega) (by simp; omega) (wr.heap.size + 1) (by simp) ?_; intro g2 cap3 w2 hown2 hgrow hat hltg)
     obtain ⟨A', C', hP⟩ := MatI.pushed _ hM hsz0 hown hgrow hown2
     have HP : Hid (MatI w2 w.heap.size w2.heap.size (some ⟨g2, 0, none⟩) (k + 1) cap3 A' (fun _ => K) C' (fun i j => ((Gm.sprd K i j : Nat) : Int))) := hP
     have hb' : Below w.heap.size w w2 := (hbel.alloc hsz _).grown (show World.grownBy _ w2 (some G) from hgrow) (by simp; omega) (fun j hj => by cases hj; exact hGl)
     clear hown2 hgrow hat hltg hown hM hP
     go_roundw
     case rel => exact ⟨k + 1, g2, cap3, A', C', by omega, by omega, by go_num, rfl, HP.out, hb'⟩
     case measure => simp [intOf] <;> omega
  ·obtain rfl : k = N := by omega
   have KM : Hid _ := hM
   clear hM
   go_wp2
   go_ret2
   exact ⟨_, rfl, ResM.mk KM.out (Nat.le_refl _), hbel⟩
end Go.Proofs.YtgooamiggebibaaGreatDoor
