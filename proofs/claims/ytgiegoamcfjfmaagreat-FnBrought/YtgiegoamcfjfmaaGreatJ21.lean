/- The draws of matrices: what each gives, at any bytes: some list of rows, at most 17 of them, each of 1 to 6 numbers. Condition: at most 2^20 bytes of code. -/
import Derived.Test.YtgiegoamcfjfmaaGreatJ12
import Derived.Test.YtgiegoamcfjfmaaGreatJ17
import Derived.Deep.RegionLaw
namespace Go.Proofs.YtgiegoamcfjfmaaGreat
set_option maxRecDepth 2000
open Go.ChangeShapes Go.WideShapes Go.ChangeAt Go.RowKit

theorem MatZ.base {k : IntKind} {T TT : Nat} {w : World} {B E : Nat} {a : Option Addr} {n cap : Nat} {A : Nat → Option Addr} {L C : Nat → Nat} {Z : Nat → Nat → Int} (h : MatZ k T TT w B E a n cap A L C Z) : (∀ x, a = some x → B ≤ x.block) ∧ ∀ i, i < n → ∀ x, A i = some x → B ≤ x.block := by
  refine ⟨fun x e => ?_, fun i hi x e => ?_⟩
  · rcases own_shape h.out with ⟨h', _⟩ | ⟨g, _, e', hb, _⟩
    · rw [h'] at e; cases e
    · rw [e'] at e; cases e; exact hb
  · rcases own_shape (h.row i hi) with ⟨h', _⟩ | ⟨g, _, e', hb, _⟩
    · rw [h'] at e; cases e
    · rw [e'] at e; cases e; exact hb
/-- The cursor's block turned, which lies ahead of the matrix. -/
theorem MatZ.cur {k : IntKind} {T TT : Nat} {w w' : World} {B E g : Nat} {a : Option Addr} {n cap : Nat} {A : Nat → Option Addr} {L C : Nat → Nat} {Z : Nat → Nat → Int} (h : MatZ k T TT w B E a n cap A L C Z) (hg : w.grownBy w' (some g)) (hB : g < B) : MatZ k T TT w' B E a n cap A L C Z :=
  h.kept hg (fun x e => by have := h.base.1 x e; omega) (fun i hi x e => by have := h.base.2 i hi x e; omega)
/-- Some list of rows of ours, each of 1 to 6 numbers. -/
def DM (u : Nat) (w : World) (B E G n cap : Nat) : Prop := ∃ A L C Z, MatI w B E (some ⟨G, 0, none⟩) n cap A L C Z ∧ ∀ i, i < n → 1 ≤ L i ∧ L i ≤ u
theorem DM.cur {u : Nat} {w w' : World} {B E G n cap g : Nat} (h : DM u w B E G n cap) (hg : w.grownBy w' (some g)) (hB : g < B) : DM u w' B E G n cap := by
  obtain ⟨A, L, C, Z, hM, hL⟩ := h
  exact ⟨A, L, C, Z, hM.cur hg hB, hL⟩
theorem DM.below {u : Nat} {w w' : World} {B E G n cap : Nat} (h : DM u w B E G n cap) (hb : Below w.heap.size w w') : DM u w' B E G n cap := by
  obtain ⟨A, L, C, Z, hM, hL⟩ := h
  exact ⟨A, L, C, Z, hM.below hb, hL⟩
theorem DM.wide {u : Nat} {w : World} {B E E' G n cap : Nat} (h : DM u w B E G n cap) (hE : E ≤ E') : DM u w B E' G n cap := by
  obtain ⟨A, L, C, Z, hM, hL⟩ := h
  exact ⟨A, L, C, Z, hM.wide hE, hL⟩
theorem DM.at {u : Nat} {w : World} {B E G n cap : Nat} (h : DM u w B E G n cap) : ∃ L Z, MatAt w (some ⟨G, 0, none⟩) n L Z ∧ ∀ i, i < n → 1 ≤ L i ∧ L i ≤ u := by
  obtain ⟨A, L, C, Z, hM, hL⟩ := h
  exact ⟨L, Z, hM.at, hL⟩
theorem DM.pushed {u : Nat} {wr w2 : World} {B b0 G k cap g2 cap3 gr W capr : Nat} {A : Nat → Option Addr} {L C : Nat → Nat} {Z : Nat → Nat → Int} {xs : List Int} (o : Obj) (hM : MatI wr B b0 (some ⟨G, 0, none⟩) k cap A L C Z) (hL : ∀ i, i < k → 1 ≤ L i ∧ L i ≤ u) (hW : 1 ≤ W ∧ W ≤ u)
    (hb : B ≤ b0) (hr : wr.ownsRow b0 3 1 (.slice (some ⟨gr, 0, none⟩) W capr) W (xs.map (Value.int .i64))) (hgrow : (wr.alloc o).grownBy w2 (some G))
    (hout : w2.ownsRow B 60 1 (.slice (some ⟨g2, 0, none⟩) (k + 1) cap3) (k + 1) (hds A L C k ++ [.slice (some ⟨gr, 0, none⟩) W capr])) :
    DM u w2 B w2.heap.size g2 (k + 1) cap3 := by
  have hbo : Below wr.heap.size wr (wr.alloc o) := (Below.refl _ _).alloc (Nat.le_refl _) _
  have hM1 := hM.below hbo
  have hlen : xs.length = W := by simpa using hr.1
  have hr1 : (wr.alloc o).ownsRow B 3 1 (.slice (some ⟨gr, 0, none⟩) W capr) W ((zI (fun j => xs.getD j 0) W).map (Value.int .i64)) := by
    have e : zI (fun j => xs.getD j 0) W = xs := by rw [← hlen]; exact zI_of xs
    rw [e]
    exact own_base (ownsRow_below hr hbo) hb
  have hgr := (hr.lt gr rfl).1
  refine ⟨_, _, _, _, MatZ.push tiNe hM1 hgrow hout (Nat.le_refl _) ?_ hr1 (fun j hj y u ey eu => ?_), fun i hi => ?_⟩
  · exact Nat.le_trans (Nat.le_of_lt (Nat.lt_of_le_of_lt hgr (hr.lt gr rfl).2)) (Nat.le_trans hbo.size hgrow.size)
  · cases eu
    have := hM.rE j hj y ey
    exact Nat.ne_of_lt (Nat.lt_of_lt_of_le this hgr)
  · by_cases e : i = k
    · simp only [if_pos e]; exact hW
    · simp only [if_neg e]; exact hL i (by omega)
def lenV : Value → Nat
  | .slice _ n _ => n
  | _ => 0
theorem DM.le {u u' : Nat} {w : World} {B E G n cap : Nat} (h : DM u w B E G n cap) (hu : u ≤ u') : DM u' w B E G n cap := by
  obtain ⟨A, L, C, Z, hM, hL⟩ := h
  exact ⟨A, L, C, Z, hM, fun i hi => ⟨(hL i hi).1, Nat.le_trans (hL i hi).2 hu⟩⟩
theorem DM.grew {u : Nat} {w w' : World} {B E G n cap g0 g i l c : Nat} {A : Nat → Option Addr} {L C : Nat → Nat} {Z : Nat → Nat → Int} {xs : List Int} (hM : MatI w B E (some ⟨G, 0, none⟩) n cap A L C Z) (hL : ∀ i, i < n → 1 ≤ L i ∧ L i ≤ u) (hi : i < n) (hA : A i = some ⟨g0, 0, none⟩) (hg : w.grownBy w' (some g0))
    (hrow : w'.ownsRow B 3 1 (.slice (some ⟨g, 0, none⟩) l c) l (xs.map (Value.int .i64))) (hl : 1 ≤ l ∧ l ≤ u + 1) (hat : g = g0 ∨ w.heap.size ≤ g) (hE : E ≤ w'.heap.size) :
    (∃ v, w'.cell? ⟨G, i, none⟩ = some v) ∧ w'.frozen? ⟨G, i, none⟩ = false ∧ DM (u + 1) (w'.setCell ⟨G, i, none⟩ (.slice (some ⟨g, 0, none⟩) l c)) B (w'.setCell ⟨G, i, none⟩ (.slice (some ⟨g, 0, none⟩) l c)).heap.size G n cap ∧ w'.grownBy (w'.setCell ⟨G, i, none⟩ (.slice (some ⟨g, 0, none⟩) l c)) (some G) := by
  obtain ⟨h1, h2, h3, h4⟩ := MatZ.grew tiNe hM hi hA hg (own_zI hrow) hat hE (hrow.lt g rfl).2
  refine ⟨⟨_, h1⟩, h2, ⟨_, _, _, _, h3.wide h4.size, fun j hj => ?_⟩, h4⟩
  by_cases e : j = i
  · simp only [if_pos e]; exact hl
  · simp only [if_neg e]; exact ⟨(hL j hj).1, Nat.le_succ_of_le (hL j hj).2⟩
theorem DM.hdr {u : Nat} {w : World} {B E G n cap i : Nat} (h : DM u w B E G n cap) (hi : i < n) : (∃ v, w.cell? ⟨G, i, none⟩ = some v) ∧ w.frozen? ⟨G, i, none⟩ = false := by
  obtain ⟨A, L, C, Z, hM, _⟩ := h
  exact ⟨⟨_, hM.hdr hi⟩, hM.ofree i⟩
theorem DM.olt {u : Nat} {w : World} {B E G n cap : Nat} (h : DM u w B E G n cap) : B ≤ G ∧ G < w.heap.size := by
  obtain ⟨A, L, C, Z, hM, _⟩ := h
  exact hM.olt
/-- A new row for an old one. -/
theorem DM.setRow {u : Nat} {w : World} {B E G n cap g l c i : Nat} {xs : List Int} (h : DM u w B E G n cap) (hi : i < n) (hrow : w.ownsRow B 3 1 (.slice (some ⟨g, 0, none⟩) l c) l (xs.map (Value.int .i64))) (hl : 1 ≤ l ∧ l ≤ u) (hE : E ≤ w.heap.size) (hg : E ≤ g) :
    DM u (w.setCell ⟨G, i, none⟩ (.slice (some ⟨g, 0, none⟩) l c)) B (w.setCell ⟨G, i, none⟩ (.slice (some ⟨g, 0, none⟩) l c)).heap.size G n cap ∧ w.grownBy (w.setCell ⟨G, i, none⟩ (.slice (some ⟨g, 0, none⟩) l c)) (some G) := by
  obtain ⟨A, L, C, Z, hM, hL⟩ := h
  have h1 := (hM.wide hE).setRow tiNe hi (own_zI hrow) (hrow.lt g rfl).2 (fun j hj _ x ex => by have := hM.rE j hj x ex; omega)
  refine ⟨⟨_, _, _, _, h1.1.wide h1.2.size, fun j hj => ?_⟩, h1.2⟩
  by_cases e : j = i
  · simp only [if_pos e]; exact hl
  · simp only [if_neg e]; exact hL j hj
theorem DM.setElt {u : Nat} {w : World} {B G n cap g0 i j : Nat} {A : Nat → Option Addr} {L C : Nat → Nat} {Z : Nat → Nat → Int} (hM : MatI w B w.heap.size (some ⟨G, 0, none⟩) n cap A L C Z) (hL : ∀ i, i < n → 1 ≤ L i ∧ L i ≤ u) (hi : i < n) (hA : A i = some ⟨g0, 0, none⟩) (hj : j < L i) (v : Int) :
    DM u (w.setCell ⟨g0, j, none⟩ (.int .i64 v)) B (w.setCell ⟨g0, j, none⟩ (.int .i64 v)).heap.size G n cap ∧ w.grownBy (w.setCell ⟨g0, j, none⟩ (.int .i64 v)) (some g0) := by
  have h1 := hM.setElt tiNe hi hA hj v
  exact ⟨⟨_, _, _, _, h1.1.wide h1.2.size, hL⟩, h1.2⟩

end Go.Proofs.YtgiegoamcfjfmaaGreat
/- The draws of chapter three's laws: matrices, and places that differ. Condition: at most 2^20 bytes of code. -/
namespace Go.Proofs.YtgiegoamcfjfmaaGreat
set_option maxRecDepth 2000
open Go.ChangeShapes Go.WideShapes Go.ChangeAt Go.RowKit

/-- A list of rows that was drawn, in new memory. -/
def Drawn (w' : World) (v : Value) : Prop := ∃ G m cap L Z, v = .slice (some ⟨G, 0, none⟩) m cap ∧ m ≤ 17 ∧ MatAt w' (some ⟨G, 0, none⟩) m L Z ∧ ∀ i, i < m → L i ≤ 6
theorem DM.drawn {w : World} {B E G n cap : Nat} (h : DM 6 w B E G n cap) (hn : n ≤ 17) : Drawn w (.slice (some ⟨G, 0, none⟩) n cap) := by
  obtain ⟨L, Z, h1, h2⟩ := h.at
  exact ⟨G, n, cap, L, Z, rfl, hn, h1, fun i hi => (h2 i hi).2⟩
theorem DM.far {u : Nat} {w w' : World} {B E G n cap g : Nat} (h : DM u w B E G n cap) (hg : w.grownBy w' (some g)) (hB : g < B) : DM u w' B E G n cap := h.cur hg hB
end Go.Proofs.YtgiegoamcfjfmaaGreat
/- The draw of places that differ. Condition: at most 2^20 bytes of code, at most 256 places. -/
namespace Go.Proofs.YtgiegoamcfjfmaaGreat
set_option maxRecDepth 2000
open Go.ChangeShapes Go.WideShapes Go.ChangeAt Go.RowKit

end Go.Proofs.YtgiegoamcfjfmaaGreat
