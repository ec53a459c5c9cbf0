/- Matrices in memory, the second part: a row that has grown is put in its place again. Lemmas alone; conditions stand at each. -/
import Derived.Test.YtggmcgcmpgofcaaL19
import Derived.Test.YtggmcgcmpgofcaaL10
import Derived.Test.YtggmcgcmpgofcaaL15
import Derived.Lib.BufferWrite
import Derived.Laws.CopyOwn
import Derived.Deep.RegionLaw
import Derived.Test.YtggmcgcmpgofcaaL7
import Derived.Test.YtggmcgcmpgofcaaL20
import Derived.Test.YtggmcgcmpgofcaaL8
import Derived.Laws.IdiomStrings
namespace Go.Proofs.Ytggmcgcmpgofcaa
set_option maxRecDepth 2000
open Go.ChangeShapes Go.WideShapes Go.ChangeAt Go.RowKit
section
variable {k : IntKind} {T TT : Nat} {w w' : World} {B E : Nat} {n cap : Nat} {A : Nat → Option Addr} {L C : Nat → Nat} {Z : Nat → Nat → Int}
theorem MatZ.grew (hT : T ≠ TT) {G g0 g i l c E' : Nat} {z : Nat → Int} (h : MatZ k T TT w B E (some ⟨G, 0, none⟩) n cap A L C Z) (hi : i < n) (hA : A i = some ⟨g0, 0, none⟩) (hg : w.grownBy w' (some g0))
    (hrow : w'.ownsRow B T 1 (.slice (some ⟨g, 0, none⟩) l c) l ((zI z l).map (Value.int k))) (hat : g = g0 ∨ w.heap.size ≤ g) (hE : E ≤ E') (hE' : g < E') :
    w'.cell? ⟨G, i, none⟩ = some (.slice (A i) (L i) (C i)) ∧ w'.frozen? ⟨G, i, none⟩ = false ∧
    MatZ k T TT (w'.setCell ⟨G, i, none⟩ (.slice (some ⟨g, 0, none⟩) l c)) B E' (some ⟨G, 0, none⟩) n cap (fun j => if j = i then some ⟨g, 0, none⟩ else A j) (fun j => if j = i then l else L j) (fun j => if j = i then c else C j) (fun j => if j = i then z else Z j) ∧ w'.grownBy (w'.setCell ⟨G, i, none⟩ (.slice (some ⟨g, 0, none⟩) l c)) (some G) := by
  have hgs := grown_set w' G i (.slice (some ⟨g, 0, none⟩) l c)
  have ho := own_kept h.out hg (fun x e => by cases e; exact (h.off hT hi hA).symm)
  have hgG : g ≠ G := by
    intro e
    subst e
    rcases own_shape hrow with ⟨h', _⟩ | ⟨g1, c1, e1, _, hg1, _⟩
    · cases h'
    · rcases own_shape ho with ⟨h', _⟩ | ⟨g2, c2, e2, _, hg2, _⟩
      · cases h'
      · cases e1
        cases e2
        rw [hg1] at hg2
        cases hg2
        exact hT rfl
  refine ⟨?_, ho.frozenAt i, ⟨?_, fun x e => ?_, fun p hp => ?_, fun p hp x ex => ?_, fun p q hp hq hpq x y ex ey => ?_⟩, hgs⟩
  · rw [ho.cellAt i (by omega), hds_get _ _ _ _ _ hi]
  · have h1 := (ho.stored i (.slice (some ⟨g, 0, none⟩) l c)).1
    rw [hds_set] at h1
    exact h1
  · have := h.oE x e; omega
  · by_cases e : p = i
    · subst e
      simp only [if_pos]
      exact own_kept hrow hgs (fun x ex => by cases ex; exact hgG)
    · simp only [if_neg e]
      have h1 := own_kept (h.row p hp) hg (fun x ex => h.apart p i hp hi e x _ ex hA)
      refine own_kept h1 hgs (fun x ex => ?_)
      have hr := h.row p hp
      rw [ex] at hr
      rcases own_shape hr with ⟨h', _⟩ | ⟨g1, c1, e1, _⟩
      · cases h'
      · cases e1
        exact h.off hT hp ex
  · by_cases e : p = i
    · simp only [if_pos e] at ex; cases ex; exact hE'
    · simp only [if_neg e] at ex
      have := h.rE p hp x ex
      omega
  · have key : ∀ q, q < n → q ≠ i → ∀ y, A q = some y → y.block ≠ g := fun q hq hqi y ey => by
      rcases hat with rfl | hat
      · exact h.apart q i hq hi hqi y _ ey hA
      · have hr := h.row q hq
        rw [ey] at hr
        have := (hr.lt y.block rfl).2
        omega
    by_cases e : p = i
    · simp only [if_pos e] at ex
      cases ex
      simp only [if_neg (show q ≠ i by omega)] at ey
      exact (key q hq (by omega) y ey).symm
    · simp only [if_neg e] at ex
      by_cases e2 : q = i
      · simp only [if_pos e2] at ey
        cases ey
        exact key p hp e x ex
      · simp only [if_neg e2] at ey
        exact h.apart p q hp hq hpq x y ex ey
end
theorem own_zI {w : World} {B T l : Nat} {v : Value} {xs : List Int} (h : w.ownsRow B T 1 v l (xs.map (Value.int .i64))) : w.ownsRow B T 1 v l ((zI (fun j => xs.getD j 0) l).map (Value.int .i64)) := by
  have hlen : xs.length = l := by simpa using h.1
  have e : zI (fun j => xs.getD j 0) l = xs := by rw [← hlen]; exact zI_of xs
  rw [e]
  exact h
end Go.Proofs.Ytggmcgcmpgofcaa
/- The program's sums of a row: pieces, or texts, each times its number. Conditions: at most 16 parts, at most 2^20 bytes each. -/
namespace Go.Proofs.Ytggmcgcmpgofcaa
set_option maxRecDepth 2000
open Go.ChangeShapes Go.WideShapes Go.ChangeAt Go.RowKit

/-- A row of bytes of ours. -/
def OwnB (w : World) (B g n cap : Nat) (f : Nat → Nat) : Prop := w.ownsRow B 5 1 (.slice (some ⟨g, 0, none⟩) n cap) n ((eI f n).map (Value.int .u8))
theorem OwnB.lt {w : World} {B g n cap : Nat} {f : Nat → Nat} (h : OwnB w B g n cap f) : B ≤ g ∧ g < w.heap.size := World.ownsRow.lt h g rfl
theorem OwnB.cell {w : World} {B g n cap i : Nat} {f : Nat → Nat} (h : OwnB w B g n cap f) (hi : i < n) : w.cell? ⟨g, i, none⟩ = some (.int .u8 ((f i : Nat) : Int)) := by
  rw [World.ownsRow.cellAt h i (by omega)]
  simp [eI, hi]
theorem OwnB.below {w w' : World} {B g n cap : Nat} {f : Nat → Nat} (h : OwnB w B g n cap f) (hb : Below w.heap.size w w') : OwnB w' B g n cap f := ownsRow_below h hb
theorem OwnB.congr {w : World} {B g n cap : Nat} {f h : Nat → Nat} (ho : OwnB w B g n cap f) (e : ∀ i, i < n → f i = h i) : OwnB w B g n cap h := by
  unfold OwnB at *
  rw [← eI_congr e]
  exact ho
theorem OwnB.set {w : World} {B g n cap k v : Nat} {f : Nat → Nat} (h : OwnB w B g n cap f) (hk : k < n) :
    OwnB (w.setCell ⟨g, k, none⟩ (.int .u8 (v : Int))) B g n cap (fun i => if i = k then v else f i) ∧ w.grownBy (w.setCell ⟨g, k, none⟩ (.int .u8 (v : Int))) (some g) := by
  have h1 := (World.ownsRow.stored h k (.int .u8 (v : Int))).1
  rw [eI_set f n k v .u8 hk] at h1
  exact ⟨h1, grown_set w g k _⟩
/-- What is summed of the first 'i' parts. -/
def rs (R : Nat → Nat) (T : Nat → Nat → Nat) (i p : Nat) : Nat := Gm.sm (fun t => Gp.m (R t) (T t p)) i
/-- Pieces that are read. -/
def PcsAt (w : World) (a : Option Addr) (n l : Nat) (T : Nat → Nat → Nat) : Prop :=
  ∀ i, i < n → ∃ b off g o c, a = some ⟨b, off, none⟩ ∧ w.cell? ⟨b, off + i, none⟩ = some (.slice (some ⟨g, o, none⟩) l c) ∧ ∀ p, p < l → w.cell? ⟨g, o + p, none⟩ = some (.int .u8 ((T i p : Nat) : Int))
theorem PcsAt.below {w w' : World} {a : Option Addr} {n l : Nat} {T : Nat → Nat → Nat} (h : PcsAt w a n l T) (hb : Below w.heap.size w w') : PcsAt w' a n l T := fun i hi => by
  obtain ⟨b, off, g, o, c, e, hc, hp⟩ := h i hi
  exact ⟨b, off, g, o, c, e, (hb.cell (p := ⟨b, off + i, none⟩) (block_lt_of_cell hc)).trans hc, fun p hpl => (hb.cell (p := ⟨g, o + p, none⟩) (block_lt_of_cell (hp p hpl))).trans (hp p hpl)⟩

end Go.Proofs.Ytggmcgcmpgofcaa
/- The draws of matrices: what each gives, at any bytes: some list of rows, at most 17 of them, each of 1 to 6 numbers. Condition: at most 2^20 bytes of code. -/
namespace Go.Proofs.Ytggmcgcmpgofcaa
set_option maxRecDepth 2000
open Go.ChangeShapes Go.WideShapes Go.ChangeAt Go.RowKit

theorem MatZ.base {k : IntKind} {T TT : Nat} {w : World} {B E : Nat} {a : Option Addr} {n cap : Nat} {A : Nat → Option Addr} {L C : Nat → Nat} {Z : Nat → Nat → Int} (h : MatZ k T TT w B E a n cap A L C Z) : (∀ x, a = some x → B ≤ x.block) ∧ ∀ i, i < n → ∀ x, A i = some x → B ≤ x.block := by
  refine ⟨fun x e => ?_, fun i hi x e => ?_⟩
  · rcases own_shape h.out with ⟨h', _⟩ | ⟨g, _, e', hb, _⟩
    · rw [h'] at e; cases e
    · rw [e'] at e; cases e; exact hb
  · rcases own_shape (h.row i hi) with ⟨h', _⟩ | ⟨g, _, e', hb, _⟩
    · rw [h'] at e; cases e
    · rw [e'] at e; cases e; exact hb
/-- The cursor's block turned, which lies ahead of the matrix. -/
theorem MatZ.cur {k : IntKind} {T TT : Nat} {w w' : World} {B E g : Nat} {a : Option Addr} {n cap : Nat} {A : Nat → Option Addr} {L C : Nat → Nat} {Z : Nat → Nat → Int} (h : MatZ k T TT w B E a n cap A L C Z) (hg : w.grownBy w' (some g)) (hB : g < B) : MatZ k T TT w' B E a n cap A L C Z :=
  h.kept hg (fun x e => by have := h.base.1 x e; omega) (fun i hi x e => by have := h.base.2 i hi x e; omega)
/-- Some list of rows of ours, each of 1 to 6 numbers. -/
def DM (u : Nat) (w : World) (B E G n cap : Nat) : Prop := ∃ A L C Z, MatI w B E (some ⟨G, 0, none⟩) n cap A L C Z ∧ ∀ i, i < n → 1 ≤ L i ∧ L i ≤ u
theorem DM.cur {u : Nat} {w w' : World} {B E G n cap g : Nat} (h : DM u w B E G n cap) (hg : w.grownBy w' (some g)) (hB : g < B) : DM u w' B E G n cap := by
  obtain ⟨A, L, C, Z, hM, hL⟩ := h
  exact ⟨A, L, C, Z, hM.cur hg hB, hL⟩
theorem DM.below {u : Nat} {w w' : World} {B E G n cap : Nat} (h : DM u w B E G n cap) (hb : Below w.heap.size w w') : DM u w' B E G n cap := by
  obtain ⟨A, L, C, Z, hM, hL⟩ := h
  exact ⟨A, L, C, Z, hM.below hb, hL⟩
theorem DM.wide {u : Nat} {w : World} {B E E' G n cap : Nat} (h : DM u w B E G n cap) (hE : E ≤ E') : DM u w B E' G n cap := by
  obtain ⟨A, L, C, Z, hM, hL⟩ := h
  exact ⟨A, L, C, Z, hM.wide hE, hL⟩
theorem DM.at {u : Nat} {w : World} {B E G n cap : Nat} (h : DM u w B E G n cap) : ∃ L Z, MatAt w (some ⟨G, 0, none⟩) n L Z ∧ ∀ i, i < n → 1 ≤ L i ∧ L i ≤ u := by
  obtain ⟨A, L, C, Z, hM, hL⟩ := h
  exact ⟨L, Z, hM.at, hL⟩
theorem DM.le {u u' : Nat} {w : World} {B E G n cap : Nat} (h : DM u w B E G n cap) (hu : u ≤ u') : DM u' w B E G n cap := by
  obtain ⟨A, L, C, Z, hM, hL⟩ := h
  exact ⟨A, L, C, Z, hM, fun i hi => ⟨(hL i hi).1, Nat.le_trans (hL i hi).2 hu⟩⟩
theorem DM.grew {u : Nat} {w w' : World} {B E G n cap g0 g i l c : Nat} {A : Nat → Option Addr} {L C : Nat → Nat} {Z : Nat → Nat → Int} {xs : List Int} (hM : MatI w B E (some ⟨G, 0, none⟩) n cap A L C Z) (hL : ∀ i, i < n → 1 ≤ L i ∧ L i ≤ u) (hi : i < n) (hA : A i = some ⟨g0, 0, none⟩) (hg : w.grownBy w' (some g0))
    (hrow : w'.ownsRow B 3 1 (.slice (some ⟨g, 0, none⟩) l c) l (xs.map (Value.int .i64))) (hl : 1 ≤ l ∧ l ≤ u + 1) (hat : g = g0 ∨ w.heap.size ≤ g) (hE : E ≤ w'.heap.size) :
    (∃ v, w'.cell? ⟨G, i, none⟩ = some v) ∧ w'.frozen? ⟨G, i, none⟩ = false ∧ DM (u + 1) (w'.setCell ⟨G, i, none⟩ (.slice (some ⟨g, 0, none⟩) l c)) B (w'.setCell ⟨G, i, none⟩ (.slice (some ⟨g, 0, none⟩) l c)).heap.size G n cap ∧ w'.grownBy (w'.setCell ⟨G, i, none⟩ (.slice (some ⟨g, 0, none⟩) l c)) (some G) := by
  obtain ⟨h1, h2, h3, h4⟩ := MatZ.grew tiNe hM hi hA hg (own_zI hrow) hat hE (hrow.lt g rfl).2
  refine ⟨⟨_, h1⟩, h2, ⟨_, _, _, _, h3.wide h4.size, fun j hj => ?_⟩, h4⟩
  by_cases e : j = i
  · simp only [if_pos e]; exact hl
  · simp only [if_neg e]; exact ⟨(hL j hj).1, Nat.le_succ_of_le (hL j hj).2⟩
theorem DM.hdr {u : Nat} {w : World} {B E G n cap i : Nat} (h : DM u w B E G n cap) (hi : i < n) : (∃ v, w.cell? ⟨G, i, none⟩ = some v) ∧ w.frozen? ⟨G, i, none⟩ = false := by
  obtain ⟨A, L, C, Z, hM, _⟩ := h
  exact ⟨⟨_, hM.hdr hi⟩, hM.ofree i⟩
/-- A new row for an old one. -/
theorem DM.setRow {u : Nat} {w : World} {B E G n cap g l c i : Nat} {xs : List Int} (h : DM u w B E G n cap) (hi : i < n) (hrow : w.ownsRow B 3 1 (.slice (some ⟨g, 0, none⟩) l c) l (xs.map (Value.int .i64))) (hl : 1 ≤ l ∧ l ≤ u) (hE : E ≤ w.heap.size) (hg : E ≤ g) :
    DM u (w.setCell ⟨G, i, none⟩ (.slice (some ⟨g, 0, none⟩) l c)) B (w.setCell ⟨G, i, none⟩ (.slice (some ⟨g, 0, none⟩) l c)).heap.size G n cap ∧ w.grownBy (w.setCell ⟨G, i, none⟩ (.slice (some ⟨g, 0, none⟩) l c)) (some G) := by
  obtain ⟨A, L, C, Z, hM, hL⟩ := h
  have h1 := (hM.wide hE).setRow tiNe hi (own_zI hrow) (hrow.lt g rfl).2 (fun j hj _ x ex => by have := hM.rE j hj x ex; omega)
  refine ⟨⟨_, _, _, _, h1.1.wide h1.2.size, fun j hj => ?_⟩, h1.2⟩
  by_cases e : j = i
  · simp only [if_pos e]; exact hl
  · simp only [if_neg e]; exact hL j hj
end Go.Proofs.Ytggmcgcmpgofcaa
/- The program's sums of a row over texts. Conditions: at most 16 texts, at most 2^20 bytes each. -/
namespace Go.Proofs.Ytggmcgcmpgofcaa
set_option maxRecDepth 2000
open Go.ChangeShapes Go.WideShapes Go.ChangeAt Go.RowKit

end Go.Proofs.Ytggmcgcmpgofcaa
/- The draws of chapter three's laws: matrices, and places that differ. Condition: at most 2^20 bytes of code. -/
namespace Go.Proofs.Ytggmcgcmpgofcaa
set_option maxRecDepth 2000
open Go.ChangeShapes Go.WideShapes Go.ChangeAt Go.RowKit

theorem DM.far {u : Nat} {w w' : World} {B E G n cap g : Nat} (h : DM u w B E G n cap) (hg : w.grownBy w' (some g)) (hB : g < B) : DM u w' B E G n cap := h.cur hg hB
end Go.Proofs.Ytggmcgcmpgofcaa
/- The program's frame round a text, the pieces that it is cut into, the sums of all rows, and what is made of a text. Conditions stand at each. -/
namespace Go.Proofs.Ytggmcgcmpgofcaa
set_option maxRecDepth 2000
open Go.ChangeShapes Go.WideShapes Go.ChangeAt Go.RowKit

theorem OwnB.heap {w : World} {B g n : Nat} {f : Nat → Nat} (h : OwnB w B g n n f) : w.heap[g]? = some (.cells ((eI f n).map (Value.int .u8)).toArray 5 (0, 0)) ∧ B ≤ g ∧ n ≤ maxLen := by
  rcases h.2 with ⟨e, _⟩ | ⟨g', cap, cur, e, hB, hg, hn, hm, hs, ht⟩
  · cases e
  · cases e
    have e2 : cur.toList.take (n * 1) = cur.toList := List.take_of_length_le (by rw [Array.length_toList, hs]; exact Nat.le_refl _)
    rw [e2] at ht
    refine ⟨?_, hB, hm⟩
    rw [hg, ← ht]
theorem OwnB.of {w : World} {B g n : Nat} {f : Nat → Nat} (h : w.heap[g]? = some (.cells ((eI f n).map (Value.int .u8)).toArray 5 (0, 0))) (hB : B ≤ g) (hm : n ≤ maxLen) : OwnB w B g n n f :=
  ⟨by simp [eI_len], .inr ⟨g, n, _, rfl, hB, h, Nat.le_refl _, hm, by simp [eI_len], by rw [List.take_of_length_le (by simp [eI_len])]⟩⟩
end Go.Proofs.Ytggmcgcmpgofcaa
/- The draw of places that differ. Condition: at most 2^20 bytes of code, at most 256 places. -/
namespace Go.Proofs.Ytggmcgcmpgofcaa
set_option maxRecDepth 2000
open Go.ChangeShapes Go.WideShapes Go.ChangeAt Go.RowKit

end Go.Proofs.Ytggmcgcmpgofcaa
/- The program's sums of all rows, over pieces and over texts; the pieces that a whole is cut into. Conditions stand at each. -/
namespace Go.Proofs.Ytggmcgcmpgofcaa
set_option maxRecDepth 2000
open Go.ChangeShapes Go.WideShapes Go.ChangeAt Go.RowKit

end Go.Proofs.Ytggmcgcmpgofcaa
/- The pieces that a whole is cut into; what the program makes of a text. Conditions: as the document has them, at most 2^20 bytes. -/
namespace Go.Proofs.Ytggmcgcmpgofcaa
set_option maxRecDepth 2000
open Go.ChangeShapes Go.WideShapes Go.ChangeAt Go.RowKit

end Go.Proofs.Ytggmcgcmpgofcaa
/- The model's sums of all rows over texts; whether two numbers are sides. Conditions: at most 16 texts of at most 2^20 bytes. -/
namespace Go.Proofs.Ytggmcgcmpgofcaa
set_option maxRecDepth 2000
open Go.ChangeShapes Go.WideShapes Go.ChangeAt Go.RowKit

end Go.Proofs.Ytggmcgcmpgofcaa
/- The root of a text's pieces, in the program. Condition: a text of at most 2^20 bytes. -/
namespace Go.Proofs.Ytggmcgcmpgofcaa
set_option maxRecDepth 2000
open Go.ChangeShapes Go.WideShapes Go.ChangeAt Go.RowKit

end Go.Proofs.Ytggmcgcmpgofcaa
/- What the model makes of a text. Condition: a text of at most 2^20 bytes. -/
namespace Go.Proofs.Ytggmcgcmpgofcaa
set_option maxRecDepth 2000
open Go.ChangeShapes Go.WideShapes Go.ChangeAt Go.RowKit

end Go.Proofs.Ytggmcgcmpgofcaa
/- A piece that checks by itself, in the program and in its model: what each answers. Conditions: a proof of at most 2^20 texts; texts that a machine holds. -/
namespace Go.Proofs.Ytggmcgcmpgofcaa
set_option maxRecDepth 2000
open Go.ChangeShapes Go.WideShapes Go.ChangeAt Go.RowKit

def kOk (k n : Int) (b : ByteArray) : Prop := 1 ≤ k ∧ k ≤ n ∧ n ≤ 16 ∧ 1 ≤ b.size ∧ b.size ≤ 2002
instance (k n : Int) (b : ByteArray) : Decidable (kOk k n b) := by unfold kOk; exact inferInstance
end Go.Proofs.Ytggmcgcmpgofcaa
/- One piece of a cutting, in the program. Conditions: at most 64 bodies; a place among them. -/
namespace Go.Proofs.Ytggmcgcmpgofcaa
set_option maxRecDepth 2000
open Go.ChangeShapes Go.WideShapes Go.ChangeAt Go.RowKit

end Go.Proofs.Ytggmcgcmpgofcaa
/- Pieces in memory: a list of pieces that is ours, and one that is read. No condition but what each says. -/
namespace Go.Proofs.Ytggmcgcmpgofcaa
set_option maxRecDepth 2000
open Go.ChangeShapes Go.WideShapes Go.ChangeAt Go.RowKit

/-- A piece by plain values: its proof has m texts S. -/
structure Pc where
  r : ByteArray
  k : Int
  n : Int
  i : Int
  b : ByteArray
  m : Nat
  S : Nat → ByteArray
def cel (p : Pc) (v : Value) : Nat → Value
  | 0 => .string p.r
  | 1 => .int .i64 p.k
  | 2 => .int .i64 p.n
  | 3 => .int .i64 p.i
  | 4 => .string p.b
  | _ => v
/-- The cells of n structs of six. -/
def gL (c : Nat → Nat → Value) (n : Nat) : List Value := (List.range (n * 6)).map fun j => c (j / 6) (j % 6)
theorem gL_len (c : Nat → Nat → Value) (n : Nat) : (gL c n).length = n * 6 := by simp [gL]
theorem gL_get (c : Nat → Nat → Value) (n i q : Nat) (hi : i < n) (hq : q < 6) : (gL c n)[i * 6 + q]? = some (c i q) := by
  have h : i * 6 + q < n * 6 := by omega
  simp [gL, h, show (i * 6 + q) / 6 = i by omega, show (i * 6 + q) % 6 = q by omega]
theorem gL_congr {c c' : Nat → Nat → Value} {n : Nat} (h : ∀ i q, i < n → q < 6 → c i q = c' i q) : gL c n = gL c' n := by
  unfold gL
  refine List.map_congr_left fun j hj => ?_
  have : j < n * 6 := by simpa using hj
  exact h _ _ (by omega) (by omega)
theorem gL_set (c : Nat → Nat → Value) (n i q : Nat) (v : Value) (hi : i < n) (hq : q < 6) : (gL c n).set (i * 6 + q) v = gL (fun i' q' => if i' = i ∧ q' = q then v else c i' q') n := by
  apply List.ext_getElem?
  intro j
  rw [List.getElem?_set]
  by_cases hj : j < n * 6
  · by_cases e : i * 6 + q = j
    · subst e
      rw [if_pos rfl, if_pos (by rw [gL_len]; omega), gL_get _ _ _ _ hi hq]
      simp
    · rw [if_neg e]
      have h1 := gL_get c n (j / 6) (j % 6) (by omega) (by omega)
      have h2 := gL_get (fun i' q' => if i' = i ∧ q' = q then v else c i' q') n (j / 6) (j % 6) (by omega) (by omega)
      rw [show j / 6 * 6 + j % 6 = j by omega] at h1 h2
      rw [h1, h2, if_neg (by omega)]
  · rw [if_neg (by omega)]
    rw [List.getElem?_eq_none (by rw [gL_len]; omega), List.getElem?_eq_none (by rw [gL_len]; omega)]
/-- A list of pieces that is ours, cell by cell. -/
def OwnC (w : World) (B : Nat) (a : Option Addr) (n cap : Nat) (c : Nat → Nat → Value) : Prop := w.ownsRow B 77 6 (.slice a n cap) n (gL c n)
theorem OwnC.congr {w : World} {B : Nat} {a : Option Addr} {n cap : Nat} {c c' : Nat → Nat → Value} (h : OwnC w B a n cap c) (e : ∀ i q, i < n → q < 6 → c i q = c' i q) : OwnC w B a n cap c' := by
  unfold OwnC
  rw [← gL_congr e]
  exact h
theorem OwnC.below {w w' : World} {B : Nat} {a : Option Addr} {n cap : Nat} {c : Nat → Nat → Value} (h : OwnC w B a n cap c) (hb : Below w.heap.size w w') : OwnC w' B a n cap c := ownsRow_below h hb
theorem OwnC.cell {w : World} {B g : Nat} {n cap : Nat} {c : Nat → Nat → Value} (h : OwnC w B (some ⟨g, 0, none⟩) n cap c) {i q : Nat} (hi : i < n) (hq : q < 6) : w.cell? ⟨g, i * 6 + q, none⟩ = some (c i q) := by
  have := World.ownsRow.cellAt h (i * 6 + q) (by omega)
  rw [this]
  exact gL_get _ _ _ _ hi hq
theorem OwnC.set {w : World} {B g : Nat} {n cap : Nat} {c : Nat → Nat → Value} (h : OwnC w B (some ⟨g, 0, none⟩) n cap c) {i q : Nat} (hi : i < n) (hq : q < 6) (v : Value) : OwnC (w.setCell ⟨g, i * 6 + q, none⟩ v) B (some ⟨g, 0, none⟩) n cap (fun i' q' => if i' = i ∧ q' = q then v else c i' q') := by
  have := World.ownsRow.stored h (i * 6 + q) v
  rw [gL_set _ _ _ _ _ hi hq] at this
  exact this.1
/-- A list of pieces that is ours, with all that it leads to; no two lists of it share memory. -/
def OwnP (w : World) (B : Nat) (a : Option Addr) (n cap : Nat) (A : Nat → Option Addr) (C : Nat → Nat) (P : Nat → Pc) : Prop :=
  OwnC w B a n cap (fun i => cel (P i) (.slice (A i) (P i).m (C i))) ∧ (∀ i, i < n → OwnT w B (A i) (P i).m (C i) (P i).S) ∧
  (∀ i j x y, i < j → j < n → A i = some x → A j = some y → x.block ≠ y.block) ∧ (∀ i x y, i < n → A i = some x → a = some y → x.block ≠ y.block)
theorem OwnP.below {w w' : World} {B : Nat} {a : Option Addr} {n cap : Nat} {A : Nat → Option Addr} {C : Nat → Nat} {P : Nat → Pc} (h : OwnP w B a n cap A C P) (hb : Below w.heap.size w w') : OwnP w' B a n cap A C P :=
  ⟨h.1.below hb, fun i hi => OwnT.below (h.2.1 i hi) hb, h.2.2⟩
/-- A list of pieces that is read. -/
def PiAt (w : World) (a : Option Addr) (n : Nat) (P : Nat → Pc) : Prop := ∀ i, i < n → ∃ b off ap cp, a = some ⟨b, off, none⟩ ∧ (∀ q, q < 6 → w.cell? ⟨b, off + (i * 6 + q), none⟩ = some (cel (P i) (.slice ap (P i).m cp) q)) ∧ TxtAt w ap (P i).m (P i).S
theorem PiAt.below {w w' : World} {a : Option Addr} {n : Nat} {P : Nat → Pc} (h : PiAt w a n P) (hb : Below w.heap.size w w') : PiAt w' a n P := fun i hi => by
  obtain ⟨b, off, ap, cp, e, hc, ht⟩ := h i hi
  refine ⟨b, off, ap, cp, e, fun q hq => ?_, ht.below hb⟩
  exact (hb.cell (p := ⟨b, off + (i * 6 + q), none⟩) (block_lt_of_cell (hc q hq))).trans (hc q hq)
theorem OwnP.at {w : World} {B : Nat} {a : Option Addr} {n cap : Nat} {A : Nat → Option Addr} {C : Nat → Nat} {P : Nat → Pc} (h : OwnP w B a n cap A C P) : PiAt w a n P := fun i hi => by
  have h1 := h.1
  obtain ⟨g, rfl⟩ : ∃ g, a = some ⟨g, 0, none⟩ := by
    rcases h1.2 with ⟨e, h0⟩ | ⟨g, cap', cur, e, _⟩
    · omega
    · cases e; exact ⟨g, rfl⟩
  refine ⟨g, 0, A i, C i, rfl, fun q hq => ?_, OwnT.at (h.2.1 i hi)⟩
  rw [Nat.zero_add]
  exact h1.cell hi hq
end Go.Proofs.Ytggmcgcmpgofcaa
