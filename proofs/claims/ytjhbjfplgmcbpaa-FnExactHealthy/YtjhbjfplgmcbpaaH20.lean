/- The program reads a matrix: what it is when it is one, and that it is none. Conditions: at most 2^20 rows, at most 2^20 numbers a row. -/
import Derived.Test.YtjhbjfplgmcbpaaH18
import Derived.Test.YtjhbjfplgmcbpaaH7
import Derived.Lib.BufferWrite
import Derived.Laws.CopyOwn
import Derived.Test.YtjhbjfplgmcbpaaH6
import Derived.Test.YtjhbjfplgmcbpaaH14
import Derived.Test.YtjhbjfplgmcbpaaH13
import Derived.Test.YtjhbjfplgmcbpaaH19
namespace Go.Proofs.Ytjhbjfplgmcbpaa
set_option maxRecDepth 2000
open Go.ChangeShapes Go.WideShapes Go.ChangeAt Go.RowKit

/-- It is a matrix. -/
def OkM (n : Nat) (L : Nat → Nat) (Z : Nat → Nat → Int) : Prop := 1 ≤ n ∧ n ≤ 16 ∧ 1 ≤ L 0 ∧ L 0 ≤ 16 ∧ ∀ i, i < n → L i = L 0 ∧ ∀ j, j < L 0 → isB (Z i j) = true
end Go.Proofs.Ytjhbjfplgmcbpaa
/- The program reads what is no matrix; whether it is one. Conditions: at most 2^20 rows, at most 2^20 numbers a row. -/
namespace Go.Proofs.Ytjhbjfplgmcbpaa
set_option maxRecDepth 2000
open Go.ChangeShapes Go.WideShapes Go.ChangeAt Go.RowKit

theorem OkM.not {n : Nat} {L : Nat → Nat} {Z : Nat → Nat → Int} (h : ¬ OkM n L Z) (h1 : 1 ≤ n) (h2 : n ≤ 16) (h3 : 1 ≤ L 0) (h4 : L 0 ≤ 16) : ∃ q, q < n ∧ ¬ (L q = L 0 ∧ ∀ j, j < L 0 → isB (Z q j) = true) := by
  refine Classical.byContradiction fun hno => h ⟨h1, h2, h3, h4, fun i hi => ?_⟩
  exact Classical.byContradiction fun hc => hno ⟨i, hi, hc⟩
end Go.Proofs.Ytjhbjfplgmcbpaa
/- The program's functions that answer with a matrix made by a function of the place: the unit, a spread, a matrix turned. Conditions: at most 2^20 rows, at most 2^20 numbers a row, where a matrix is read. -/
namespace Go.Proofs.Ytjhbjfplgmcbpaa
set_option maxRecDepth 2000
open Go.ChangeShapes Go.WideShapes Go.ChangeAt Go.RowKit

/-- A matrix that was answered, in new memory. -/
def ResM (w w' : World) (v : Value) (r c : Nat) (F : Nat → Nat → Nat) : Prop := ∃ a cap A C, v = .slice a r cap ∧ MatI w' w.heap.size w'.heap.size a r cap A (fun _ => c) C (fun i j => ((F i j : Nat) : Int))
theorem ResM.none (w w' : World) (c : Nat) (F : Nat → Nat → Nat) : ResM w w' (.slice none 0 0) 0 c F := ⟨_, _, fun _ => .none, fun _ => 0, rfl, MatZ.nil _ _ _ _ _ _ _ _ _ _⟩
end Go.Proofs.Ytjhbjfplgmcbpaa
/- The program's functions that answer with a matrix made of others: turned, rows picked out, a product. Conditions: at most 2^20 rows, at most 2^20 numbers a row. -/
namespace Go.Proofs.Ytjhbjfplgmcbpaa
set_option maxRecDepth 2000
open Go.ChangeShapes Go.WideShapes Go.ChangeAt Go.RowKit

/-- A variable that holds a matrix of byte numbers. -/
def RdU (w : World) (pb r c : Nat) (F : Nat → Nat → Nat) : Prop :=
  ∃ G cap, w.cell? ⟨pb, 0, none⟩ = some (.slice (some ⟨G, 0, none⟩) r cap) ∧ ∀ i, i < r → ∃ g cc, w.cell? ⟨G, i, none⟩ = some (.slice (some ⟨g, 0, none⟩) c cc) ∧ ∀ j, j < c → w.cell? ⟨g, j, none⟩ = some (.int .u8 ((F i j : Nat) : Int))
theorem RdU.below {w w' : World} {pb r c : Nat} {F : Nat → Nat → Nat} (h : RdU w pb r c F) (hb : Below w.heap.size w w') : RdU w' pb r c F := by
  obtain ⟨G, cap, hp, hr⟩ := h
  refine ⟨G, cap, (hb.cell (p := ⟨pb, 0, none⟩) (block_lt_of_cell hp)).trans hp, fun i hi => ?_⟩
  obtain ⟨g, cc, hc, he⟩ := hr i hi
  exact ⟨g, cc, (hb.cell (p := ⟨G, i, none⟩) (block_lt_of_cell hc)).trans hc, fun j hj => (hb.cell (p := ⟨g, j, none⟩) (block_lt_of_cell (he j hj))).trans (he j hj)⟩
end Go.Proofs.Ytjhbjfplgmcbpaa
/- The model's functions over matrices: whether it is one, the unit, a spread. Conditions: at most 2^20 rows, at most 2^20 numbers a row. -/
namespace Go.Proofs.Ytjhbjfplgmcbpaa
set_option maxRecDepth 2000
open Go.ChangeShapes Go.WideShapes Go.ChangeAt Go.RowKit

end Go.Proofs.Ytjhbjfplgmcbpaa
/- How long each body is, in the program and in its model, at every two numbers. No condition. -/
namespace Go.Proofs.Ytjhbjfplgmcbpaa
set_option maxRecDepth 2000
open Go.ChangeShapes Go.WideShapes Go.ChangeAt Go.RowKit

end Go.Proofs.Ytjhbjfplgmcbpaa
/- Matrices in memory, the second part: a row that has grown is put in its place again. Lemmas alone; conditions stand at each. -/
namespace Go.Proofs.Ytjhbjfplgmcbpaa
set_option maxRecDepth 2000
open Go.ChangeShapes Go.WideShapes Go.ChangeAt Go.RowKit
section
variable {k : IntKind} {T TT : Nat} {w w' : World} {B E : Nat} {n cap : Nat} {A : Nat → Option Addr} {L C : Nat → Nat} {Z : Nat → Nat → Int}
theorem MatZ.grew (hT : T ≠ TT) {G g0 g i l c E' : Nat} {z : Nat → Int} (h : MatZ k T TT w B E (some ⟨G, 0, none⟩) n cap A L C Z) (hi : i < n) (hA : A i = some ⟨g0, 0, none⟩) (hg : w.grownBy w' (some g0))
    (hrow : w'.ownsRow B T 1 (.slice (some ⟨g, 0, none⟩) l c) l ((zI z l).map (Value.int k))) (hat : g = g0 ∨ w.heap.size ≤ g) (hE : E ≤ E') (hE' : g < E') :
    w'.cell? ⟨G, i, none⟩ = some (.slice (A i) (L i) (C i)) ∧ w'.frozen? ⟨G, i, none⟩ = false ∧
    MatZ k T TT (w'.setCell ⟨G, i, none⟩ (.slice (some ⟨g, 0, none⟩) l c)) B E' (some ⟨G, 0, none⟩) n cap (fun j => if j = i then some ⟨g, 0, none⟩ else A j) (fun j => if j = i then l else L j) (fun j => if j = i then c else C j) (fun j => if j = i then z else Z j) ∧ w'.grownBy (w'.setCell ⟨G, i, none⟩ (.slice (some ⟨g, 0, none⟩) l c)) (some G) := by
  have hgs := grown_set w' G i (.slice (some ⟨g, 0, none⟩) l c)
  have ho := own_kept h.out hg (fun x e => by cases e; exact (h.off hT hi hA).symm)
  have hgG : g ≠ G := by
    intro e
    subst e
    rcases own_shape hrow with ⟨h', _⟩ | ⟨g1, c1, e1, _, hg1, _⟩
    · cases h'
    · rcases own_shape ho with ⟨h', _⟩ | ⟨g2, c2, e2, _, hg2, _⟩
      · cases h'
      · cases e1
        cases e2
        rw [hg1] at hg2
        cases hg2
        exact hT rfl
  refine ⟨?_, ho.frozenAt i, ⟨?_, fun x e => ?_, fun p hp => ?_, fun p hp x ex => ?_, fun p q hp hq hpq x y ex ey => ?_⟩, hgs⟩
  · rw [ho.cellAt i (by omega), hds_get _ _ _ _ _ hi]
  · have h1 := (ho.stored i (.slice (some ⟨g, 0, none⟩) l c)).1
    rw [hds_set] at h1
    exact h1
  · have := h.oE x e; omega
  · by_cases e : p = i
    · subst e
      simp only [if_pos]
      exact own_kept hrow hgs (fun x ex => by cases ex; exact hgG)
    · simp only [if_neg e]
      have h1 := own_kept (h.row p hp) hg (fun x ex => h.apart p i hp hi e x _ ex hA)
      refine own_kept h1 hgs (fun x ex => ?_)
      have hr := h.row p hp
      rw [ex] at hr
      rcases own_shape hr with ⟨h', _⟩ | ⟨g1, c1, e1, _⟩
      · cases h'
      · cases e1
        exact h.off hT hp ex
  · by_cases e : p = i
    · simp only [if_pos e] at ex; cases ex; exact hE'
    · simp only [if_neg e] at ex
      have := h.rE p hp x ex
      omega
  · have key : ∀ q, q < n → q ≠ i → ∀ y, A q = some y → y.block ≠ g := fun q hq hqi y ey => by
      rcases hat with rfl | hat
      · exact h.apart q i hq hi hqi y _ ey hA
      · have hr := h.row q hq
        rw [ey] at hr
        have := (hr.lt y.block rfl).2
        omega
    by_cases e : p = i
    · simp only [if_pos e] at ex
      cases ex
      simp only [if_neg (show q ≠ i by omega)] at ey
      exact (key q hq (by omega) y ey).symm
    · simp only [if_neg e] at ex
      by_cases e2 : q = i
      · simp only [if_pos e2] at ey
        cases ey
        exact key p hp e x ex
      · simp only [if_neg e2] at ey
        exact h.apart p q hp hq hpq x y ex ey
end
end Go.Proofs.Ytjhbjfplgmcbpaa
/- The program's sums of a row: pieces, or texts, each times its number. Conditions: at most 16 parts, at most 2^20 bytes each. -/
namespace Go.Proofs.Ytjhbjfplgmcbpaa
set_option maxRecDepth 2000
open Go.ChangeShapes Go.WideShapes Go.ChangeAt Go.RowKit

/-- A row of bytes of ours. -/
def OwnB (w : World) (B g n cap : Nat) (f : Nat → Nat) : Prop := w.ownsRow B 5 1 (.slice (some ⟨g, 0, none⟩) n cap) n ((eI f n).map (Value.int .u8))
theorem OwnB.lt {w : World} {B g n cap : Nat} {f : Nat → Nat} (h : OwnB w B g n cap f) : B ≤ g ∧ g < w.heap.size := World.ownsRow.lt h g rfl
theorem OwnB.cell {w : World} {B g n cap i : Nat} {f : Nat → Nat} (h : OwnB w B g n cap f) (hi : i < n) : w.cell? ⟨g, i, none⟩ = some (.int .u8 ((f i : Nat) : Int)) := by
  rw [World.ownsRow.cellAt h i (by omega)]
  simp [eI, hi]
theorem OwnB.below {w w' : World} {B g n cap : Nat} {f : Nat → Nat} (h : OwnB w B g n cap f) (hb : Below w.heap.size w w') : OwnB w' B g n cap f := ownsRow_below h hb
theorem OwnB.congr {w : World} {B g n cap : Nat} {f h : Nat → Nat} (ho : OwnB w B g n cap f) (e : ∀ i, i < n → f i = h i) : OwnB w B g n cap h := by
  unfold OwnB at *
  rw [← eI_congr e]
  exact ho
theorem OwnB.set {w : World} {B g n cap k v : Nat} {f : Nat → Nat} (h : OwnB w B g n cap f) (hk : k < n) :
    OwnB (w.setCell ⟨g, k, none⟩ (.int .u8 (v : Int))) B g n cap (fun i => if i = k then v else f i) ∧ w.grownBy (w.setCell ⟨g, k, none⟩ (.int .u8 (v : Int))) (some g) := by
  have h1 := (World.ownsRow.stored h k (.int .u8 (v : Int))).1
  rw [eI_set f n k v .u8 hk] at h1
  exact ⟨h1, grown_set w g k _⟩
/-- What is summed of the first 'i' parts. -/
def rs (R : Nat → Nat) (T : Nat → Nat → Nat) (i p : Nat) : Nat := Gm.sm (fun t => Gp.m (R t) (T t p)) i
/-- Pieces that are read. -/
def PcsAt (w : World) (a : Option Addr) (n l : Nat) (T : Nat → Nat → Nat) : Prop :=
  ∀ i, i < n → ∃ b off g o c, a = some ⟨b, off, none⟩ ∧ w.cell? ⟨b, off + i, none⟩ = some (.slice (some ⟨g, o, none⟩) l c) ∧ ∀ p, p < l → w.cell? ⟨g, o + p, none⟩ = some (.int .u8 ((T i p : Nat) : Int))
theorem PcsAt.below {w w' : World} {a : Option Addr} {n l : Nat} {T : Nat → Nat → Nat} (h : PcsAt w a n l T) (hb : Below w.heap.size w w') : PcsAt w' a n l T := fun i hi => by
  obtain ⟨b, off, g, o, c, e, hc, hp⟩ := h i hi
  exact ⟨b, off, g, o, c, e, (hb.cell (p := ⟨b, off + i, none⟩) (block_lt_of_cell hc)).trans hc, fun p hpl => (hb.cell (p := ⟨g, o + p, none⟩) (block_lt_of_cell (hp p hpl))).trans (hp p hpl)⟩

end Go.Proofs.Ytjhbjfplgmcbpaa
/- The program's sums of a row over texts. Conditions: at most 16 texts, at most 2^20 bytes each. -/
namespace Go.Proofs.Ytjhbjfplgmcbpaa
set_option maxRecDepth 2000
open Go.ChangeShapes Go.WideShapes Go.ChangeAt Go.RowKit

end Go.Proofs.Ytjhbjfplgmcbpaa
/- The program's frame round a text, the pieces that it is cut into, the sums of all rows, and what is made of a text. Conditions stand at each. -/
namespace Go.Proofs.Ytjhbjfplgmcbpaa
set_option maxRecDepth 2000
open Go.ChangeShapes Go.WideShapes Go.ChangeAt Go.RowKit

theorem OwnB.heap {w : World} {B g n : Nat} {f : Nat → Nat} (h : OwnB w B g n n f) : w.heap[g]? = some (.cells ((eI f n).map (Value.int .u8)).toArray 5 (0, 0)) ∧ B ≤ g ∧ n ≤ maxLen := by
  rcases h.2 with ⟨e, _⟩ | ⟨g', cap, cur, e, hB, hg, hn, hm, hs, ht⟩
  · cases e
  · cases e
    have e2 : cur.toList.take (n * 1) = cur.toList := List.take_of_length_le (by rw [Array.length_toList, hs]; exact Nat.le_refl _)
    rw [e2] at ht
    refine ⟨?_, hB, hm⟩
    rw [hg, ← ht]
theorem OwnB.of {w : World} {B g n : Nat} {f : Nat → Nat} (h : w.heap[g]? = some (.cells ((eI f n).map (Value.int .u8)).toArray 5 (0, 0))) (hB : B ≤ g) (hm : n ≤ maxLen) : OwnB w B g n n f :=
  ⟨by simp [eI_len], .inr ⟨g, n, _, rfl, hB, h, Nat.le_refl _, hm, by simp [eI_len], by rw [List.take_of_length_le (by simp [eI_len])]⟩⟩
end Go.Proofs.Ytjhbjfplgmcbpaa
/- The program's sums of all rows, over pieces and over texts; the pieces that a whole is cut into. Conditions stand at each. -/
namespace Go.Proofs.Ytjhbjfplgmcbpaa
set_option maxRecDepth 2000
open Go.ChangeShapes Go.WideShapes Go.ChangeAt Go.RowKit

end Go.Proofs.Ytjhbjfplgmcbpaa
/- The pieces that a whole is cut into; what the program makes of a text. Conditions: as the document has them, at most 2^20 bytes. -/
namespace Go.Proofs.Ytjhbjfplgmcbpaa
set_option maxRecDepth 2000
open Go.ChangeShapes Go.WideShapes Go.ChangeAt Go.RowKit

end Go.Proofs.Ytjhbjfplgmcbpaa
/- The model's sums of all rows over texts; whether two numbers are sides. Conditions: at most 16 texts of at most 2^20 bytes. -/
namespace Go.Proofs.Ytjhbjfplgmcbpaa
set_option maxRecDepth 2000
open Go.ChangeShapes Go.WideShapes Go.ChangeAt Go.RowKit

end Go.Proofs.Ytjhbjfplgmcbpaa
/- A piece that checks by itself, in the program and in its model: what each answers. Conditions: a proof of at most 2^20 texts; texts that a machine holds. -/
namespace Go.Proofs.Ytjhbjfplgmcbpaa
set_option maxRecDepth 2000
open Go.ChangeShapes Go.WideShapes Go.ChangeAt Go.RowKit

def kOk (k n : Int) (b : ByteArray) : Prop := 1 ≤ k ∧ k ≤ n ∧ n ≤ 16 ∧ 1 ≤ b.size ∧ b.size ≤ 2002
instance (k n : Int) (b : ByteArray) : Decidable (kOk k n b) := by unfold kOk; exact inferInstance
end Go.Proofs.Ytjhbjfplgmcbpaa
/- One piece of a cutting, in the program. Conditions: at most 64 bodies; a place among them. -/
namespace Go.Proofs.Ytjhbjfplgmcbpaa
set_option maxRecDepth 2000
open Go.ChangeShapes Go.WideShapes Go.ChangeAt Go.RowKit

end Go.Proofs.Ytjhbjfplgmcbpaa
/- Pieces in memory: a list of pieces that is ours, and one that is read. No condition but what each says. -/
namespace Go.Proofs.Ytjhbjfplgmcbpaa
set_option maxRecDepth 2000
open Go.ChangeShapes Go.WideShapes Go.ChangeAt Go.RowKit

/-- A piece by plain values: its proof has m texts S. -/
structure Pc where
  r : ByteArray
  k : Int
  n : Int
  i : Int
  b : ByteArray
  m : Nat
  S : Nat → ByteArray
def cel (p : Pc) (v : Value) : Nat → Value
  | 0 => .string p.r
  | 1 => .int .i64 p.k
  | 2 => .int .i64 p.n
  | 3 => .int .i64 p.i
  | 4 => .string p.b
  | _ => v
/-- The cells of n structs of six. -/
def gL (c : Nat → Nat → Value) (n : Nat) : List Value := (List.range (n * 6)).map fun j => c (j / 6) (j % 6)
theorem gL_len (c : Nat → Nat → Value) (n : Nat) : (gL c n).length = n * 6 := by simp [gL]
theorem gL_get (c : Nat → Nat → Value) (n i q : Nat) (hi : i < n) (hq : q < 6) : (gL c n)[i * 6 + q]? = some (c i q) := by
  have h : i * 6 + q < n * 6 := by omega
  simp [gL, h, show (i * 6 + q) / 6 = i by omega, show (i * 6 + q) % 6 = q by omega]
theorem gL_congr {c c' : Nat → Nat → Value} {n : Nat} (h : ∀ i q, i < n → q < 6 → c i q = c' i q) : gL c n = gL c' n := by
  unfold gL
  refine List.map_congr_left fun j hj => ?_
  have : j < n * 6 := by simpa using hj
  exact h _ _ (by omega) (by omega)
theorem gL_set (c : Nat → Nat → Value) (n i q : Nat) (v : Value) (hi : i < n) (hq : q < 6) : (gL c n).set (i * 6 + q) v = gL (fun i' q' => if i' = i ∧ q' = q then v else c i' q') n := by
  apply List.ext_getElem?
  intro j
  rw [List.getElem?_set]
  by_cases hj : j < n * 6
  · by_cases e : i * 6 + q = j
    · subst e
      rw [if_pos rfl, if_pos (by rw [gL_len]; omega), gL_get _ _ _ _ hi hq]
      simp
    · rw [if_neg e]
      have h1 := gL_get c n (j / 6) (j % 6) (by omega) (by omega)
      have h2 := gL_get (fun i' q' => if i' = i ∧ q' = q then v else c i' q') n (j / 6) (j % 6) (by omega) (by omega)
      rw [show j / 6 * 6 + j % 6 = j by omega] at h1 h2
      rw [h1, h2, if_neg (by omega)]
  · rw [if_neg (by omega)]
    rw [List.getElem?_eq_none (by rw [gL_len]; omega), List.getElem?_eq_none (by rw [gL_len]; omega)]
/-- A list of pieces that is ours, cell by cell. -/
def OwnC (w : World) (B : Nat) (a : Option Addr) (n cap : Nat) (c : Nat → Nat → Value) : Prop := w.ownsRow B 58 6 (.slice a n cap) n (gL c n)
theorem OwnC.congr {w : World} {B : Nat} {a : Option Addr} {n cap : Nat} {c c' : Nat → Nat → Value} (h : OwnC w B a n cap c) (e : ∀ i q, i < n → q < 6 → c i q = c' i q) : OwnC w B a n cap c' := by
  unfold OwnC
  rw [← gL_congr e]
  exact h
theorem OwnC.below {w w' : World} {B : Nat} {a : Option Addr} {n cap : Nat} {c : Nat → Nat → Value} (h : OwnC w B a n cap c) (hb : Below w.heap.size w w') : OwnC w' B a n cap c := ownsRow_below h hb
theorem OwnC.cell {w : World} {B g : Nat} {n cap : Nat} {c : Nat → Nat → Value} (h : OwnC w B (some ⟨g, 0, none⟩) n cap c) {i q : Nat} (hi : i < n) (hq : q < 6) : w.cell? ⟨g, i * 6 + q, none⟩ = some (c i q) := by
  have := World.ownsRow.cellAt h (i * 6 + q) (by omega)
  rw [this]
  exact gL_get _ _ _ _ hi hq
theorem OwnC.set {w : World} {B g : Nat} {n cap : Nat} {c : Nat → Nat → Value} (h : OwnC w B (some ⟨g, 0, none⟩) n cap c) {i q : Nat} (hi : i < n) (hq : q < 6) (v : Value) : OwnC (w.setCell ⟨g, i * 6 + q, none⟩ v) B (some ⟨g, 0, none⟩) n cap (fun i' q' => if i' = i ∧ q' = q then v else c i' q') := by
  have := World.ownsRow.stored h (i * 6 + q) v
  rw [gL_set _ _ _ _ _ hi hq] at this
  exact this.1
/-- A list of pieces that is ours, with all that it leads to; no two lists of it share memory. -/
def OwnP (w : World) (B : Nat) (a : Option Addr) (n cap : Nat) (A : Nat → Option Addr) (C : Nat → Nat) (P : Nat → Pc) : Prop :=
  OwnC w B a n cap (fun i => cel (P i) (.slice (A i) (P i).m (C i))) ∧ (∀ i, i < n → OwnT w B (A i) (P i).m (C i) (P i).S) ∧
  (∀ i j x y, i < j → j < n → A i = some x → A j = some y → x.block ≠ y.block) ∧ (∀ i x y, i < n → A i = some x → a = some y → x.block ≠ y.block)
theorem OwnP.below {w w' : World} {B : Nat} {a : Option Addr} {n cap : Nat} {A : Nat → Option Addr} {C : Nat → Nat} {P : Nat → Pc} (h : OwnP w B a n cap A C P) (hb : Below w.heap.size w w') : OwnP w' B a n cap A C P :=
  ⟨h.1.below hb, fun i hi => OwnT.below (h.2.1 i hi) hb, h.2.2⟩
/-- A list of pieces that is read. -/
def PiAt (w : World) (a : Option Addr) (n : Nat) (P : Nat → Pc) : Prop := ∀ i, i < n → ∃ b off ap cp, a = some ⟨b, off, none⟩ ∧ (∀ q, q < 6 → w.cell? ⟨b, off + (i * 6 + q), none⟩ = some (cel (P i) (.slice ap (P i).m cp) q)) ∧ TxtAt w ap (P i).m (P i).S
theorem PiAt.below {w w' : World} {a : Option Addr} {n : Nat} {P : Nat → Pc} (h : PiAt w a n P) (hb : Below w.heap.size w w') : PiAt w' a n P := fun i hi => by
  obtain ⟨b, off, ap, cp, e, hc, ht⟩ := h i hi
  refine ⟨b, off, ap, cp, e, fun q hq => ?_, ht.below hb⟩
  exact (hb.cell (p := ⟨b, off + (i * 6 + q), none⟩) (block_lt_of_cell (hc q hq))).trans (hc q hq)
theorem OwnP.at {w : World} {B : Nat} {a : Option Addr} {n cap : Nat} {A : Nat → Option Addr} {C : Nat → Nat} {P : Nat → Pc} (h : OwnP w B a n cap A C P) : PiAt w a n P := fun i hi => by
  have h1 := h.1
  obtain ⟨g, rfl⟩ : ∃ g, a = some ⟨g, 0, none⟩ := by
    rcases h1.2 with ⟨e, h0⟩ | ⟨g, cap', cur, e, _⟩
    · omega
    · cases e; exact ⟨g, rfl⟩
  refine ⟨g, 0, A i, C i, rfl, fun q hq => ?_, OwnT.at (h.2.1 i hi)⟩
  rw [Nat.zero_add]
  exact h1.cell hi hq
end Go.Proofs.Ytjhbjfplgmcbpaa
