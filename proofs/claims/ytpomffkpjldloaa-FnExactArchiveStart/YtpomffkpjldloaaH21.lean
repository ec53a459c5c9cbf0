/- The program's small functions over matrices: a side, the unit's numbers, reading a matrix, filling one by a function. Conditions: at most 2^20 rows and numbers a row, where a matrix is read. -/
import Derived.Test.YtpomffkpjldloaaH17
namespace Go.Proofs.Ytpomffkpjldloaa
set_option maxRecDepth 2000
open Go.ChangeShapes Go.WideShapes Go.ChangeAt Go.RowKit

def side (n : Int) : Bool := decide (1 ≤ n ∧ n ≤ 16)
/-- What is asked of a function by which a matrix is filled. -/
def FillBy (g : Nat) (lb : Array Value) (r c : Nat) (F : Nat → Nat → Nat) (w : World) : Prop :=
  ∀ (W : World) (i j : Nat), Below w.heap.size w W → i < r → j < c → Calls Try.prog g (#[.int .i64 (i : Int), .int .i64 (j : Int)] ++ lb) W fun e w' => e = .returned (.int .u8 ((F i j : Nat) : Int)) ∧ Below W.heap.size W w'
theorem FillBy.below {g : Nat} {lb : Array Value} {r c : Nat} {F : Nat → Nat → Nat} {w w' : World} (h : FillBy g lb r c F w) (hb : Below w.heap.size w w') : FillBy g lb r c F w' := fun W i j hW hi hj => h W i j (below2 hb hW) hi hj
end Go.Proofs.Ytpomffkpjldloaa
/- The program reads a matrix: what it is when it is one, and that it is none. Conditions: at most 2^20 rows, at most 2^20 numbers a row. -/
namespace Go.Proofs.Ytpomffkpjldloaa
set_option maxRecDepth 2000
open Go.ChangeShapes Go.WideShapes Go.ChangeAt Go.RowKit

/-- It is a matrix. -/
def OkM (n : Nat) (L : Nat → Nat) (Z : Nat → Nat → Int) : Prop := 1 ≤ n ∧ n ≤ 16 ∧ 1 ≤ L 0 ∧ L 0 ≤ 16 ∧ ∀ i, i < n → L i = L 0 ∧ ∀ j, j < L 0 → isB (Z i j) = true
end Go.Proofs.Ytpomffkpjldloaa
/- The program reads what is no matrix; whether it is one. Conditions: at most 2^20 rows, at most 2^20 numbers a row. -/
namespace Go.Proofs.Ytpomffkpjldloaa
set_option maxRecDepth 2000
open Go.ChangeShapes Go.WideShapes Go.ChangeAt Go.RowKit

theorem OkM.not {n : Nat} {L : Nat → Nat} {Z : Nat → Nat → Int} (h : ¬ OkM n L Z) (h1 : 1 ≤ n) (h2 : n ≤ 16) (h3 : 1 ≤ L 0) (h4 : L 0 ≤ 16) : ∃ q, q < n ∧ ¬ (L q = L 0 ∧ ∀ j, j < L 0 → isB (Z q j) = true) := by
  refine Classical.byContradiction fun hno => h ⟨h1, h2, h3, h4, fun i hi => ?_⟩
  exact Classical.byContradiction fun hc => hno ⟨i, hi, hc⟩
end Go.Proofs.Ytpomffkpjldloaa
/- The program's functions that answer with a matrix made by a function of the place: the unit, a spread, a matrix turned. Conditions: at most 2^20 rows, at most 2^20 numbers a row, where a matrix is read. -/
namespace Go.Proofs.Ytpomffkpjldloaa
set_option maxRecDepth 2000
open Go.ChangeShapes Go.WideShapes Go.ChangeAt Go.RowKit

/-- A matrix that was answered, in new memory. -/
def ResM (w w' : World) (v : Value) (r c : Nat) (F : Nat → Nat → Nat) : Prop := ∃ a cap A C, v = .slice a r cap ∧ MatI w' w.heap.size w'.heap.size a r cap A (fun _ => c) C (fun i j => ((F i j : Nat) : Int))
theorem ResM.none (w w' : World) (c : Nat) (F : Nat → Nat → Nat) : ResM w w' (.slice none 0 0) 0 c F := ⟨_, _, fun _ => .none, fun _ => 0, rfl, MatZ.nil _ _ _ _ _ _ _ _ _ _⟩
theorem ResM.mk {w w' : World} {a : Option Addr} {r cap c : Nat} {A : Nat → Option Addr} {C : Nat → Nat} {F : Nat → Nat → Nat} {B : Nat} (h : MatI w' B w'.heap.size a r cap A (fun _ => c) C (fun i j => ((F i j : Nat) : Int))) (hB : w.heap.size ≤ B) : ResM w w' (.slice a r cap) r c F :=
  ⟨a, cap, A, C, rfl, ⟨own_base h.out hB, h.oE, fun i hi => own_base (h.row i hi) hB, h.rE, h.apart⟩⟩

end Go.Proofs.Ytpomffkpjldloaa
/- The program's functions that answer with a matrix made of others: turned, rows picked out, a product. Conditions: at most 2^20 rows, at most 2^20 numbers a row. -/
namespace Go.Proofs.Ytpomffkpjldloaa
set_option maxRecDepth 2000
open Go.ChangeShapes Go.WideShapes Go.ChangeAt Go.RowKit

/-- A variable that holds a matrix of byte numbers. -/
def RdU (w : World) (pb r c : Nat) (F : Nat → Nat → Nat) : Prop :=
  ∃ G cap, w.cell? ⟨pb, 0, none⟩ = some (.slice (some ⟨G, 0, none⟩) r cap) ∧ ∀ i, i < r → ∃ g cc, w.cell? ⟨G, i, none⟩ = some (.slice (some ⟨g, 0, none⟩) c cc) ∧ ∀ j, j < c → w.cell? ⟨g, j, none⟩ = some (.int .u8 ((F i j : Nat) : Int))
theorem RdU.below {w w' : World} {pb r c : Nat} {F : Nat → Nat → Nat} (h : RdU w pb r c F) (hb : Below w.heap.size w w') : RdU w' pb r c F := by
  obtain ⟨G, cap, hp, hr⟩ := h
  refine ⟨G, cap, (hb.cell (p := ⟨pb, 0, none⟩) (block_lt_of_cell hp)).trans hp, fun i hi => ?_⟩
  obtain ⟨g, cc, hc, he⟩ := hr i hi
  exact ⟨g, cc, (hb.cell (p := ⟨G, i, none⟩) (block_lt_of_cell hc)).trans hc, fun j hj => (hb.cell (p := ⟨g, j, none⟩) (block_lt_of_cell (he j hj))).trans (he j hj)⟩
end Go.Proofs.Ytpomffkpjldloaa
/- The model's functions over matrices: whether it is one, the unit, a spread. Conditions: at most 2^20 rows, at most 2^20 numbers a row. -/
namespace Go.Proofs.Ytpomffkpjldloaa
set_option maxRecDepth 2000
open Go.ChangeShapes Go.WideShapes Go.ChangeAt Go.RowKit

end Go.Proofs.Ytpomffkpjldloaa
/- Matrices in memory, the second part: a row that has grown is put in its place again. Lemmas alone; conditions stand at each. -/
namespace Go.Proofs.Ytpomffkpjldloaa
set_option maxRecDepth 2000
open Go.ChangeShapes Go.WideShapes Go.ChangeAt Go.RowKit
section
variable {k : IntKind} {T TT : Nat} {w w' : World} {B E : Nat} {n cap : Nat} {A : Nat → Option Addr} {L C : Nat → Nat} {Z : Nat → Nat → Int}
theorem MatZ.grew (hT : T ≠ TT) {G g0 g i l c E' : Nat} {z : Nat → Int} (h : MatZ k T TT w B E (some ⟨G, 0, none⟩) n cap A L C Z) (hi : i < n) (hA : A i = some ⟨g0, 0, none⟩) (hg : w.grownBy w' (some g0))
    (hrow : w'.ownsRow B T 1 (.slice (some ⟨g, 0, none⟩) l c) l ((zI z l).map (Value.int k))) (hat : g = g0 ∨ w.heap.size ≤ g) (hE : E ≤ E') (hE' : g < E') :
    w'.cell? ⟨G, i, none⟩ = some (.slice (A i) (L i) (C i)) ∧ w'.frozen? ⟨G, i, none⟩ = false ∧
    MatZ k T TT (w'.setCell ⟨G, i, none⟩ (.slice (some ⟨g, 0, none⟩) l c)) B E' (some ⟨G, 0, none⟩) n cap (fun j => if j = i then some ⟨g, 0, none⟩ else A j) (fun j => if j = i then l else L j) (fun j => if j = i then c else C j) (fun j => if j = i then z else Z j) ∧ w'.grownBy (w'.setCell ⟨G, i, none⟩ (.slice (some ⟨g, 0, none⟩) l c)) (some G) := by
  have hgs := grown_set w' G i (.slice (some ⟨g, 0, none⟩) l c)
  have ho := own_kept h.out hg (fun x e => by cases e; exact (h.off hT hi hA).symm)
  have hgG : g ≠ G := by
    intro e
    subst e
    rcases own_shape hrow with ⟨h', _⟩ | ⟨g1, c1, e1, _, hg1, _⟩
    · cases h'
    · rcases own_shape ho with ⟨h', _⟩ | ⟨g2, c2, e2, _, hg2, _⟩
      · cases h'
      · cases e1
        cases e2
        rw [hg1] at hg2
        cases hg2
        exact hT rfl
  refine ⟨?_, ho.frozenAt i, ⟨?_, fun x e => ?_, fun p hp => ?_, fun p hp x ex => ?_, fun p q hp hq hpq x y ex ey => ?_⟩, hgs⟩
  · rw [ho.cellAt i (by omega), hds_get _ _ _ _ _ hi]
  · have h1 := (ho.stored i (.slice (some ⟨g, 0, none⟩) l c)).1
    rw [hds_set] at h1
    exact h1
  · have := h.oE x e; omega
  · by_cases e : p = i
    · subst e
      simp only [if_pos]
      exact own_kept hrow hgs (fun x ex => by cases ex; exact hgG)
    · simp only [if_neg e]
      have h1 := own_kept (h.row p hp) hg (fun x ex => h.apart p i hp hi e x _ ex hA)
      refine own_kept h1 hgs (fun x ex => ?_)
      have hr := h.row p hp
      rw [ex] at hr
      rcases own_shape hr with ⟨h', _⟩ | ⟨g1, c1, e1, _⟩
      · cases h'
      · cases e1
        exact h.off hT hp ex
  · by_cases e : p = i
    · simp only [if_pos e] at ex; cases ex; exact hE'
    · simp only [if_neg e] at ex
      have := h.rE p hp x ex
      omega
  · have key : ∀ q, q < n → q ≠ i → ∀ y, A q = some y → y.block ≠ g := fun q hq hqi y ey => by
      rcases hat with rfl | hat
      · exact h.apart q i hq hi hqi y _ ey hA
      · have hr := h.row q hq
        rw [ey] at hr
        have := (hr.lt y.block rfl).2
        omega
    by_cases e : p = i
    · simp only [if_pos e] at ex
      cases ex
      simp only [if_neg (show q ≠ i by omega)] at ey
      exact (key q hq (by omega) y ey).symm
    · simp only [if_neg e] at ex
      by_cases e2 : q = i
      · simp only [if_pos e2] at ey
        cases ey
        exact key p hp e x ex
      · simp only [if_neg e2] at ey
        exact h.apart p q hp hq hpq x y ex ey
end
end Go.Proofs.Ytpomffkpjldloaa
