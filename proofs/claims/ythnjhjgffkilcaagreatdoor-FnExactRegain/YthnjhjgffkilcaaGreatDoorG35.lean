/- One piece of a cutting, in the program. Conditions: at most 64 bodies; a place among them. -/
import Derived.Test.YthnjhjgffkilcaaGreatDoorG30
import Derived.Test.YthnjhjgffkilcaaGreatDoorG33
import Derived.Test.YthnjhjgffkilcaaGreatDoorG10
import Derived.Test.YthnjhjgffkilcaaGreatDoorG16
import Derived.Test.YthnjhjgffkilcaaGreatDoorG6
import Derived.Deep.RegionHeld3
import Derived.Test.YthnjhjgffkilcaaGreatDoorG32
namespace Go.Proofs.YthnjhjgffkilcaaGreatDoor
set_option maxRecDepth 2000
open Go.ChangeShapes Go.WideShapes Go.ChangeAt Go.RowKit

end Go.Proofs.YthnjhjgffkilcaaGreatDoor
/- Pieces in memory: a list of pieces that is ours, and one that is read. No condition but what each says. -/
namespace Go.Proofs.YthnjhjgffkilcaaGreatDoor
set_option maxRecDepth 2000
open Go.ChangeShapes Go.WideShapes Go.ChangeAt Go.RowKit

/-- A piece by plain values: its proof has m texts S. -/
structure Pc where
  r : ByteArray
  k : Int
  n : Int
  i : Int
  b : ByteArray
  m : Nat
  S : Nat → ByteArray
def cel (p : Pc) (v : Value) : Nat → Value
  | 0 => .string p.r
  | 1 => .int .i64 p.k
  | 2 => .int .i64 p.n
  | 3 => .int .i64 p.i
  | 4 => .string p.b
  | _ => v
/-- The cells of n structs of six. -/
def gL (c : Nat → Nat → Value) (n : Nat) : List Value := (List.range (n * 6)).map fun j => c (j / 6) (j % 6)
theorem gL_len (c : Nat → Nat → Value) (n : Nat) : (gL c n).length = n * 6 := by simp [gL]
theorem gL_get (c : Nat → Nat → Value) (n i q : Nat) (hi : i < n) (hq : q < 6) : (gL c n)[i * 6 + q]? = some (c i q) := by
  have h : i * 6 + q < n * 6 := by omega
  simp [gL, h, show (i * 6 + q) / 6 = i by omega, show (i * 6 + q) % 6 = q by omega]
theorem gL_congr {c c' : Nat → Nat → Value} {n : Nat} (h : ∀ i q, i < n → q < 6 → c i q = c' i q) : gL c n = gL c' n := by
  unfold gL
  refine List.map_congr_left fun j hj => ?_
  have : j < n * 6 := by simpa using hj
  exact h _ _ (by omega) (by omega)
theorem gL_set (c : Nat → Nat → Value) (n i q : Nat) (v : Value) (hi : i < n) (hq : q < 6) : (gL c n).set (i * 6 + q) v = gL (fun i' q' => if i' = i ∧ q' = q then v else c i' q') n := by
  apply List.ext_getElem?
  intro j
  rw [List.getElem?_set]
  by_cases hj : j < n * 6
  · by_cases e : i * 6 + q = j
    · subst e
      rw [if_pos rfl, if_pos (by rw [gL_len]; omega), gL_get _ _ _ _ hi hq]
      simp
    · rw [if_neg e]
      have h1 := gL_get c n (j / 6) (j % 6) (by omega) (by omega)
      have h2 := gL_get (fun i' q' => if i' = i ∧ q' = q then v else c i' q') n (j / 6) (j % 6) (by omega) (by omega)
      rw [show j / 6 * 6 + j % 6 = j by omega] at h1 h2
      rw [h1, h2, if_neg (by omega)]
  · rw [if_neg (by omega)]
    rw [List.getElem?_eq_none (by rw [gL_len]; omega), List.getElem?_eq_none (by rw [gL_len]; omega)]
theorem gL_snoc (c : Nat → Nat → Value) (n : Nat) : gL c (n + 1) = gL c n ++ [c n 0, c n 1, c n 2, c n 3, c n 4, c n 5] := by
  apply List.ext_getElem?
  intro j
  by_cases hj : j < n * 6
  · rw [List.getElem?_append_left (by rw [gL_len]; omega)]
    have h1 := gL_get c (n + 1) (j / 6) (j % 6) (by omega) (by omega)
    have h2 := gL_get c n (j / 6) (j % 6) (by omega) (by omega)
    rw [show j / 6 * 6 + j % 6 = j by omega] at h1 h2
    rw [h1, h2]
  · rw [List.getElem?_append_right (by rw [gL_len]; omega), gL_len]
    by_cases h6 : j < (n + 1) * 6
    · obtain ⟨q, rfl⟩ : ∃ q, j = n * 6 + q := ⟨j - n * 6, by omega⟩
      have hq : q < 6 := by omega
      rw [gL_get _ _ _ _ (by omega) hq, show n * 6 + q - n * 6 = q by omega]
      match q, hq with
      | 0, _ => rfl
      | 1, _ => rfl
      | 2, _ => rfl
      | 3, _ => rfl
      | 4, _ => rfl
      | 5, _ => rfl
    · rw [List.getElem?_eq_none (by rw [gL_len]; omega), List.getElem?_eq_none (by simp; omega)]

/-- A list of pieces that is ours, cell by cell. -/
def OwnC (w : World) (B : Nat) (a : Option Addr) (n cap : Nat) (c : Nat → Nat → Value) : Prop := w.ownsRow B 33 6 (.slice a n cap) n (gL c n)
theorem OwnC.congr {w : World} {B : Nat} {a : Option Addr} {n cap : Nat} {c c' : Nat → Nat → Value} (h : OwnC w B a n cap c) (e : ∀ i q, i < n → q < 6 → c i q = c' i q) : OwnC w B a n cap c' := by
  unfold OwnC
  rw [← gL_congr e]
  exact h
theorem OwnC.below {w w' : World} {B : Nat} {a : Option Addr} {n cap : Nat} {c : Nat → Nat → Value} (h : OwnC w B a n cap c) (hb : Below w.heap.size w w') : OwnC w' B a n cap c := ownsRow_below h hb
theorem OwnC.cell {w : World} {B g : Nat} {n cap : Nat} {c : Nat → Nat → Value} (h : OwnC w B (some ⟨g, 0, none⟩) n cap c) {i q : Nat} (hi : i < n) (hq : q < 6) : w.cell? ⟨g, i * 6 + q, none⟩ = some (c i q) := by
  have := World.ownsRow.cellAt h (i * 6 + q) (by omega)
  rw [this]
  exact gL_get _ _ _ _ hi hq
theorem OwnC.set {w : World} {B g : Nat} {n cap : Nat} {c : Nat → Nat → Value} (h : OwnC w B (some ⟨g, 0, none⟩) n cap c) {i q : Nat} (hi : i < n) (hq : q < 6) (v : Value) : OwnC (w.setCell ⟨g, i * 6 + q, none⟩ v) B (some ⟨g, 0, none⟩) n cap (fun i' q' => if i' = i ∧ q' = q then v else c i' q') := by
  have := World.ownsRow.stored h (i * 6 + q) v
  rw [gL_set _ _ _ _ _ hi hq] at this
  exact this.1
/-- A list of pieces that is ours, with all that it leads to; no two lists of it share memory. -/
def OwnP (w : World) (B : Nat) (a : Option Addr) (n cap : Nat) (A : Nat → Option Addr) (C : Nat → Nat) (P : Nat → Pc) : Prop :=
  OwnC w B a n cap (fun i => cel (P i) (.slice (A i) (P i).m (C i))) ∧ (∀ i, i < n → OwnT w B (A i) (P i).m (C i) (P i).S) ∧
  (∀ i j x y, i < j → j < n → A i = some x → A j = some y → x.block ≠ y.block) ∧ (∀ i x y, i < n → A i = some x → a = some y → x.block ≠ y.block)
theorem OwnP.below {w w' : World} {B : Nat} {a : Option Addr} {n cap : Nat} {A : Nat → Option Addr} {C : Nat → Nat} {P : Nat → Pc} (h : OwnP w B a n cap A C P) (hb : Below w.heap.size w w') : OwnP w' B a n cap A C P :=
  ⟨h.1.below hb, fun i hi => OwnT.below (h.2.1 i hi) hb, h.2.2⟩
def ResP (w w' : World) (v : Value) (n : Nat) (P : Nat → Pc) : Prop := ∃ g cap A C, v = .slice (some ⟨g, 0, none⟩) n cap ∧ OwnP w' w.heap.size (some ⟨g, 0, none⟩) n cap A C P
/-- A list of pieces that is read. -/
def PiAt (w : World) (a : Option Addr) (n : Nat) (P : Nat → Pc) : Prop := ∀ i, i < n → ∃ b off ap cp, a = some ⟨b, off, none⟩ ∧ (∀ q, q < 6 → w.cell? ⟨b, off + (i * 6 + q), none⟩ = some (cel (P i) (.slice ap (P i).m cp) q)) ∧ TxtAt w ap (P i).m (P i).S
theorem PiAt.below {w w' : World} {a : Option Addr} {n : Nat} {P : Nat → Pc} (h : PiAt w a n P) (hb : Below w.heap.size w w') : PiAt w' a n P := fun i hi => by
  obtain ⟨b, off, ap, cp, e, hc, ht⟩ := h i hi
  refine ⟨b, off, ap, cp, e, fun q hq => ?_, ht.below hb⟩
  exact (hb.cell (p := ⟨b, off + (i * 6 + q), none⟩) (block_lt_of_cell (hc q hq))).trans (hc q hq)
theorem OwnP.at {w : World} {B : Nat} {a : Option Addr} {n cap : Nat} {A : Nat → Option Addr} {C : Nat → Nat} {P : Nat → Pc} (h : OwnP w B a n cap A C P) : PiAt w a n P := fun i hi => by
  have h1 := h.1
  obtain ⟨g, rfl⟩ : ∃ g, a = some ⟨g, 0, none⟩ := by
    rcases h1.2 with ⟨e, h0⟩ | ⟨g, cap', cur, e, _⟩
    · omega
    · cases e; exact ⟨g, rfl⟩
  refine ⟨g, 0, A i, C i, rfl, fun q hq => ?_, OwnT.at (h.2.1 i hi)⟩
  rw [Nat.zero_add]
  exact h1.cell hi hq
/-- The pieces of n bodies. -/
noncomputable def cutP (k : Int) (n : Nat) (S : Nat → ByteArray) : Nat → Pc := fun i => ⟨rtS n (lvs k n S), k, (n : Int), (i : Int), S i, pfR n (lvs k n S) (i : Int), pfF n (lvs k n S) (i : Int)⟩
end Go.Proofs.YthnjhjgffkilcaaGreatDoor
/- Slots, nodes and sayings by plain values, and as the machine holds them. Definitions and lemmas; no walk. -/
namespace Go.Proofs.YthnjhjgffkilcaaGreatDoor
set_option maxRecDepth 2000
open Go.ChangeShapes Go.WideShapes Go.ChangeAt Go.RowKit

/-- A slot by plain values. -/
structure Sl where
  r : ByteArray
  p : Pc
  h : Bool
  e : Bool
  d : Bool
  o : Bool
  ze : List Int
  zr : List Int
end Go.Proofs.YthnjhjgffkilcaaGreatDoor
/- The pieces of a text, in the program. Condition: a text of at most 2^20 bytes. -/
namespace Go.Proofs.YthnjhjgffkilcaaGreatDoor
set_option maxRecDepth 2000
open Go.ChangeShapes Go.WideShapes Go.ChangeAt Go.RowKit

theorem Tryz.infoPc3 : (Tryz.prog.info? 33).map (fun i => (i.zero, i.size, i.bytes)) = some (some (.agg #[.string ByteArray.empty, .int .i64 0, .int .i64 0, .int .i64 0, .string ByteArray.empty, .slice none 0 0]), 6, 80) := by kernel_rfl
def zc : Nat → Value
  | 0 => .string ByteArray.empty
  | 1 => .int .i64 0
  | 2 => .int .i64 0
  | 3 => .int .i64 0
  | 4 => .string ByteArray.empty
  | _ => .slice none 0 0
theorem made_gL (n : Nat) : (madeCells #[.string ByteArray.empty, .int .i64 0, .int .i64 0, .int .i64 0, .string ByteArray.empty, .slice none 0 0] (n * 6)).toList = gL (fun _ => zc) n := by
  apply List.ext_getElem?
  intro j
  by_cases hj : j < n * 6
  · have h2 := gL_get (fun _ => zc) n (j / 6) (j % 6) (by omega) (by omega)
    rw [show j / 6 * 6 + j % 6 = j by omega] at h2
    rw [h2]
    have hq : j % 6 < 6 := by omega
    simp [madeCells, hj]
    generalize j % 6 = q at hq
    match q, hq with
    | 0, _ => rfl
    | 1, _ => rfl
    | 2, _ => rfl
    | 3, _ => rfl
    | 4, _ => rfl
    | 5, _ => rfl
  · rw [List.getElem?_eq_none (by simp [madeCells]; omega), List.getElem?_eq_none (by rw [gL_len]; omega)]
/-- The first c of n pieces laid, the others of their zero value. -/
def CutI (wr : World) (B G n : Nat) (P : Nat → Pc) (c : Nat) : Prop := ∃ (A : Nat → Option Addr) (C : Nat → Nat),
  OwnC wr B (some ⟨G, 0, none⟩) n n (fun i => if i < c then cel (P i) (.slice (A i) (P i).m (C i)) else zc) ∧ (∀ i, i < c → OwnT wr B (A i) (P i).m (C i) (P i).S) ∧
  (∀ i j x y, i < j → j < c → A i = some x → A j = some y → x.block ≠ y.block) ∧ (∀ i x, i < c → A i = some x → x.block ≠ G)
theorem CutI.step {wr w2 : World} {B G n : Nat} {P : Nat → Pc} {c : Nat} {aP : Option Addr} {cP : Nat} (h : CutI wr B G n P c) (hc : c < n) (hb : Below wr.heap.size wr w2) (hB : B ≤ wr.heap.size) (ho : OwnT w2 wr.heap.size aP (P c).m cP (P c).S) :
    CutI ((((((w2.setCell ⟨G, c * 6 + 0, none⟩ (.string (P c).r)).setCell ⟨G, c * 6 + 1, none⟩ (.int .i64 (P c).k)).setCell ⟨G, c * 6 + 2, none⟩ (.int .i64 (P c).n)).setCell ⟨G, c * 6 + 3, none⟩ (.int .i64 (P c).i)).setCell ⟨G, c * 6 + 4, none⟩ (.string (P c).b)).setCell ⟨G, c * 6 + 5, none⟩ (.slice aP (P c).m cP)) B G n P (c + 1) := by
  obtain ⟨A, C, h1, h2, h3, h4⟩ := h
  have lG := (World.ownsRow.lt h1 G rfl).2
  refine ⟨fun i => if i = c then aP else A i, fun i => if i = c then cP else C i, ?_, ?_, ?_, ?_⟩
  · have e := (((((h1.below hb).set hc (show 0 < 6 by omega) (.string (P c).r)).set hc (show 1 < 6 by omega) (.int .i64 (P c).k)).set hc (show 2 < 6 by omega) (.int .i64 (P c).n)).set hc (show 3 < 6 by omega) (.int .i64 (P c).i)).set hc (show 4 < 6 by omega) (.string (P c).b)
    have e2 := e.set hc (show 5 < 6 by omega) (.slice aP (P c).m cP)
    refine e2.congr fun i q hi hq => ?_
    by_cases ei : i = c
    · subst ei
      match q, hq with
      | 0, _ => simp [cel]
      | 1, _ => simp [cel]
      | 2, _ => simp [cel]
      | 3, _ => simp [cel]
      | 4, _ => simp [cel]
      | 5, _ => simp [cel]
    · by_cases e2 : i < c
      · simp [ei, e2, show i < c + 1 by omega]
      · simp [ei, e2, show ¬ i < c + 1 by omega]
  · intro i hi
    by_cases ei : i = c
    · subst ei
      simp only [if_true]
      have o1 : OwnT w2 B aP (P i).m cP (P i).S := OwnT.base ho hB
      have far : ∀ x, aP = some x → x.block ≠ G := fun x e => by subst e; have := (World.ownsRow.lt ho x.block rfl).1; omega
      exact own_kept (own_kept (own_kept (own_kept (own_kept (own_kept o1 (grown_set _ _ _ _) far) (grown_set _ _ _ _) far) (grown_set _ _ _ _) far) (grown_set _ _ _ _) far) (grown_set _ _ _ _) far) (grown_set _ _ _ _) far
    · simp only [ei, if_false]
      have o1 := OwnT.below (h2 i (by omega)) hb
      have far : ∀ x, A i = some x → x.block ≠ G := fun x e => h4 i x (by omega) e
      exact own_kept (own_kept (own_kept (own_kept (own_kept (own_kept o1 (grown_set _ _ _ _) far) (grown_set _ _ _ _) far) (grown_set _ _ _ _) far) (grown_set _ _ _ _) far) (grown_set _ _ _ _) far) (grown_set _ _ _ _) far
  · intro i j x y hij hj hx hy
    replace hx : (if i = c then aP else A i) = some x := hx
    replace hy : (if j = c then aP else A j) = some y := hy
    by_cases ej : j = c
    · subst ej
      simp only [if_true] at hy
      rw [if_neg (by omega)] at hx
      subst hy
      have l1 := (World.ownsRow.lt ho y.block rfl).1
      have hoi := h2 i (by omega)
      rw [hx] at hoi
      have l2 := (World.ownsRow.lt hoi x.block rfl).2
      omega
    · rw [if_neg ej] at hy
      rw [if_neg (by omega)] at hx
      exact h3 i j x y hij (by omega) hx hy
  · intro i x hi hx
    replace hx : (if i = c then aP else A i) = some x := hx
    by_cases ei : i = c
    · subst ei
      simp only [if_true] at hx
      subst hx
      have := (World.ownsRow.lt ho x.block rfl).1
      omega
    · rw [if_neg ei] at hx
      exact h4 i x (by omega) hx
theorem CutI.all {wr : World} {B G n : Nat} {P : Nat → Pc} (h : CutI wr B G n P n) : ∃ A C, OwnP wr B (some ⟨G, 0, none⟩) n n A C P := by
  obtain ⟨A, C, h1, h2, h3, h4⟩ := h
  refine ⟨A, C, h1.congr (fun i q hi _ => by simp [hi]), h2, h3, fun i x y hi hx hy => ?_⟩
  cases hy
  exact h4 i x hi hx

end Go.Proofs.YthnjhjgffkilcaaGreatDoor
/- Whether a piece goes with others, in the program. Condition: at most 64 others. -/
namespace Go.Proofs.YthnjhjgffkilcaaGreatDoor
set_option maxRecDepth 2000
open Go.ChangeShapes Go.WideShapes Go.ChangeAt Go.RowKit

def GwP (k n i : Int) (c : Nat) (Q : Nat → Pc) : Prop := ∀ j, j < c → k = (Q j).k ∧ n = (Q j).n ∧ i ≠ (Q j).i
noncomputable def gwB (k n i : Int) (c : Nat) (Q : Nat → Pc) : Bool := @decide (GwP k n i c Q) (Classical.propDecidable _)
theorem gwB_yes {k n i : Int} {c : Nat} {Q : Nat → Pc} (h : GwP k n i c Q) : gwB k n i c Q = true := by unfold gwB; simpa using h
theorem gwB_no {k n i : Int} {c : Nat} {Q : Nat → Pc} (h : ¬ GwP k n i c Q) : gwB k n i c Q = false := by unfold gwB; simpa using h

set_option maxHeartbeats 4000000 in
theorem goesWith_any (r : ByteArray) (k n i : Int) (b : ByteArray) (v : Value) (g c cc : Nat) (Q : Nat → Pc) (A : Nat → Option Addr) (C : Nat → Nat) (w : World) (hcell : ∀ j q, j < c → q < 6 → w.cell? ⟨g, j * 6 + q, none⟩ = some (cel (Q j) (.slice (A j) (Q j).m (C j)) q)) (hc : c ≤ 64) :
    Calls Tryz.prog 132 #[pcV r k n i b v, .slice (some ⟨g, 0, none⟩) c cc] w fun e w' => e = .returned (.bool (gwB k n i c Q)) ∧ Below w.heap.size w w' := by
  obtain ⟨w0, HW0⟩ : ∃ x, Hid (x = w.alloc (.cells (pcC r k n i b v) 33)) := ⟨_, rfl⟩
  obtain ⟨B, HB⟩ : ∃ x, Hid (x = w.heap.size) := ⟨_, rfl⟩
  have HR : Hid (Row w0 B 33 (pcC r k n i b v)) := by show Row _ _ _ _; rw [HW0.out, HB.out]; exact Row.new w _ _
  have KB : Hid (Below w.heap.size w w0) := by show Below _ _ _; rw [HW0.out]; exact (Below.refl _ _).alloc (Nat.le_refl _) _
  have HC : Hid (∀ j q, j < c → q < 6 → w0.cell? ⟨g, j * 6 + q, none⟩ = some (cel (Q j) (.slice (A j) (Q j).m (C j)) q)) := fun j q hj hq => (KB.out.cell (p := ⟨g, j * 6 + q, none⟩) (block_lt_of_cell (hcell j q hj hq))).trans (hcell j q hj hq)
  clear hcell
  go_enter Tryz.func132, Tryz.ntmps132
  go_wp2_with fail
  rw [← HW0.out, ← HB.out]
  go_loopw [9] (fun vi wr => ∃ j : Nat, j ≤ c ∧ vi = .int .i64 (j : Int) ∧ Hid (GwP k n i j Q) ∧ Below w0.heap.size w0 wr) (fun vi _ => c - (intOf vi).toNat)
  case atStart => exact ⟨0, Nat.zero_le _, rfl, fun j hj => absurd hj (Nat.not_lt_zero _), Below.refl _ _⟩
  case round =>
    obtain ⟨j, hj, rfl, HG, hbel⟩ := hrel
    by_cases hlt : j < c
    · have hji : (j : Int) < (c : Int) := by omega
      have hx := fun q (hq : q < 6) => (hbel.cell (p := ⟨g, j * 6 + q, none⟩) (block_lt_of_cell (HC.out j q hlt hq))).trans (HC.out j q hlt hq)
      have HRr := HR.out.below hbel HR.out.lt
      have q1 := HRr.cell 1
      have q2 := HRr.cell 2
      have q3 := HRr.cell 3
      simp at q1 q2 q3
      have lB : B < wr.heap.size := HRr.lt
      have nB : ¬ B = wr.heap.size := by omega
      have nB' : ¬ wr.heap.size = B := by omega
      have x0 := hx 0 (by omega)
      have x1 := hx 1 (by omega)
      have x2 := hx 2 (by omega)
      have x3 := hx 3 (by omega)
      have x4 := hx 4 (by omega)
      have x5 := hx 5 (by omega)
      simp only [cel, Nat.add_zero] at x0 x1 x2 x3 x4 x5
      have HN : Hid (GwP k n i (j + 1) Q ↔ k = (Q j).k ∧ n = (Q j).n ∧ i ≠ (Q j).i) := by
        constructor
        · intro h; exact h j (by omega)
        · intro h y hy
          by_cases e : y = j
          · subst e; exact h
          · exact HG.out y (by omega)
      have HX : Hid (¬ (k = (Q j).k ∧ n = (Q j).n ∧ i ≠ (Q j).i) → gwB k n i c Q = false) := fun h => gwB_no fun h' => h (h' j hlt)
      generalize (Q j).k = kj at x1 HN HX
      generalize (Q j).n = nj at x2 HN HX
      generalize (Q j).i = ij at x3 HN HX
      generalize (Q j).r = rj at x0
      generalize (Q j).b = bj at x4
      generalize (Q j).m = mj at x5
      generalize A j = aj at x5
      generalize C j = cj at x5
      obtain ⟨D, HD⟩ : ∃ x, Hid (x = wr.heap.size) := ⟨_, rfl⟩
      obtain ⟨w1, HW1⟩ : ∃ x, Hid (x = wr.alloc (.cells (pcC rj kj nj ij bj (.slice aj mj cj)) 33)) := ⟨_, rfl⟩
      have HB1 : Hid (Below w0.heap.size w0 w1) := by show Below _ _ _; rw [HW1.out]; exact hbel.alloc hbel.size _
      clear HRr hx
      by_cases hk : k = kj
      · subst hk
        have nk : (k != k) = false := by simp
        by_cases hn : n = nj
        · subst hn
          have nn : (n != n) = false := by simp
          by_cases hi : i = ij
          · subst hi
            have ni : (i == i) = true := by simp
            have HF : Hid (gwB k n i c Q = false) := HX.out (by simp)
            go_wp2
            go_ret
            exact ⟨by rw [HF.out]; rfl, by rw [← HW1.out]; exact below2 KB.out HB1.out⟩
          · have ni : (i == ij) = false := by simpa using hi
            have HG2 : Hid (GwP k n i (j + 1) Q) := HN.out.2 ⟨rfl, rfl, hi⟩
            go_wp2
            go_roundw
            case rel => exact ⟨j + 1, by omega, by go_num, HG2, by rw [← HW1.out]; exact HB1.out⟩
            case measure => simp [intOf]; omega
        · have nn : (n != nj) = true := by simpa using hn
          have HF : Hid (gwB k n i c Q = false) := HX.out (fun h => hn h.2.1)
          go_wp2
          go_ret
          exact ⟨by rw [HF.out]; rfl, by rw [← HW1.out]; exact below2 KB.out HB1.out⟩
      · have nk : (k != kj) = true := by simpa using hk
        have HF : Hid (gwB k n i c Q = false) := HX.out (fun h => hk h.1)
        go_wp2
        go_ret
        exact ⟨by rw [HF.out]; rfl, by rw [← HW1.out]; exact below2 KB.out HB1.out⟩
    · obtain rfl : j = c := by omega
      have HF : Hid (gwB k n i j Q = true) := gwB_yes HG.out
      go_wp2
      go_ret
      exact ⟨by rw [HF.out]; rfl, below2 KB.out hbel⟩
end Go.Proofs.YthnjhjgffkilcaaGreatDoor
/- Slots, lists of slots and nodes, compared by the exact laws: equal ones. Conditions: no list is longer than 2^20. -/
namespace Go.Proofs.YthnjhjgffkilcaaGreatDoor
set_option maxRecDepth 2000
open Go.ChangeShapes Go.WideShapes Go.ChangeAt Go.RowKit

end Go.Proofs.YthnjhjgffkilcaaGreatDoor
/- The pieces of all bodies, of a text, and their root, in the model. Conditions: at most 64 bodies of at most 2^20 bytes; a text of at most 2^20 bytes. -/
namespace Go.Proofs.YthnjhjgffkilcaaGreatDoor
set_option maxRecDepth 2000
open Go.ChangeShapes Go.WideShapes Go.ChangeAt Go.RowKit

theorem OwnP.snoc {w w2 w3 : World} {B g g3 c cap cap3 : Nat} {A : Nat → Option Addr} {C : Nat → Nat} {P : Nat → Pc} {aP : Option Addr} {cP : Nat} {X : Obj}
    (h : OwnP w B (some ⟨g, 0, none⟩) c cap A C P) (hB : B ≤ w.heap.size) (hb : Below w.heap.size w w2) (ho : OwnT w2 w.heap.size aP (P c).m cP (P c).S)
    (h3 : w3.ownsRow B 33 6 (.slice (some ⟨g3, 0, none⟩) (c + 1) cap3) (c + 1) (gL (fun i => cel (P i) (.slice (A i) (P i).m (C i))) c ++ [.string (P c).r, .int .i64 (P c).k, .int .i64 (P c).n, .int .i64 (P c).i, .string (P c).b, .slice aP (P c).m cP]))
    (hg : (w2.alloc X).grownBy w3 (some g)) (hat : g = g3 ∨ g3 = w2.heap.size + 1) : ∃ A' C', OwnP w3 B (some ⟨g3, 0, none⟩) (c + 1) cap3 A' C' P := by
  obtain ⟨h1, h2, h4, h5⟩ := h
  have lg := (World.ownsRow.lt h1 g rfl).2
  have lA : ∀ i x, i < c → A i = some x → x.block < w.heap.size := fun i x hi e => by
    have := h2 i hi
    rw [e] at this
    exact (World.ownsRow.lt this x.block rfl).2
  have lP : ∀ x, aP = some x → w.heap.size ≤ x.block ∧ x.block < w2.heap.size := fun x e => by
    subst e
    exact World.ownsRow.lt ho x.block rfl
  have hs := hb.size
  refine ⟨fun i => if i = c then aP else A i, fun i => if i = c then cP else C i, ?_, ?_, ?_, ?_⟩
  · show World.ownsRow _ _ _ _ _ _ _
    have e : gL (fun i => cel (P i) (.slice (if i = c then aP else A i) (P i).m (if i = c then cP else C i))) (c + 1) = gL (fun i => cel (P i) (.slice (A i) (P i).m (C i))) c ++ [.string (P c).r, .int .i64 (P c).k, .int .i64 (P c).n, .int .i64 (P c).i, .string (P c).b, .slice aP (P c).m cP] := by
      rw [gL_snoc, gL_congr (c' := fun i => cel (P i) (.slice (A i) (P i).m (C i))) (fun i q hi _ => by simp [show i ≠ c by omega])]
      simp [cel]
    rw [e]
    exact h3
  · intro i hi
    by_cases ei : i = c
    · subst ei
      simp only [if_true]
      exact own_kept (World.ownsRow.alloc (OwnT.base ho hB) X) hg (fun x e => by have := lP x e; omega)
    · simp only [ei, if_false]
      exact own_kept (World.ownsRow.alloc (OwnT.below (h2 i (by omega)) hb) X) hg (fun x e => h5 i x _ (by omega) e rfl)
  · intro i j x y hij hj hx hy
    replace hx : (if i = c then aP else A i) = some x := hx
    replace hy : (if j = c then aP else A j) = some y := hy
    by_cases ej : j = c
    · subst ej
      simp only [if_true] at hy
      rw [if_neg (by omega)] at hx
      have l1 := lP y hy
      have l2 := lA i x (by omega) hx
      omega
    · rw [if_neg ej] at hy
      rw [if_neg (by omega)] at hx
      exact h4 i j x y hij (by omega) hx hy
  · intro i x y hi hx hy
    replace hx : (if i = c then aP else A i) = some x := hx
    cases hy
    by_cases ei : i = c
    · subst ei
      simp only [if_true] at hx
      have := lP x hx
      rcases hat with e | e
      · show x.block ≠ g3; omega
      · show x.block ≠ g3; omega
    · rw [if_neg ei] at hx
      have l2 := lA i x (by omega) hx
      rcases hat with e | e
      · subst e; exact h5 i x _ (by omega) hx rfl
      · show x.block ≠ g3; omega

theorem OwnP.base {w : World} {B B' : Nat} {a : Option Addr} {n cap : Nat} {A : Nat → Option Addr} {C : Nat → Nat} {P : Nat → Pc} (h : OwnP w B a n cap A C P) (hB : B' ≤ B) : OwnP w B' a n cap A C P :=
  ⟨own_base h.1 hB, fun i hi => OwnT.base (h.2.1 i hi) hB, h.2.2⟩
set_option maxHeartbeats 4000000 in
theorem sAll_any (k : Int) (a : Option Addr) (n cap : Nat) (S : Nat → ByteArray) (w : World) (h : TxtAt w a n S) (hn : n ≤ 64) (hS : ∀ i, i < n → (S i).size ≤ 1048576) :
    Calls Tryz.prog 51 #[.slice a n cap, .int .i64 k, .int .i64 (n : Int)] w fun e w' => ∃ v, e = .returned v ∧ ResP w w' v n (cutP k n S) ∧ Below w.heap.size w w' := by
  obtain ⟨i0, hi, hz0, hz1, hz2⟩ := info_parts Tryz.infoStr
  obtain ⟨j0, hj, hy0, hy1, hy2⟩ := info_parts Tryz.infoPc3
  have HPC : Hid (∀ i, cutP k n S i = ⟨rtS n (lvs k n S), k, (n : Int), (i : Int), S i, pfR n (lvs k n S) (i : Int), pfF n (lvs k n S) (i : Int)⟩) := fun i => rfl
  obtain ⟨P, HP⟩ : ∃ P, Hid (cutP k n S = P) := ⟨_, rfl⟩
  rw [HP.out] at HPC
  rw [HP.out]
  obtain ⟨L, HL⟩ : ∃ L, Hid (lvs k n S = L) := ⟨_, rfl⟩
  have HL16 : Hid (∀ i, (L i).size ≤ 16) := fun i => by rw [← HL.out]; exact lvs_le _ _ _ _
  obtain ⟨rt, HRT⟩ : ∃ rt, Hid (rtS n L = rt) := ⟨_, rfl⟩
  rw [HL.out, HRT.out] at HPC
  have KH : Hid (TxtAt w a n S) := h
  have KS : Hid (∀ i, i < n → (S i).size ≤ 1048576) := hS
  have K0 : Hid (OwnT (w.alloc (.cells #[] 9)) w.heap.size (some ⟨w.heap.size, 0, none⟩) 0 0 L ∧ Below w.heap.size w (w.alloc (.cells #[] 9))) := ⟨litT w _, (Below.refl _ _).alloc (Nat.le_refl _) _⟩
  clear h hS
  go_enter Tryz.func51, Tryz.ntmps51
  go_wp2
  go_loopw [7, 8] (fun v vi wr => ∃ c g cc : Nat, c ≤ n ∧ vi = .int .i64 (c : Int) ∧ v = .slice (some ⟨g, 0, none⟩) c cc ∧ OwnT wr w.heap.size (some ⟨g, 0, none⟩) c cc L ∧ Below w.heap.size w wr) (fun _ vi _ => n - (intOf vi).toNat)
  case atStart => exact ⟨0, w.heap.size, 0, Nat.zero_le _, rfl, rfl, K0.out.1, K0.out.2⟩
  case round =>
    obtain ⟨c, g, cc, hk, rfl, rfl, ho, hbel⟩ := hrel
    clear K0
    have KO : Hid (OwnT wr w.heap.size (some ⟨g, 0, none⟩) c cc L ∧ Below w.heap.size w wr) := ⟨ho, hbel⟩
    clear ho hbel
    by_cases hlt : c < n
    · have hki : (c : Int) < (n : Int) := by omega
      obtain ⟨b1, off1, rfl, hc1⟩ := (KH.out.below KO.out.2) c hlt
      have KC : Hid (∀ W, Calls Tryz.prog 22 #[.int .i64 k, .int .i64 (n : Int), .int .i64 (c : Int), .string (S c)] W fun e w' => e = .returned (.string (L c)) ∧ Below W.heap.size W w') := fun W => by
        have := sPieceLeaf_any k (n : Int) (c : Int) (S c) W (KS.out c hlt)
        rw [← HL.out]
        exact this
      have lg := World.ownsRow.lt KO.out.1 _ rfl
      generalize S c = sc at hc1 KC
      obtain ⟨z, HZ⟩ : ∃ z, Hid (L c = z) := ⟨_, rfl⟩
      rw [HZ.out] at KC
      go_wp2_with fail
      refine Calls.mono (KC.out _) ?_
      rintro e w6 ⟨rfl, hb6⟩
      have K6 : Hid (OwnT w6 w.heap.size (some ⟨g, 0, none⟩) c cc L ∧ Below w.heap.size w w6) := ⟨OwnT.below KO.out.1 hb6, below2 KO.out.2 hb6⟩
      have hsz6 := K6.out.2.size
      clear hb6 KC hc1 KO
      go_wp2_with (at_builtin; refine wpList_append_all _ (by rfl) _ _ 31 (by rfl) w.heap.size 9 i0 (.string ByteArray.empty) 1 16 Tryz.underlying31 hi hz0 hz1 hz2 rfl (by decide) g c cc _ (by rfl) (World.ownsRow.alloc K6.out.1 _) ⟨w6.heap.size, 0, none⟩ 1 1 [.string z] (by rfl) (by rfl) (World.news_of_block (cs := #[.string z]) (t := 9) (fr := (0, 0)) (heap_alloc_new w6 _)) (by simp [Value.oneCell']) (by unfold maxLen; omega) (by omega) (by simp; omega) ?_; intro g3 cap3 w7 hown3 hgrow3)
      have HL7 : Hid (OwnT w7 w.heap.size (some ⟨g3, 0, none⟩) (c + 1) cap3 L ∧ Below w.heap.size w w7) := by
        refine ⟨?_, (K6.out.2.alloc hsz6 _).grown (show World.grownBy _ w7 (some g) from hgrow3) (by simp; omega) (fun j hj => by cases hj; exact lg.1)⟩
        unfold OwnT
        rw [sL_snoc, HZ.out]
        exact hown3
      clear hown3 hgrow3 K6
      go_roundw
      case rel => exact ⟨c + 1, g3, cap3, by omega, by go_num, rfl, HL7.out.1, HL7.out.2⟩
      case measure => simp [intOf]; omega
    · obtain rfl : c = n := by omega
      have KR : Hid (Calls Tryz.prog 113 #[.slice (some ⟨g, 0, none⟩) c cc] wr fun e w' => e = .returned (.tuple #[.string rt, .bool (lvB c L)]) ∧ Below wr.heap.size wr w') := by
        have := sRoot_any (some ⟨g, 0, none⟩) c cc L wr (OwnT.at KO.out.1) (by omega) (fun i _ => by have := HL16.out i; unfold maxLen; omega)
        rw [HRT.out] at this
        exact this
      generalize lvB c L = okr at KR
      go_wp2_with fail
      refine Calls.mono KR.out ?_
      rintro e w3 ⟨rfl, hb3⟩
      obtain ⟨w4, HW4⟩ : ∃ w4, Hid (w4 = w3.alloc (.cells #[] 33)) := ⟨_, rfl⟩
      have hb34 : Below w3.heap.size w3 w4 := by rw [HW4.out]; exact (Below.refl _ _).alloc (Nat.le_refl _) _
      have KL3 : Hid (TxtAt w3 (some ⟨g, 0, none⟩) c L) := (OwnT.at KO.out.1).below hb3
      have KA3 : Hid (TxtAt w3 a c S) := (KH.out.below KO.out.2).below hb3
      have KB3 : Hid (Below w.heap.size w w3) := below2 KO.out.2 hb3
      have KB34 : Hid (Below w3.heap.size w3 w4) := hb34
      have KP4 : Hid (OwnP w4 w3.heap.size (some ⟨w3.heap.size, 0, none⟩) 0 0 (fun _ => none) (fun _ => 0) P) := by
        rw [HW4.out]
        exact ⟨World.ownsRow_lit w3 #[] 0 (Nat.le_refl _) (by unfold maxLen; omega) rfl, fun i hi => absurd hi (Nat.not_lt_zero _), fun i j x y _ hj => absurd hj (Nat.not_lt_zero _), fun i x y hi => absurd hi (Nat.not_lt_zero _)⟩
      clear hb3 hb34 KO KR hi hz0 hz1 hz2
      go_wp2_with fail
      rw [← HW4.out]
      go_loopw [11, 12] (fun v vi wr => ∃ q g2 cc2 : Nat, q ≤ c ∧ vi = .int .i64 (q : Int) ∧ v = .slice (some ⟨g2, 0, none⟩) q cc2 ∧ (∃ A C, OwnP wr w3.heap.size (some ⟨g2, 0, none⟩) q cc2 A C P) ∧ Below w3.heap.size w3 wr) (fun _ vi _ => c - (intOf vi).toNat)
      case atStart => exact ⟨0, _, 0, Nat.zero_le _, rfl, rfl, ⟨_, _, KP4.out⟩, KB34.out⟩
      case round =>
        obtain ⟨q, g2, cc2, hq, rfl, rfl, ⟨A, C, hop⟩, hb3r⟩ := hrel
        clear KP4
        have KOP : Hid (OwnP wr w3.heap.size (some ⟨g2, 0, none⟩) q cc2 A C P ∧ Below w3.heap.size w3 wr) := ⟨hop, hb3r⟩
        have lg2 := World.ownsRow.lt hop.1 g2 rfl
        clear hop hb3r
        by_cases hlt2 : q < c
        · have hqi : (q : Int) < (c : Int) := by omega
          have KPF : Hid (Calls Tryz.prog 114 #[.slice (some ⟨g, 0, none⟩) c cc, .int .i64 (q : Int)] wr fun e w' => ∃ v, e = .returned (.tuple #[v, .bool (pfB c L (q : Int))]) ∧ ResT wr w' v (P q).m (P q).S ∧ Below wr.heap.size wr w') := by
            rw [HPC.out]
            exact sProof_any (some ⟨g, 0, none⟩) c cc L (q : Int) wr (KL3.out.below KOP.out.2) (by omega) (fun i _ => by have := HL16.out i; unfold maxLen; omega)
          generalize pfB c L (q : Int) = okp at KPF
          obtain ⟨mq, HMQ⟩ : ∃ mc, Hid ((P q).m = mc) := ⟨_, rfl⟩
          rw [HMQ.out] at KPF
          obtain ⟨sc, HSC⟩ : ∃ sc, Hid (S q = sc) := ⟨_, rfl⟩
          have HS : Hid ((P q).r = rt ∧ (P q).k = k ∧ (P q).n = (c : Int) ∧ (P q).i = (q : Int) ∧ (P q).b = sc) := by rw [HPC.out, HSC.out]; exact ⟨rfl, rfl, rfl, rfl, rfl⟩
          go_wp2_with fail
          refine Calls.mono KPF.out ?_
          rintro e w5 ⟨v5, rfl, ⟨aP, cP, rfl, O5⟩, hb5⟩
          obtain ⟨b1, off1, rfl, hc1⟩ := ((KA3.out.below KOP.out.2).below hb5) q hlt2
          rw [HSC.out] at hc1
          have hs5 := hb5.size
          have hw5 := KOP.out.2.size
          have O5' : Hid (OwnT w5 wr.heap.size aP mq cP (P q).S) := O5
          have HB5 : Hid (Below wr.heap.size wr w5) := hb5
          have KX : Hid (OwnC w5 w3.heap.size (some ⟨g2, 0, none⟩) q cc2 (fun i => cel (P i) (.slice (A i) (P i).m (C i)))) := KOP.out.1.1.below hb5
          clear O5 hb5 KPF
          go_wp2_with (at_builtin; refine wpList_append_lies _ (by rfl) _ _ 26 (by rfl) w3.heap.size 33 j0 (.agg #[.string ByteArray.empty, .int .i64 0, .int .i64 0, .int .i64 0, .string ByteArray.empty, .slice none 0 0]) 6 80 Tryz.underlying26 hj hy0 hy1 hy2 rfl (by decide) (.slice (some ⟨g2, 0, none⟩) q cc2) q _ (by rfl) (World.ownsRow.alloc KX.out _) ⟨w5.heap.size, 0, none⟩ 1 1 [.string rt, .int .i64 k, .int .i64 (c : Int), .int .i64 (q : Int), .string sc, .slice aP mq cP] (by rfl) (by rfl) (World.news_of_block (cs := #[.string rt, .int .i64 k, .int .i64 (c : Int), .int .i64 (q : Int), .string sc, .slice aP mq cP]) (t := 33) (fr := (0, 0)) (heap_alloc_new w5 _)) (by simp [Value.oneCell']) (by omega) (by unfold maxLen; omega) (by omega) (by simp; omega) (w5.heap.size + 1) (by simp) ?_; intro g3 cap3 w7 hown3 hgrow3 hat3 hlt3)
          have hgr : World.grownBy (w5.alloc (.cells #[.string rt, .int .i64 k, .int .i64 (c : Int), .int .i64 (q : Int), .string sc, .slice aP mq cP] 33)) w7 (some g2) := hgrow3
          have HN : Hid ((∃ A C, OwnP w7 w3.heap.size (some ⟨g3, 0, none⟩) (q + 1) cap3 A C P) ∧ Below w3.heap.size w3 w7) := by
            refine ⟨OwnP.snoc (aP := aP) (cP := cP) KOP.out.1 hw5 HB5.out (by rw [HMQ.out]; exact O5'.out) ?_ hgr ?_, ?_⟩
            · rw [HMQ.out, HS.out.1, HS.out.2.1, HS.out.2.2.1, HS.out.2.2.2.1, HS.out.2.2.2.2]
              exact hown3
            · rcases hat3 with e | e
              · exact .inl (by simpa [Value.ownBlock] using e)
              · exact .inr e
            · exact ((below2 KOP.out.2 HB5.out).alloc (by omega) _).grown hgr (by simp; omega) (fun j hj => by cases hj; exact lg2.1)
          clear hown3 hgrow3 hgr hat3 hlt3 KOP KX HB5 O5' hc1
          go_roundw
          case rel => exact ⟨q + 1, g3, cap3, by omega, by go_num, rfl, HN.out.1, HN.out.2⟩
          case measure => simp [intOf]; omega
        · obtain rfl : q = c := by omega
          go_wp2
          go_ret
          exact ⟨_, rfl, ⟨_, _, A, C, rfl, KOP.out.1.base KB3.out.size⟩, below2 KB3.out KOP.out.2⟩

end Go.Proofs.YthnjhjgffkilcaaGreatDoor
/- What the exact laws count of slots and nodes. Conditions: what each says. -/
namespace Go.Proofs.YthnjhjgffkilcaaGreatDoor
set_option maxRecDepth 2000
open Go.ChangeShapes Go.WideShapes Go.ChangeAt Go.RowKit

/-- What is left of l behind a weight, or -1. -/
def szN (l x : Nat) : Int := if x ≤ l then ((l - x : Nat) : Int) else -1
theorem szN_yes {l x : Nat} (h : x ≤ l) : szN l x = ((l - x : Nat) : Int) := if_pos h
theorem szN_no {l x : Nat} (h : ¬ x ≤ l) : szN l x = -1 := if_neg h
def wtP (p : Pc) : Nat := p.r.size + p.b.size + (p.m + tot (fun i => (p.S i).size) p.m)
theorem szPc_eq (p : Pc) (l : Nat) : szPc p.r p.b p.m p.S l = szN l (wtP p) := by
  by_cases h : wtP p ≤ l
  · rw [szN_yes h]; exact szPc_yes h
  · rw [szN_no h]; exact szPc_no h
/-- What the form tells of a slot that came in. -/
structure SlI (w : World) (s : Sl) (a6 : Option Addr) : Prop where
  r : s.r.size ≤ maxLen
  pr : s.p.r.size ≤ maxLen
  pb : s.p.b.size ≤ maxLen
  tx : IsTxt w a6 s.p.m s.p.S
  ne : s.ze.length ≤ maxLen
  nr : s.zr.length ≤ maxLen
/-- The same without its memory. -/
structure SlB (s : Sl) : Prop where
  r : s.r.size ≤ maxLen
  pr : s.p.r.size ≤ maxLen
  pb : s.p.b.size ≤ maxLen
  m : s.p.m ≤ maxLen
  tx : ∀ i, i < s.p.m → (s.p.S i).size ≤ maxLen
  ne : s.ze.length ≤ maxLen
  nr : s.zr.length ≤ maxLen
theorem SlB.i {s : Sl} (h : SlB s) {w : World} {a6 : Option Addr} (ht : TxtAt w a6 s.p.m s.p.S) : SlI w s a6 := ⟨h.r, h.pr, h.pb, ⟨ht, h.m, h.tx⟩, h.ne, h.nr⟩
end Go.Proofs.YthnjhjgffkilcaaGreatDoor
/- Lists of pieces that the exact laws mark, ask for their marks, and compare. Conditions stand at each. -/
namespace Go.Proofs.YthnjhjgffkilcaaGreatDoor
set_option maxRecDepth 2000
open Go.ChangeShapes Go.WideShapes Go.ChangeAt Go.RowKit

theorem OwnP.congr {w : World} {B : Nat} {a : Option Addr} {n cap : Nat} {A : Nat → Option Addr} {C : Nat → Nat} {P P' : Nat → Pc} (h : OwnP w B a n cap A C P) (e : ∀ i, i < n → P i = P' i) : OwnP w B a n cap A C P' :=
  ⟨h.1.congr (fun i q hi _ => by rw [e i hi]), fun i hi => by rw [← e i hi]; exact h.2.1 i hi, h.2.2⟩
end Go.Proofs.YthnjhjgffkilcaaGreatDoor
/- The pieces that count, picked one by one, in the program: what 'enough' has gathered ahead of its sort. Condition: at most 2^20 pieces, whose proofs have at most 2^20 texts. -/
namespace Go.Proofs.YthnjhjgffkilcaaGreatDoor
set_option maxRecDepth 2000
open Go.ChangeShapes Go.WideShapes Go.ChangeAt Go.RowKit

/-- A list of pieces that is read, its proofs' places told. -/
def PiA (w : World) (a : Option Addr) (n : Nat) (A : Nat → Option Addr) (C : Nat → Nat) (P : Nat → Pc) : Prop := ∀ i, i < n → (∃ b off, a = some ⟨b, off, none⟩ ∧ ∀ q, q < 6 → w.cell? ⟨b, off + (i * 6 + q), none⟩ = some (cel (P i) (.slice (A i) (P i).m (C i)) q)) ∧ TxtAt w (A i) (P i).m (P i).S
theorem PiA.below {w w' : World} {a : Option Addr} {n : Nat} {A : Nat → Option Addr} {C : Nat → Nat} {P : Nat → Pc} (h : PiA w a n A C P) (hb : Below w.heap.size w w') : PiA w' a n A C P := fun i hi => by
  obtain ⟨⟨b, off, e, hc⟩, ht⟩ := h i hi
  exact ⟨⟨b, off, e, fun q hq => (hb.cell (p := ⟨b, off + (i * 6 + q), none⟩) (block_lt_of_cell (hc q hq))).trans (hc q hq)⟩, ht.below hb⟩
theorem PiAt.a {w : World} {a : Option Addr} {n : Nat} {P : Nat → Pc} (h : PiAt w a n P) : ∃ A C, PiA w a n A C P := by
  refine ⟨fun i => if hi : i < n then (h i hi).choose_spec.choose_spec.choose else none, fun i => if hi : i < n then (h i hi).choose_spec.choose_spec.choose_spec.choose else 0, fun i hi => ?_⟩
  simp only [hi, dif_pos]
  have := (h i hi).choose_spec.choose_spec.choose_spec.choose_spec
  exact ⟨⟨_, _, this.1, this.2.1⟩, this.2.2⟩
noncomputable def pok (P : Nat → Pc) (c : Nat) : Bool := okP (P c).r (P c).k (P c).n (P c).i (P c).b (P c).m (P c).S
open Classical in
/-- The places of the pieces that count, out of the first c. -/
noncomputable def gsel (root : ByteArray) (P : Nat → Pc) : Nat → List Nat
  | 0 => []
  | c + 1 => if (P c).r = root ∧ gwB (P c).k (P c).n (P c).i (gsel root P c).length (fun j => P ((gsel root P c).getD j 0)) = true ∧ pok P c = true then gsel root P c ++ [c] else gsel root P c
theorem gsel_yes {root : ByteArray} {P : Nat → Pc} {c : Nat} (h : (P c).r = root ∧ gwB (P c).k (P c).n (P c).i (gsel root P c).length (fun j => P ((gsel root P c).getD j 0)) = true ∧ pok P c = true) : gsel root P (c + 1) = gsel root P c ++ [c] := by
  show (if _ then _ else _) = _
  rw [if_pos h]
theorem gsel_no {root : ByteArray} {P : Nat → Pc} {c : Nat} (h : ¬ ((P c).r = root ∧ gwB (P c).k (P c).n (P c).i (gsel root P c).length (fun j => P ((gsel root P c).getD j 0)) = true ∧ pok P c = true)) : gsel root P (c + 1) = gsel root P c := by
  show (if _ then _ else _) = _
  rw [if_neg h]
theorem gsel_len (root : ByteArray) (P : Nat → Pc) (c : Nat) : (gsel root P c).length ≤ c := by
  induction c with
  | zero => exact Nat.le_refl _
  | succ c ih =>
    by_cases h : (P c).r = root ∧ gwB (P c).k (P c).n (P c).i (gsel root P c).length (fun j => P ((gsel root P c).getD j 0)) = true ∧ pok P c = true
    · rw [gsel_yes h, List.length_append]; show _ + 1 ≤ _; omega
    · rw [gsel_no h]; omega
theorem gsel_mem {root : ByteArray} {P : Nat → Pc} {c x : Nat} (h : x ∈ gsel root P c) : x < c ∧ (P x).r = root ∧ pok P x = true := by
  induction c with
  | zero => cases h
  | succ c ih =>
    by_cases hp : (P c).r = root ∧ gwB (P c).k (P c).n (P c).i (gsel root P c).length (fun j => P ((gsel root P c).getD j 0)) = true ∧ pok P c = true
    · rw [gsel_yes hp, List.mem_append] at h
      rcases h with h | h
      · have := ih h; exact ⟨by omega, this.2⟩
      · obtain rfl : x = c := by simpa using h
        exact ⟨by omega, hp.1, hp.2.2⟩
    · rw [gsel_no hp] at h
      have := ih h; exact ⟨by omega, this.2⟩
abbrev celp (P : Nat → Pc) (A : Nat → Option Addr) (C : Nat → Nat) (x : Nat) : Nat → Value := cel (P x) (.slice (A x) (P x).m (C x))
end Go.Proofs.YthnjhjgffkilcaaGreatDoor
