import Derived.Test.YtmhcdkbgjjibeaaGreatDoorG15
import Derived.Test.YtmhcdkbgjjibeaaGreatDoorG14
import Derived.Test.YtmhcdkbgjjibeaaGreatDoorG6
import Derived.Test.YtmhcdkbgjjibeaaGreatDoorG8
import Derived.Test.YtmhcdkbgjjibeaaGreatDoorG5
import Derived.Deep.RegionHeld3
import Derived.Test.YtmhcdkbgjjibeaaGreatDoorG13
import Derived.BigQuiet
import Derived.Test.YtmhcdkbgjjibeaaGreatDoorRows
import Derived.Deep.Slices
import Derived.Test.YtmhcdkbgjjibeaaGreatDoorG11
import Derived.Test.YtmhcdkbgjjibeaaGreatDoorG7
set_option maxHeartbeats 8000000
set_option maxRecDepth 2000
open Go.ChangeShapes Go.WideShapes Go.ChangeAt Go.RowKit
namespace Go.Proofs.YtmhcdkbgjjibeaaGreatDoor
structure Pc where
 r : ByteArray
 k : Int
 n : Int
 i : Int
 b : ByteArray
 m : Nat
 S : Nat → ByteArray
def cel (p : Pc) (v : Value) : Nat → Value
 | 0 => .string p.r
 | 1 => .int .i64 p.k
 | 2 => .int .i64 p.n
 | 3 => .int .i64 p.i
 | 4 => .string p.b
 | _ => v
def gL (c : Nat → Nat → Value) (n : Nat) : List Value := (List.range (n * 6)).map fun j => c (j / 6) (j % 6)
theorem gL_len (c : Nat → Nat → Value) (n : Nat) : (gL c n).length = n * 6 := by simp [gL]
theorem gL_get (c : Nat → Nat → Value) (n i q : Nat) (hi : i < n) (hq : q < 6) : (gL c n)[i * 6 + q]? = some (c i q) := by
 have h : i * 6 + q < n * 6 := by omega
 simp [gL, h, show (i * 6 + q) / 6 = i by omega, show (i * 6 + q) % 6 = q by omega]
theorem gL_congr {c c' : Nat → Nat → Value} {n : Nat} (h : ∀ i q, i < n → q < 6 → c i q = c' i q) : gL c n = gL c' n := by
 unfold gL
 refine List.map_congr_left fun j hj => ?_
 have : j < n * 6 := by simpa using hj
 exact h _ _ (by omega) (by omega)
theorem gL_snoc (c : Nat → Nat → Value) (n : Nat) : gL c (n + 1) = gL c n ++ [c n 0, c n 1, c n 2, c n 3, c n 4, c n 5] := by
 apply List.ext_getElem?
 intro j
 by_cases hj : j < n * 6
 ·rw [List.getElem?_append_left (by rw [gL_len]; omega)]
  have h1 := gL_get c (n + 1) (j / 6) (j % 6) (by omega) (by omega)
  have h2 := gL_get c n (j / 6) (j % 6) (by omega) (by omega)
  rw [show j / 6 * 6 + j % 6 = j by omega] at h1 h2
  rw [h1, h2]
 ·rw [List.getElem?_append_right (by rw [gL_len]; omega), gL_len]
  by_cases h6 : j < (n + 1) * 6
  ·obtain ⟨q, rfl⟩ : ∃ q, j = n * 6 + q := ⟨j - n * 6, by omega⟩
   have hq : q < 6 := by omega
   rw [gL_get _ _ _ _ (by omega) hq, show n * 6 + q - n * 6 = q by omega]
   match q, hq with
   | 0, _ => rfl
   | 1, _ => rfl
   | 2, _ => rfl
   | 3, _ => rfl
   | 4, _ => rfl
   | 5, _ => rfl
  ·rw [List.getElem?_eq_none (by rw [gL_len]; omega), List.getElem?_eq_none (by simp; omega)]
def OwnC (w : World) (B : Nat) (a : Option Addr) (n cap : Nat) (c : Nat → Nat → Value) : Prop := w.ownsRow B 49 6 (.slice a n cap) n (gL c n)
theorem OwnC.congr {w : World} {B : Nat} {a : Option Addr} {n cap : Nat} {c c' : Nat → Nat → Value} (h : OwnC w B a n cap c) (e : ∀ i q, i < n → q < 6 → c i q = c' i q) : OwnC w B a n cap c' := by
 unfold OwnC
 rw [← gL_congr e]
 exact h
theorem OwnC.below {w w' : World} {B : Nat} {a : Option Addr} {n cap : Nat} {c : Nat → Nat → Value} (h : OwnC w B a n cap c) (hb : Below w.heap.size w w') : OwnC w' B a n cap c := ownsRow_below h hb
theorem OwnC.cell {w : World} {B g : Nat} {n cap : Nat} {c : Nat → Nat → Value} (h : OwnC w B (some ⟨g, 0, none⟩) n cap c) {i q : Nat} (hi : i < n) (hq : q < 6) : w.cell? ⟨g, i * 6 + q, none⟩ = some (c i q) := by
 have := World.ownsRow.cellAt h (i * 6 + q) (by omega)
 rw [this]
 exact gL_get _ _ _ _ hi hq
def OwnP (w : World) (B : Nat) (a : Option Addr) (n cap : Nat) (A : Nat → Option Addr) (C : Nat → Nat) (P : Nat → Pc) : Prop :=
 OwnC w B a n cap (fun i => cel (P i) (.slice (A i) (P i).m (C i))) ∧ (∀ i, i < n → OwnT w B (A i) (P i).m (C i) (P i).S) ∧
 (∀ i j x y, i < j → j < n → A i = some x → A j = some y → x.block ≠ y.block) ∧ (∀ i x y, i < n → A i = some x → a = some y → x.block ≠ y.block)
def ResP (w w' : World) (v : Value) (n : Nat) (P : Nat → Pc) : Prop := ∃ g cap A C, v = .slice (some ⟨g, 0, none⟩) n cap ∧ OwnP w' w.heap.size (some ⟨g, 0, none⟩) n cap A C P
def PiAt (w : World) (a : Option Addr) (n : Nat) (P : Nat → Pc) : Prop := ∀ i, i < n → ∃ b off ap cp, a = some ⟨b, off, none⟩ ∧ (∀ q, q < 6 → w.cell? ⟨b, off + (i * 6 + q), none⟩ = some (cel (P i) (.slice ap (P i).m cp) q)) ∧ TxtAt w ap (P i).m (P i).S
theorem PiAt.below {w w' : World} {a : Option Addr} {n : Nat} {P : Nat → Pc} (h : PiAt w a n P) (hb : Below w.heap.size w w') : PiAt w' a n P := fun i hi => by
 obtain ⟨b, off, ap, cp, e, hc, ht⟩ := h i hi
 refine ⟨b, off, ap, cp, e, fun q hq => ?_, ht.below hb⟩
 exact (hb.cell (p := ⟨b, off + (i * 6 + q), none⟩) (block_lt_of_cell (hc q hq))).trans (hc q hq)
theorem OwnP.at {w : World} {B : Nat} {a : Option Addr} {n cap : Nat} {A : Nat → Option Addr} {C : Nat → Nat} {P : Nat → Pc} (h : OwnP w B a n cap A C P) : PiAt w a n P := fun i hi => by
 have h1 := h.1
 obtain ⟨g, rfl⟩ : ∃ g, a = some ⟨g, 0, none⟩ := by
  rcases h1.2 with ⟨e, h0⟩ | ⟨g, cap', cur, e, _⟩
  ·omega
  ·cases e; exact ⟨g, rfl⟩
 refine ⟨g, 0, A i, C i, rfl, fun q hq => ?_, OwnT.at (h.2.1 i hi)⟩
 rw [Nat.zero_add]
 exact h1.cell hi hq
noncomputable def cutP (k : Int) (n : Nat) (S : Nat → ByteArray) : Nat → Pc := fun i => ⟨rtS n (lvs k n S), k, (n : Int), (i : Int), S i, pfR n (lvs k n S) (i : Int), pfF n (lvs k n S) (i : Int)⟩
structure Sl where
 r : ByteArray
 p : Pc
 h : Bool
 e : Bool
 d : Bool
 o : Bool
 ze : List Int
 zr : List Int
def pcD (p : Pc) : Nat → Dt
 | 0 => .val (.string p.r)
 | 1 => .val (.int .i64 p.k)
 | 2 => .val (.int .i64 p.n)
 | 3 => .val (.int .i64 p.i)
 | 4 => .val (.string p.b)
 | _ => txD p.m p.S
def slD (s : Sl) : Nat → Dt
 | 0 => .val (.string s.r)
 | 1 => .val (.string s.p.r)
 | 2 => .val (.int .i64 s.p.k)
 | 3 => .val (.int .i64 s.p.n)
 | 4 => .val (.int .i64 s.p.i)
 | 5 => .val (.string s.p.b)
 | 6 => txD s.p.m s.p.S
 | 7 => .val (.bool s.h)
 | 8 => .val (.bool s.e)
 | 9 => .val (.bool s.d)
 | 10 => .val (.bool s.o)
 | 11 => inD s.ze
 | _ => inD s.zr
abbrev slC (s : Sl) (v6 v11 v12 : Value) : Array Value := #[.string s.r, .string s.p.r, .int .i64 s.p.k, .int .i64 s.p.n, .int .i64 s.p.i, .string s.p.b, v6, .bool s.h, .bool s.e, .bool s.d, .bool s.o, v11, v12]
abbrev slV (s : Sl) (v6 v11 v12 : Value) : Value := .agg (slC s v6 v11 v12)
structure Sy where
 k : Int
 f : Int
 t : Int
 r : ByteArray
 p : Pc
def syD (s : Sy) : Nat → Dt
 | 0 => .val (.int .i64 s.k)
 | 1 => .val (.int .i64 s.f)
 | 2 => .val (.int .i64 s.t)
 | 3 => .val (.string s.r)
 | 4 => .val (.string s.p.r)
 | 5 => .val (.int .i64 s.p.k)
 | 6 => .val (.int .i64 s.p.n)
 | 7 => .val (.int .i64 s.p.i)
 | 8 => .val (.string s.p.b)
 | _ => txD s.p.m s.p.S
abbrev syC (s : Sy) (v : Value) : Array Value := #[.int .i64 s.k, .int .i64 s.f, .int .i64 s.t, .string s.r, .string s.p.r, .int .i64 s.p.k, .int .i64 s.p.n, .int .i64 s.p.i, .string s.p.b, v]
abbrev syV (s : Sy) (v : Value) : Value := .agg (syC s v)
abbrev ag13 (y : Nat → Value) : Value := .agg #[y 0, y 1, y 2, y 3, y 4, y 5, y 6, y 7, y 8, y 9, y 10, y 11, y 12]
abbrev ag10 (y : Nat → Value) : Value := .agg #[y 0, y 1, y 2, y 3, y 4, y 5, y 6, y 7, y 8, y 9]
def slsD (n : Nat) (S : Nat → Sl) : Dt := .lst 76 13 n fun i => slD (S i)
def sysD (n : Nat) (S : Nat → Sy) : Dt := .lst 85 10 n fun i => syD (S i)
theorem slot_row {w : World} {n : Nat} {S : Nat → Sl} {a : Option Addr} {cap : Nat} (h : Rd w (slsD n S) (.slice a n cap)) {i : Nat} (hi : i < n) :
  ∃ (b off : Nat) (y : Nat → Value) (a6 a11 a12 : Option Addr) (c6 c11 c12 : Nat), a = some ⟨b, off, none⟩ ∧ (∀ q, q < 13 → w.cell? ⟨b, off + (i * 13 + q), none⟩ = some (y q)) ∧ ag13 y = slV (S i) (.slice a6 (S i).p.m c6) (.slice a11 (S i).ze.length c11) (.slice a12 (S i).zr.length c12) ∧ TxtAt w a6 (S i).p.m (S i).p.S ∧ IntsAt w a11 (S i).ze.length (S i).ze ∧ IntsAt w a12 (S i).zr.length (S i).zr := by
 obtain ⟨b, off, y, ea, hc, hr⟩ := h.row hi
 obtain ⟨a6, c6, e6⟩ := (hr 6 (by omega)).shape
 have r6 : Rd w (txD (S i).p.m (S i).p.S) (y 6) := hr 6 (by omega)
 rw [e6] at r6
 obtain ⟨a11, c11, e11⟩ := (hr 11 (by omega)).shape
 have r11 : Rd w (inD (S i).ze) (y 11) := hr 11 (by omega)
 rw [e11] at r11
 obtain ⟨a12, c12, e12⟩ := (hr 12 (by omega)).shape
 have r12 : Rd w (inD (S i).zr) (y 12) := hr 12 (by omega)
 rw [e12] at r12
 have g0 := hr 0 (by omega)
 have g1 := hr 1 (by omega)
 have g2 := hr 2 (by omega)
 have g3 := hr 3 (by omega)
 have g4 := hr 4 (by omega)
 have g5 := hr 5 (by omega)
 have g7 := hr 7 (by omega)
 have g8 := hr 8 (by omega)
 have g9 := hr 9 (by omega)
 have g10 := hr 10 (by omega)
 simp only [Rd, slD] at g0 g1 g2 g3 g4 g5 g7 g8 g9 g10
 exact ⟨b, off, y, a6, a11, a12, c6, c11, c12, ea, hc, by simp only [ag13, slV, slC, g0, g1, g2, g3, g4, g5, g7, g8, g9, g10, e6, e11, e12], rd_txt.1 r6, rd_ints.1 r11, rd_ints.1 r12⟩
theorem say_row {w : World} {n : Nat} {S : Nat → Sy} {a : Option Addr} {cap : Nat} (h : Rd w (sysD n S) (.slice a n cap)) {i : Nat} (hi : i < n) :
  ∃ (b off : Nat) (y : Nat → Value) (a9 : Option Addr) (c9 : Nat), a = some ⟨b, off, none⟩ ∧ (∀ q, q < 10 → w.cell? ⟨b, off + (i * 10 + q), none⟩ = some (y q)) ∧ ag10 y = syV (S i) (.slice a9 (S i).p.m c9) ∧ TxtAt w a9 (S i).p.m (S i).p.S := by
 obtain ⟨b, off, y, ea, hc, hr⟩ := h.row hi
 obtain ⟨a9, c9, e9⟩ := (hr 9 (by omega)).shape
 have r9 : Rd w (txD (S i).p.m (S i).p.S) (y 9) := hr 9 (by omega)
 rw [e9] at r9
 have g0 := hr 0 (by omega)
 have g1 := hr 1 (by omega)
 have g2 := hr 2 (by omega)
 have g3 := hr 3 (by omega)
 have g4 := hr 4 (by omega)
 have g5 := hr 5 (by omega)
 have g6 := hr 6 (by omega)
 have g7 := hr 7 (by omega)
 have g8 := hr 8 (by omega)
 simp only [Rd, syD] at g0 g1 g2 g3 g4 g5 g6 g7 g8
 exact ⟨b, off, y, a9, c9, ea, hc, by simp only [ag10, syV, syC, g0, g1, g2, g3, g4, g5, g6, g7, g8, e9], rd_txt.1 r9⟩
theorem range13 {w : World} {b o : Nat} {y : Nat → Value} (h : ∀ q, q < 13 → w.cell? ⟨b, o + q, none⟩ = some (y q)) : w.rangeAt b o [y 0, y 1, y 2, y 3, y 4, y 5, y 6, y 7, y 8, y 9, y 10, y 11, y 12] := fun j v hv => by
 have hj : j < 13 := (List.getElem?_eq_some_iff.1 hv).1
 rw [h j hj, ← hv]
 match j, hj with
 | 0, _ | 1, _ | 2, _ | 3, _ | 4, _ | 5, _ | 6, _ | 7, _ | 8, _ | 9, _ | 10, _ | 11, _ | 12, _ => rfl
theorem range10 {w : World} {b o : Nat} {y : Nat → Value} (h : ∀ q, q < 10 → w.cell? ⟨b, o + q, none⟩ = some (y q)) : w.rangeAt b o [y 0, y 1, y 2, y 3, y 4, y 5, y 6, y 7, y 8, y 9] := fun j v hv => by
 have hj : j < 10 := (List.getElem?_eq_some_iff.1 hv).1
 rw [h j hj, ← hv]
 match j, hj with
 | 0, _ | 1, _ | 2, _ | 3, _ | 4, _ | 5, _ | 6, _ | 7, _ | 8, _ | 9, _ => rfl
theorem Tryz.infoSl : (Tryz.prog.info? 76).map (·.size) = some 13 := by kernel_rfl
theorem Tryz.infoNd : (Tryz.prog.info? 81).map (·.size) = some 3 := by kernel_rfl
theorem Tryz.infoPc3 : (Tryz.prog.info? 49).map (fun i => (i.zero, i.size, i.bytes)) = some (some (.agg #[.string ByteArray.empty, .int .i64 0, .int .i64 0, .int .i64 0, .string ByteArray.empty, .slice none 0 0]), 6, 80) := by kernel_rfl
def zc : Nat → Value
 | 0 => .string ByteArray.empty
 | 1 => .int .i64 0
 | 2 => .int .i64 0
 | 3 => .int .i64 0
 | 4 => .string ByteArray.empty
 | _ => .slice none 0 0
theorem made_gL (n : Nat) : (madeCells #[.string ByteArray.empty, .int .i64 0, .int .i64 0, .int .i64 0, .string ByteArray.empty, .slice none 0 0] (n * 6)).toList = gL (fun _ => zc) n := by
 apply List.ext_getElem?
 intro j
 by_cases hj : j < n * 6
 ·have h2 := gL_get (fun _ => zc) n (j / 6) (j % 6) (by omega) (by omega)
  rw [show j / 6 * 6 + j % 6 = j by omega] at h2
  rw [h2]
  have hq : j % 6 < 6 := by omega
  simp [madeCells, hj]
  generalize j % 6 = q at hq
  match q, hq with
  | 0, _ => rfl
  | 1, _ => rfl
  | 2, _ => rfl
  | 3, _ => rfl
  | 4, _ => rfl
  | 5, _ => rfl
 ·rw [List.getElem?_eq_none (by simp [madeCells]; omega), List.getElem?_eq_none (by rw [gL_len]; omega)]
def GwP (k n i : Int) (c : Nat) (Q : Nat → Pc) : Prop := ∀ j, j < c → k = (Q j).k ∧ n = (Q j).n ∧ i ≠ (Q j).i
noncomputable def gwB (k n i : Int) (c : Nat) (Q : Nat → Pc) : Bool := @decide (GwP k n i c Q) (Classical.propDecidable _)
theorem gwB_yes {k n i : Int} {c : Nat} {Q : Nat → Pc} (h : GwP k n i c Q) : gwB k n i c Q = true := by unfold gwB; simpa using h
theorem gwB_no {k n i : Int} {c : Nat} {Q : Nat → Pc} (h : ¬ GwP k n i c Q) : gwB k n i c Q = false := by unfold gwB; simpa using h
theorem goesWith_any (r : ByteArray) (k n i : Int) (b : ByteArray) (v : Value) (g c cc : Nat) (Q : Nat → Pc) (A : Nat → Option Addr) (C : Nat → Nat) (w : World) (hcell : ∀ j q, j < c → q < 6 → w.cell? ⟨g, j * 6 + q, none⟩ = some (cel (Q j) (.slice (A j) (Q j).m (C j)) q)) (hc : c ≤ 64) :
  Calls Tryz.prog 65 #[pcV r k n i b v, .slice (some ⟨g, 0, none⟩) c cc] w fun e w' => e = .returned (.bool (gwB k n i c Q)) ∧ Below w.heap.size w w' := by
 obtain ⟨w0, HW0⟩ : ∃ x, Hid (x = w.alloc (.cells (pcC r k n i b v) 49)) := ⟨_, rfl⟩
 obtain ⟨B, HB⟩ : ∃ x, Hid (x = w.heap.size) := ⟨_, rfl⟩
 have HR : Hid (Row w0 B 49 (pcC r k n i b v)) := by show Row _ _ _ _; rw [HW0.out, HB.out]; exact Row.new w _ _
 have KB : Hid (Below w.heap.size w w0) := by show Below _ _ _; rw [HW0.out]; exact (Below.refl _ _).alloc (Nat.le_refl _) _
 have HC : Hid (∀ j q, j < c → q < 6 → w0.cell? ⟨g, j * 6 + q, none⟩ = some (cel (Q j) (.slice (A j) (Q j).m (C j)) q)) := fun j q hj hq => (KB.out.cell (p := ⟨g, j * 6 + q, none⟩) (block_lt_of_cell (hcell j q hj hq))).trans (hcell j q hj hq)
 clear hcell
 go_enter Tryz.func65, Tryz.ntmps65
 go_wp2_with fail
 rw [← HW0.out, ← HB.out]
 go_loopw [9] (fun vi wr => ∃ j : Nat, j ≤ c ∧ vi = .int .i64 (j : Int) ∧ Hid (GwP k n i j Q) ∧ Below w0.heap.size w0 wr) (fun vi _ => c - (intOf vi).toNat)
 case atStart => exact ⟨0, Nat.zero_le _, rfl, fun j hj => absurd hj (Nat.not_lt_zero _), Below.refl _ _⟩
 case round =>
  obtain ⟨j, hj, rfl, HG, hbel⟩ := hrel
  by_cases hlt : j < c
  ·have hji : (j : Int) < (c : Int) := by omega
   have hx := fun q (hq : q < 6) => (hbel.cell (p := ⟨g, j * 6 + q, none⟩) (block_lt_of_cell (HC.out j q hlt hq))).trans (HC.out j q hlt hq)
   have HRr := HR.out.below hbel HR.out.lt
   have q1 := HRr.cell 1
   have q2 := HRr.cell 2
   have q3 := HRr.cell 3
   simp at q1 q2 q3
   have lB : B < wr.heap.size := HRr.lt
   have nB : ¬ B = wr.heap.size := by omega
   have nB' : ¬ wr.heap.size = B := by omega
   have x0 := hx 0 (by omega)
   have x1 := hx 1 (by omega)
   have x2 := hx 2 (by omega)
   have x3 := hx 3 (by omega)
   have x4 := hx 4 (by omega)
   have x5 := hx 5 (by omega)
   simp only [cel, Nat.add_zero] at x0 x1 x2 x3 x4 x5
   have HN : Hid (GwP k n i (j + 1) Q ↔ k = (Q j).k ∧ n = (Q j).n ∧ i ≠ (Q j).i) := by
    constructor
    ·intro h; exact h j (by omega)
    ·intro h y hy
     by_cases e : y = j
     ·subst e; exact h
     ·exact HG.out y (by omega)
   have HX : Hid (¬ (k = (Q j).k ∧ n = (Q j).n ∧ i ≠ (Q j).i) → gwB k n i c Q = false) := fun h => gwB_no fun h' => h (h' j hlt)
   generalize (Q j).k = kj at x1 HN HX
   generalize (Q j).n = nj at x2 HN HX
   generalize (Q j).i = ij at x3 HN HX
   generalize (Q j).r = rj at x0
   generalize (Q j).b = bj at x4
   generalize (Q j).m = mj at x5
   generalize A j = aj at x5
   generalize C j = cj at x5
   obtain ⟨D, HD⟩ : ∃ x, Hid (x = wr.heap.size) := ⟨_, rfl⟩
   obtain ⟨w1, HW1⟩ : ∃ x, Hid (x = wr.alloc (.cells (pcC rj kj nj ij bj (.slice aj mj cj)) 49)) := ⟨_, rfl⟩
   have HB1 : Hid (Below w0.heap.size w0 w1) := by show Below _ _ _; rw [HW1.out]; exact hbel.alloc hbel.size _
   clear HRr hx
   by_cases hk : k = kj
   ·subst hk
    have nk : (k != k) = false := by simp
    by_cases hn : n = nj
    ·subst hn
     have nn : (n != n) = false := by simp
     by_cases hi : i = ij
     ·subst hi
      have ni : (i == i) = true := by simp
      have HF : Hid (gwB k n i c Q = false) := HX.out (by simp)
      go_wp2
      go_ret
      exact ⟨by rw [HF.out]; rfl, by rw [← HW1.out]; exact below2 KB.out HB1.out⟩
     ·have ni : (i == ij) = false := by simpa using hi
      have HG2 : Hid (GwP k n i (j + 1) Q) := HN.out.2 ⟨rfl, rfl, hi⟩
      go_wp2
      go_roundw
      case rel => exact ⟨j + 1, by omega, by go_num, HG2, by rw [← HW1.out]; exact HB1.out⟩
      case measure => simp [intOf]; omega
    ·have nn : (n != nj) = true := by simpa using hn
     have HF : Hid (gwB k n i c Q = false) := HX.out (fun h => hn h.2.1)
     go_wp2
     go_ret
     exact ⟨by rw [HF.out]; rfl, by rw [← HW1.out]; exact below2 KB.out HB1.out⟩
   ·have nk : (k != kj) = true := by simpa using hk
    have HF : Hid (gwB k n i c Q = false) := HX.out (fun h => hk h.1)
    go_wp2
    go_ret
    exact ⟨by rw [HF.out]; rfl, by rw [← HW1.out]; exact below2 KB.out HB1.out⟩
  ·obtain rfl : j = c := by omega
   have HF : Hid (gwB k n i j Q = true) := gwB_yes HG.out
   go_wp2
   go_ret
   exact ⟨by rw [HF.out]; rfl, below2 KB.out hbel⟩
def SlS (s : Sl) : Prop := s.p.m ≤ 1048576 ∧ s.ze.length ≤ 1048576 ∧ s.zr.length ≤ 1048576
theorem eqSl_same (s : Sl) (a6 b6 a11 b11 a12 b12 : Option Addr) (c6 d6 c11 d11 c12 d12 : Nat) (w : World) (h6 : TxtAt w a6 s.p.m s.p.S) (k6 : TxtAt w b6 s.p.m s.p.S) (h11 : IntsAt w a11 s.ze.length s.ze) (k11 : IntsAt w b11 s.ze.length s.ze) (h12 : IntsAt w a12 s.zr.length s.zr) (k12 : IntsAt w b12 s.zr.length s.zr) (hs : SlS s) :
  Calls Tryz.prog 119 #[slV s (.slice a6 s.p.m c6) (.slice a11 s.ze.length c11) (.slice a12 s.zr.length c12), slV s (.slice b6 s.p.m d6) (.slice b11 s.ze.length d11) (.slice b12 s.zr.length d12)] w fun e w' => e = .returned (.bool true) ∧ Below w.heap.size w w' := by
 obtain ⟨r, p, fh, fe, fd, fo, ze, zr⟩ := s
 obtain ⟨rr, kk, nn, ii, bb, m, S⟩ := p
 obtain ⟨hm, he, hz⟩ := hs
 simp only at h6 k6 h11 k11 h12 k12 hm he hz
 obtain ⟨A, HA⟩ : ∃ x, Hid (x = w.heap.size) := ⟨_, rfl⟩
 obtain ⟨B, HB⟩ : ∃ x, Hid (x = w.heap.size + 1) := ⟨_, rfl⟩
 obtain ⟨w0, HW0⟩ : ∃ x, Hid (x = (w.alloc (.cells (slC ⟨r, ⟨rr, kk, nn, ii, bb, m, S⟩, fh, fe, fd, fo, ze, zr⟩ (.slice a6 m c6) (.slice a11 ze.length c11) (.slice a12 zr.length c12)) 76)).alloc (.cells (slC ⟨r, ⟨rr, kk, nn, ii, bb, m, S⟩, fh, fe, fd, fo, ze, zr⟩ (.slice b6 m d6) (.slice b11 ze.length d11) (.slice b12 zr.length d12)) 76)) := ⟨_, rfl⟩
 have RA : Hid (Row w0 A 76 (slC ⟨r, ⟨rr, kk, nn, ii, bb, m, S⟩, fh, fe, fd, fo, ze, zr⟩ (.slice a6 m c6) (.slice a11 ze.length c11) (.slice a12 zr.length c12))) := by
  show Row _ _ _ _
  rw [HW0.out, HA.out]
  exact Row.alloc (Row.new w _ _) _
 have RB : Hid (Row w0 B 76 (slC ⟨r, ⟨rr, kk, nn, ii, bb, m, S⟩, fh, fe, fd, fo, ze, zr⟩ (.slice b6 m d6) (.slice b11 ze.length d11) (.slice b12 zr.length d12))) := by
  show Row _ _ _ _
  rw [HW0.out, HB.out]
  have := Row.new (w.alloc (.cells (slC ⟨r, ⟨rr, kk, nn, ii, bb, m, S⟩, fh, fe, fd, fo, ze, zr⟩ (.slice a6 m c6) (.slice a11 ze.length c11) (.slice a12 zr.length c12)) 76)) (slC ⟨r, ⟨rr, kk, nn, ii, bb, m, S⟩, fh, fe, fd, fo, ze, zr⟩ (.slice b6 m d6) (.slice b11 ze.length d11) (.slice b12 zr.length d12)) 76
  simpa using this
 have hb0 : Below w.heap.size w w0 := by rw [HW0.out]; exact ((Below.refl _ _).alloc (Nat.le_refl _) _).alloc (by simp) _
 have KB0 : Hid (Below w.heap.size w w0) := hb0
 have KP : Hid _ := eqPc_same rr kk nn ii bb a6 b6 m c6 d6 S w0 (h6.below hb0) (k6.below hb0) hm
 have KE : Hid (∀ W, Below w0.heap.size w0 W → Calls Tryz.prog 28 #[.slice a11 ze.length c11, .slice b11 ze.length d11] W fun e w' => e = .returned (.bool true) ∧ Below W.heap.size W w') := fun W hW => eqIntS_same a11 b11 ze.length c11 d11 ze W ((h11.below hb0).below hW) ((k11.below hb0).below hW) he
 have KZ : Hid (∀ W, Below w0.heap.size w0 W → Calls Tryz.prog 28 #[.slice a12 zr.length c12, .slice b12 zr.length d12] W fun e w' => e = .returned (.bool true) ∧ Below W.heap.size W w') := fun W hW => eqIntS_same a12 b12 zr.length c12 d12 zr W ((h12.below hb0).below hW) ((k12.below hb0).below hW) hz
 generalize ze.length = le at *
 generalize zr.length = lr at *
 have f0 : (r.toList != r.toList) = false := by simp
 have f0' := ba_beq r
 have f1 : (fh != fh) = false := by simp
 have f2 : (fe != fe) = false := by simp
 have f3 : (fd != fd) = false := by simp
 have f4 : (fo != fo) = false := by simp
 clear h6 k6 h11 k11 h12 k12 hm he hz hb0
 go_enter Tryz.func119, Tryz.ntmps119
 go_wp2_with fail
 rw [← HW0.out, ← HB.out, ← HA.out]
 refine Calls.mono KP.out ?_
 rintro e w1 ⟨rfl, b1⟩
 have RA1 := RA.out.below b1 RA.out.lt
 have RB1 := RB.out.below b1 RB.out.lt
 have x7 := RA1.cell 7
 have x8 := RA1.cell 8
 have x9 := RA1.cell 9
 have x10 := RA1.cell 10
 have x11 := RA1.cell 11
 have y7 := RB1.cell 7
 have y8 := RB1.cell 8
 have y9 := RB1.cell 9
 have y10 := RB1.cell 10
 have y11 := RB1.cell 11
 simp at x7 x8 x9 x10 x11 y7 y8 y9 y10 y11
 have B1 : Hid (Below w0.heap.size w0 w1) := b1
 have HA1 : Hid (Row w1 A 76 _ ∧ Row w1 B 76 _) := ⟨RA1, RB1⟩
 clear RA RB RA1 RB1 b1 KP
 go_wp2_with fail
 refine Calls.mono (KE.out _ B1.out) ?_
 rintro e w2 ⟨rfl, b2⟩
 have RA2 := HA1.out.1.below b2 HA1.out.1.lt
 have RB2 := HA1.out.2.below b2 HA1.out.2.lt
 have B2 : Hid (Below w0.heap.size w0 w2) := below2 B1.out b2
 have z12 := RA2.cell 12
 have u12 := RB2.cell 12
 simp at z12 u12
 clear x7 x8 x9 x10 x11 y7 y8 y9 y10 y11 RA2 RB2 HA1 b2 KE
 go_wp2_with fail
 refine Calls.mono (KZ.out _ B2.out) ?_
 rintro e w3 ⟨rfl, b3⟩
 have B3 : Hid (Below w.heap.size w w3) := below2 KB0.out (below2 B2.out b3)
 clear b3 z12 u12
 go_wp2
 go_ret
 exact ⟨rfl, B3.out⟩
theorem one_row {w : World} {b off i sz : Nat} {y : Nat → Value} (W : World) (hW : Below w.heap.size w W) (h : ∀ q, q < sz + 1 → w.cell? ⟨b, off + (i * (sz + 1) + q), none⟩ = some (y q)) :
  W.cell? ⟨b, off + i * (sz + 1), none⟩ = some (y 0) ∧ (∀ q, q < sz + 1 → W.cell? ⟨b, off + i * (sz + 1) + q, none⟩ = some (y q)) := by
 have k : ∀ q, q < sz + 1 → W.cell? ⟨b, off + i * (sz + 1) + q, none⟩ = some (y q) := fun q hq => by
  have := h q hq
  rw [← Nat.add_assoc] at this
  exact (hW.cell (p := ⟨b, off + i * (sz + 1) + q, none⟩) (block_lt_of_cell this)).trans this
 exact ⟨k 0 (by omega), k⟩
theorem two_rows {w : World} {b off b' off' i sz : Nat} {y y' : Nat → Value} (W : World) (hW : Below w.heap.size w W) (h : ∀ q, q < sz + 1 → w.cell? ⟨b, off + (i * (sz + 1) + q), none⟩ = some (y q)) (h' : ∀ q, q < sz + 1 → w.cell? ⟨b', off' + (i * (sz + 1) + q), none⟩ = some (y' q)) :
  W.cell? ⟨b, off + i * (sz + 1), none⟩ = some (y 0) ∧ (∀ q, q < sz + 1 → W.cell? ⟨b, off + i * (sz + 1) + q, none⟩ = some (y q)) ∧ W.cell? ⟨b', off' + i * (sz + 1), none⟩ = some (y' 0) ∧ (∀ q, q < sz + 1 → W.cell? ⟨b', off' + i * (sz + 1) + q, none⟩ = some (y' q)) := by
 obtain ⟨h1, h2⟩ := one_row W hW h
 obtain ⟨h3, h4⟩ := one_row W hW h'
 exact ⟨h1, h2, h3, h4⟩
theorem eqSls_same (a b : Option Addr) (n ca cb : Nat) (S : Nat → Sl) (w : World) (ha : Rd w (slsD n S) (.slice a n ca)) (hb : Rd w (slsD n S) (.slice b n cb)) (hn : n ≤ 1048576) (hs : ∀ i, i < n → SlS (S i)) :
  Calls Tryz.prog 80 #[.slice a n ca, .slice b n cb] w fun e w' => e = .returned (.bool true) ∧ Below w.heap.size w w' := by
 have KH : Hid (Rd w (slsD n S) (.slice a n ca) ∧ Rd w (slsD n S) (.slice b n cb)) := ⟨ha, hb⟩
 have HS : Hid (∀ i, i < n → SlS (S i)) := hs
 have hnn : ((n : Int) != (n : Int)) = false := by simp
 clear ha hb hs
 go_enter Tryz.func80, Tryz.ntmps80
 go_wp2
 go_loopw [5] (fun vi wr => ∃ c : Nat, c ≤ n ∧ vi = .int .i64 (c : Int) ∧ Below w.heap.size w wr) (fun vi _ => n - (intOf vi).toNat)
 case atStart => exact ⟨0, Nat.zero_le _, rfl, Below.refl _ _⟩
 case round =>
  obtain ⟨c, hcn, rfl, hbel⟩ := hrel
  by_cases hlt : c < n
  ·have hki : (c : Int) < (n : Int) := by omega
   obtain ⟨b1, f1, y1, p6, p11, p12, q6, q11, q12, rfl, hc1, e1, ht1, he1, hz1⟩ := slot_row (KH.out.1.below hbel) hlt
   obtain ⟨b2, f2, y2, s6, s11, s12, t6, t11, t12, rfl, hc2, e2, ht2, he2, hz2⟩ := slot_row (KH.out.2.below hbel) hlt
   have hsc := HS.out c hlt
   have KT : Hid (∀ W, Below wr.heap.size wr W → Calls Tryz.prog 119 #[ag13 y1, ag13 y2] W fun e w' => e = .returned (.bool true) ∧ Below W.heap.size W w') := fun W hW => by
    rw [e1, e2]
    exact eqSl_same (S c) p6 s6 p11 s11 p12 s12 q6 t6 q11 t11 q12 t12 W (ht1.below hW) (ht2.below hW) (he1.below hW) (he2.below hW) (hz1.below hW) (hz2.below hW) hsc
   have KS : Hid (∀ W, Below wr.heap.size wr W → W.cell? ⟨b1, f1 + c * 13, none⟩ = some (y1 0) ∧ (∀ q, q < 13 → W.cell? ⟨b1, f1 + c * 13 + q, none⟩ = some (y1 q)) ∧ W.cell? ⟨b2, f2 + c * 13, none⟩ = some (y2 0) ∧ (∀ q, q < 13 → W.cell? ⟨b2, f2 + c * 13 + q, none⟩ = some (y2 q))) := fun W hW => two_rows W hW hc1 hc2
   have KB : Hid (Below w.heap.size w wr) := hbel
   have hdr := below_drew wr
   clear hc1 hc2 ht1 ht2 he1 he2 hz1 hz2 hbel e1 e2 hsc
   go_wp2_with fail
   go_region_held3 (fun w' => w'.cell? ⟨b1, f1 + c * 13, none⟩ = some (y1 0) ∧ (∀ q, q < 13 → w'.cell? ⟨b1, f1 + c * 13 + q, none⟩ = some (y1 q)) ∧ w'.cell? ⟨b2, f2 + c * 13, none⟩ = some (y2 0) ∧ (∀ q, q < 13 → w'.cell? ⟨b2, f2 + c * 13 + q, none⟩ = some (y2 q))) (exact KS.out _ (by assumption)) ((go_at_call 119; refine Calls.mono (KT.out _ hdr) ?_; rintro e w7 ⟨rfl, b7'⟩; have b7 := below_of_drew b7'; clear b7'))
   all_goals
    have HB7 : Hid (Below w.heap.size w w7) := below2 KB.out b7
    clear b7
    go_wp2
    go_roundw
    case rel => exact ⟨c + 1, by omega, by go_num, HB7.out⟩
    case measure => simp [intOf]; omega
  ·go_wp2
   go_ret
   exact ⟨rfl, hbel⟩
theorem eqNd_same (id f : Int) (a b : Option Addr) (n ca cb : Nat) (S : Nat → Sl) (w : World) (ha : Rd w (slsD n S) (.slice a n ca)) (hb : Rd w (slsD n S) (.slice b n cb)) (hn : n ≤ 1048576) (hs : ∀ i, i < n → SlS (S i)) :
  Calls Tryz.prog 51 #[.agg #[.int .i64 id, .int .i64 f, .slice a n ca], .agg #[.int .i64 id, .int .i64 f, .slice b n cb]] w fun e w' => e = .returned (.bool true) ∧ Below w.heap.size w w' := by
 obtain ⟨w0, HW0⟩ : ∃ x, Hid (x = (w.alloc (.cells #[.int .i64 id, .int .i64 f, .slice a n ca] 81)).alloc (.cells #[.int .i64 id, .int .i64 f, .slice b n cb] 81)) := ⟨_, rfl⟩
 have hb0 : Below w.heap.size w w0 := by rw [HW0.out]; exact ((Below.refl _ _).alloc (Nat.le_refl _) _).alloc (by simp) _
 have KB0 : Hid (Below w.heap.size w w0) := hb0
 have KE : Hid _ := eqSls_same a b n ca cb S w0 (ha.below hb0) (hb.below hb0) hn hs
 have f0 : (id != id) = false := by simp
 have f1 : (f != f) = false := by simp
 clear ha hb hb0 hs
 go_enter Tryz.func51, Tryz.ntmps51
 go_wp2_with fail
 rw [← HW0.out]
 refine Calls.mono KE.out ?_
 rintro e w1 ⟨rfl, b1⟩
 go_wp2
 go_ret
 exact ⟨rfl, below2 KB0.out b1⟩
theorem OwnP.snoc {w w2 w3 : World} {B g g3 c cap cap3 : Nat} {A : Nat → Option Addr} {C : Nat → Nat} {P : Nat → Pc} {aP : Option Addr} {cP : Nat} {X : Obj}
  (h : OwnP w B (some ⟨g, 0, none⟩) c cap A C P) (hB : B ≤ w.heap.size) (hb : Below w.heap.size w w2) (ho : OwnT w2 w.heap.size aP (P c).m cP (P c).S)
  (h3 : w3.ownsRow B 49 6 (.slice (some ⟨g3, 0, none⟩) (c + 1) cap3) (c + 1) (gL (fun i => cel (P i) (.slice (A i) (P i).m (C i))) c ++ [.string (P c).r, .int .i64 (P c).k, .int .i64 (P c).n, .int .i64 (P c).i, .string (P c).b, .slice aP (P c).m cP]))
  (hg : (w2.alloc X).grownBy w3 (some g)) (hat : g = g3 ∨ g3 = w2.heap.size + 1) : ∃ A' C', OwnP w3 B (some ⟨g3, 0, none⟩) (c + 1) cap3 A' C' P := by
 obtain ⟨h1, h2, h4, h5⟩ := h
 have lg := (World.ownsRow.lt h1 g rfl).2
 have lA : ∀ i x, i < c → A i = some x → x.block < w.heap.size := fun i x hi e => by
  have := h2 i hi
  rw [e] at this
  exact (World.ownsRow.lt this x.block rfl).2
 have lP : ∀ x, aP = some x → w.heap.size ≤ x.block ∧ x.block < w2.heap.size := fun x e => by
  subst e
  exact World.ownsRow.lt ho x.block rfl
 have hs := hb.size
 refine ⟨fun i => if i = c then aP else A i, fun i => if i = c then cP else C i, ?_, ?_, ?_, ?_⟩
 ·show World.ownsRow _ _ _ _ _ _ _
  have e : gL (fun i => cel (P i) (.slice (if i = c then aP else A i) (P i).m (if i = c then cP else C i))) (c + 1) = gL (fun i => cel (P i) (.slice (A i) (P i).m (C i))) c ++ [.string (P c).r, .int .i64 (P c).k, .int .i64 (P c).n, .int .i64 (P c).i, .string (P c).b, .slice aP (P c).m cP] := by
   rw [gL_snoc, gL_congr (c' := fun i => cel (P i) (.slice (A i) (P i).m (C i))) (fun i q hi _ => by simp [show i ≠ c by omega])]
   simp [cel]
  rw [e]
  exact h3
 ·intro i hi
  by_cases ei : i = c
  ·subst ei
   simp only [if_true]
   exact own_kept (World.ownsRow.alloc (OwnT.base ho hB) X) hg (fun x e => by have := lP x e; omega)
  ·simp only [ei, if_false]
   exact own_kept (World.ownsRow.alloc (OwnT.below (h2 i (by omega)) hb) X) hg (fun x e => h5 i x _ (by omega) e rfl)
 ·intro i j x y hij hj hx hy
  replace hx : (if i = c then aP else A i) = some x := hx
  replace hy : (if j = c then aP else A j) = some y := hy
  by_cases ej : j = c
  ·subst ej
   simp only [if_true] at hy
   rw [if_neg (by omega)] at hx
   have l1 := lP y hy
   have l2 := lA i x (by omega) hx
   omega
  ·rw [if_neg ej] at hy
   rw [if_neg (by omega)] at hx
   exact h4 i j x y hij (by omega) hx hy
 ·intro i x y hi hx hy
  replace hx : (if i = c then aP else A i) = some x := hx
  cases hy
  by_cases ei : i = c
  ·subst ei
   simp only [if_true] at hx
   have := lP x hx
   rcases hat with e | e
   ·show x.block ≠ g3; omega
   ·show x.block ≠ g3; omega
  ·rw [if_neg ei] at hx
   have l2 := lA i x (by omega) hx
   rcases hat with e | e
   ·subst e; exact h5 i x _ (by omega) hx rfl
   ·show x.block ≠ g3; omega
theorem OwnP.base {w : World} {B B' : Nat} {a : Option Addr} {n cap : Nat} {A : Nat → Option Addr} {C : Nat → Nat} {P : Nat → Pc} (h : OwnP w B a n cap A C P) (hB : B' ≤ B) : OwnP w B' a n cap A C P :=
 ⟨own_base h.1 hB, fun i hi => OwnT.base (h.2.1 i hi) hB, h.2.2⟩
theorem sAll_any (k : Int) (a : Option Addr) (n cap : Nat) (S : Nat → ByteArray) (w : World) (h : TxtAt w a n S) (hn : n ≤ 64) (hS : ∀ i, i < n → (S i).size ≤ 1048576) :
  Calls Tryz.prog 57 #[.slice a n cap, .int .i64 k, .int .i64 (n : Int)] w fun e w' => ∃ v, e = .returned v ∧ ResP w w' v n (cutP k n S) ∧ Below w.heap.size w w' := by
 obtain ⟨i0, hi, hz0, hz1, hz2⟩ := info_parts Tryz.infoStr
 obtain ⟨j0, hj, hy0, hy1, hy2⟩ := info_parts Tryz.infoPc3
 have HPC : Hid (∀ i, cutP k n S i = ⟨rtS n (lvs k n S), k, (n : Int), (i : Int), S i, pfR n (lvs k n S) (i : Int), pfF n (lvs k n S) (i : Int)⟩) := fun i => rfl
 obtain ⟨P, HP⟩ : ∃ P, Hid (cutP k n S = P) := ⟨_, rfl⟩
 rw [HP.out] at HPC
 rw [HP.out]
 obtain ⟨L, HL⟩ : ∃ L, Hid (lvs k n S = L) := ⟨_, rfl⟩
 have HL16 : Hid (∀ i, (L i).size ≤ 16) := fun i => by rw [← HL.out]; exact lvs_le _ _ _ _
 obtain ⟨rt, HRT⟩ : ∃ rt, Hid (rtS n L = rt) := ⟨_, rfl⟩
 rw [HL.out, HRT.out] at HPC
 have KH : Hid (TxtAt w a n S) := h
 have KS : Hid (∀ i, i < n → (S i).size ≤ 1048576) := hS
 have K0 : Hid (OwnT (w.alloc (.cells #[] 9)) w.heap.size (some ⟨w.heap.size, 0, none⟩) 0 0 L ∧ Below w.heap.size w (w.alloc (.cells #[] 9))) := ⟨litT w _, (Below.refl _ _).alloc (Nat.le_refl _) _⟩
 clear h hS
 go_enter Tryz.func57, Tryz.ntmps57
 go_wp2
 go_loopw [7, 8] (fun v vi wr => ∃ c g cc : Nat, c ≤ n ∧ vi = .int .i64 (c : Int) ∧ v = .slice (some ⟨g, 0, none⟩) c cc ∧ OwnT wr w.heap.size (some ⟨g, 0, none⟩) c cc L ∧ Below w.heap.size w wr) (fun _ vi _ => n - (intOf vi).toNat)
 case atStart => exact ⟨0, w.heap.size, 0, Nat.zero_le _, rfl, rfl, K0.out.1, K0.out.2⟩
 case round =>
  obtain ⟨c, g, cc, hk, rfl, rfl, ho, hbel⟩ := hrel
  clear K0
  have KO : Hid (OwnT wr w.heap.size (some ⟨g, 0, none⟩) c cc L ∧ Below w.heap.size w wr) := ⟨ho, hbel⟩
  clear ho hbel
  by_cases hlt : c < n
  ·have hki : (c : Int) < (n : Int) := by omega
   obtain ⟨b1, off1, rfl, hc1⟩ := (KH.out.below KO.out.2) c hlt
   have KC : Hid (∀ W, Calls Tryz.prog 85 #[.int .i64 k, .int .i64 (n : Int), .int .i64 (c : Int), .string (S c)] W fun e w' => e = .returned (.string (L c)) ∧ Below W.heap.size W w') := fun W => by
    have := sPieceLeaf_any k (n : Int) (c : Int) (S c) W (KS.out c hlt)
    rw [← HL.out]
    exact this
   have lg := World.ownsRow.lt KO.out.1 _ rfl
   generalize S c = sc at hc1 KC
   obtain ⟨z, HZ⟩ : ∃ z, Hid (L c = z) := ⟨_, rfl⟩
   rw [HZ.out] at KC
   go_wp2_with fail
   refine Calls.mono (KC.out _) ?_
   rintro e w6 ⟨rfl, hb6⟩
   have K6 : Hid (OwnT w6 w.heap.size (some ⟨g, 0, none⟩) c cc L ∧ Below w.heap.size w w6) := ⟨OwnT.below KO.out.1 hb6, below2 KO.out.2 hb6⟩
   have hsz6 := K6.out.2.size
   clear hb6 KC hc1 KO
   go_wp2_with (at_builtin; refine wpList_append_all _ (by rfl) _ _ 46 (by rfl) w.heap.size 9 i0 (.string ByteArray.empty) 1 16 Tryz.underlying46 hi hz0 hz1 hz2 rfl (by decide) g c cc _ (by rfl) (World.ownsRow.alloc K6.out.1 _) ⟨w6.heap.size, 0, none⟩ 1 1 [.string z] (by rfl) (by rfl) (World.news_of_block (cs := #[.string z]) (t := 9) (fr := (0, 0)) (heap_alloc_new w6 _)) (by simp [Value.oneCell']) (by unfold maxLen; omega) (by omega) (by simp; omega) ?_; intro g3 cap3 w7 hown3 hgrow3)
   have HL7 : Hid (OwnT w7 w.heap.size (some ⟨g3, 0, none⟩) (c + 1) cap3 L ∧ Below w.heap.size w w7) := by
    refine ⟨?_, (K6.out.2.alloc hsz6 _).grown (show World.grownBy _ w7 (some g) from hgrow3) (by simp; omega) (fun j hj => by cases hj; exact lg.1)⟩
    unfold OwnT
    rw [sL_snoc, HZ.out]
    exact hown3
   clear hown3 hgrow3 K6
   go_roundw
   case rel => exact ⟨c + 1, g3, cap3, by omega, by go_num, rfl, HL7.out.1, HL7.out.2⟩
   case measure => simp [intOf]; omega
  ·obtain rfl : c = n := by omega
   have KR : Hid (Calls Tryz.prog 88 #[.slice (some ⟨g, 0, none⟩) c cc] wr fun e w' => e = .returned (.tuple #[.string rt, .bool (lvB c L)]) ∧ Below wr.heap.size wr w') := by
    have := sRoot_any (some ⟨g, 0, none⟩) c cc L wr (OwnT.at KO.out.1) (by omega) (fun i _ => by have := HL16.out i; unfold maxLen; omega)
    rw [HRT.out] at this
    exact this
   generalize lvB c L = okr at KR
   go_wp2_with fail
   refine Calls.mono KR.out ?_
   rintro e w3 ⟨rfl, hb3⟩
   obtain ⟨w4, HW4⟩ : ∃ w4, Hid (w4 = w3.alloc (.cells #[] 49)) := ⟨_, rfl⟩
   have hb34 : Below w3.heap.size w3 w4 := by rw [HW4.out]; exact (Below.refl _ _).alloc (Nat.le_refl _) _
   have KL3 : Hid (TxtAt w3 (some ⟨g, 0, none⟩) c L) := (OwnT.at KO.out.1).below hb3
   have KA3 : Hid (TxtAt w3 a c S) := (KH.out.below KO.out.2).below hb3
   have KB3 : Hid (Below w.heap.size w w3) := below2 KO.out.2 hb3
   have KB34 : Hid (Below w3.heap.size w3 w4) := hb34
   have KP4 : Hid (OwnP w4 w3.heap.size (some ⟨w3.heap.size, 0, none⟩) 0 0 (fun _ => none) (fun _ => 0) P) := by
    rw [HW4.out]
    exact ⟨World.ownsRow_lit w3 #[] 0 (Nat.le_refl _) (by unfold maxLen; omega) rfl, fun i hi => absurd hi (Nat.not_lt_zero _), fun i j x y _ hj => absurd hj (Nat.not_lt_zero _), fun i x y hi => absurd hi (Nat.not_lt_zero _)⟩
   clear hb3 hb34 KO KR hi hz0 hz1 hz2
   go_wp2_with fail
   rw [← HW4.out]
   go_loopw [11, 12] (fun v vi wr => ∃ q g2 cc2 : Nat, q ≤ c ∧ vi = .int .i64 (q : Int) ∧ v = .slice (some ⟨g2, 0, none⟩) q cc2 ∧ (∃ A C, OwnP wr w3.heap.size (some ⟨g2, 0, none⟩) q cc2 A C P) ∧ Below w3.heap.size w3 wr) (fun _ vi _ => c - (intOf vi).toNat)
   case atStart => exact ⟨0, _, 0, Nat.zero_le _, rfl, rfl, ⟨_, _, KP4.out⟩, KB34.out⟩
   case round =>
    obtain ⟨q, g2, cc2, hq, rfl, rfl, ⟨A, C, hop⟩, hb3r⟩ := hrel
    clear KP4
    have KOP : Hid (OwnP wr w3.heap.size (some ⟨g2, 0, none⟩) q cc2 A C P ∧ Below w3.heap.size w3 wr) := ⟨hop, hb3r⟩
    have lg2 := World.ownsRow.lt hop.1 g2 rfl
    clear hop hb3r
    by_cases hlt2 : q < c
    ·have hqi : (q : Int) < (c : Int) := by omega
     have KPF : Hid (Calls Tryz.prog 89 #[.slice (some ⟨g, 0, none⟩) c cc, .int .i64 (q : Int)] wr fun e w' => ∃ v, e = .returned (.tuple #[v, .bool (pfB c L (q : Int))]) ∧ ResT wr w' v (P q).m (P q).S ∧ Below wr.heap.size wr w') := by
      rw [HPC.out]
      exact sProof_any (some ⟨g, 0, none⟩) c cc L (q : Int) wr (KL3.out.below KOP.out.2) (by omega) (fun i _ => by have := HL16.out i; unfold maxLen; omega)
     generalize pfB c L (q : Int) = okp at KPF
     obtain ⟨mq, HMQ⟩ : ∃ mc, Hid ((P q).m = mc) := ⟨_, rfl⟩
     rw [HMQ.out] at KPF
     obtain ⟨sc, HSC⟩ : ∃ sc, Hid (S q = sc) := ⟨_, rfl⟩
     have HS : Hid ((P q).r = rt ∧ (P q).k = k ∧ (P q).n = (c : Int) ∧ (P q).i = (q : Int) ∧ (P q).b = sc) := by rw [HPC.out, HSC.out]; exact ⟨rfl, rfl, rfl, rfl, rfl⟩
     go_wp2_with fail
     refine Calls.mono KPF.out ?_
     rintro e w5 ⟨v5, rfl, ⟨aP, cP, rfl, O5⟩, hb5⟩
     obtain ⟨b1, off1, rfl, hc1⟩ := ((KA3.out.below KOP.out.2).below hb5) q hlt2
     rw [HSC.out] at hc1
     have hs5 := hb5.size
     have hw5 := KOP.out.2.size
     have O5' : Hid (OwnT w5 wr.heap.size aP mq cP (P q).S) := O5
     have HB5 : Hid (Below wr.heap.size wr w5) := hb5
     have KX : Hid (OwnC w5 w3.heap.size (some ⟨g2, 0, none⟩) q cc2 (fun i => cel (P i) (.slice (A i) (P i).m (C i)))) := KOP.out.1.1.below hb5
     clear O5 hb5 KPF
     go_wp2_with (at_builtin; refine wpList_append_lies _ (by rfl) _ _ 37 (by rfl) w3.heap.size 49 j0 (.agg #[.string ByteArray.empty, .int .i64 0, .int .i64 0, .int .i64 0, .string ByteArray.empty, .slice none 0 0]) 6 80 Tryz.underlying37 hj hy0 hy1 hy2 rfl (by decide) (.slice (some ⟨g2, 0, none⟩) q cc2) q _ (by rfl) (World.ownsRow.alloc KX.out _) ⟨w5.heap.size, 0, none⟩ 1 1 [.string rt, .int .i64 k, .int .i64 (c : Int), .int .i64 (q : Int), .string sc, .slice aP mq cP] (by rfl) (by rfl) (World.news_of_block (cs := #[.string rt, .int .i64 k, .int .i64 (c : Int), .int .i64 (q : Int), .string sc, .slice aP mq cP]) (t := 49) (fr := (0, 0)) (heap_alloc_new w5 _)) (by simp [Value.oneCell']) (by omega) (by unfold maxLen; omega) (by omega) (by simp; omega) (w5.heap.size + 1) (by simp) ?_; intro g3 cap3 w7 hown3 hgrow3 hat3 hlt3)
     have hgr : World.grownBy (w5.alloc (.cells #[.string rt, .int .i64 k, .int .i64 (c : Int), .int .i64 (q : Int), .string sc, .slice aP mq cP] 49)) w7 (some g2) := hgrow3
     have HN : Hid ((∃ A C, OwnP w7 w3.heap.size (some ⟨g3, 0, none⟩) (q + 1) cap3 A C P) ∧ Below w3.heap.size w3 w7) := by
      refine ⟨OwnP.snoc (aP := aP) (cP := cP) KOP.out.1 hw5 HB5.out (by rw [HMQ.out]; exact O5'.out) ?_ hgr ?_, ?_⟩
      ·rw [HMQ.out, HS.out.1, HS.out.2.1, HS.out.2.2.1, HS.out.2.2.2.1, HS.out.2.2.2.2]
       exact hown3
      ·rcases hat3 with e | e
       ·exact .inl (by simpa [Value.ownBlock] using e)
       ·exact .inr e
      ·exact ((below2 KOP.out.2 HB5.out).alloc (by omega) _).grown hgr (by simp; omega) (fun j hj => by cases hj; exact lg2.1)
     clear hown3 hgrow3 hgr hat3 hlt3 KOP KX HB5 O5' hc1
     go_roundw
     case rel => exact ⟨q + 1, g3, cap3, by omega, by go_num, rfl, HN.out.1, HN.out.2⟩
     case measure => simp [intOf]; omega
    ·obtain rfl : q = c := by omega
     go_wp2
     go_ret
     exact ⟨_, rfl, ⟨_, _, A, C, rfl, KOP.out.1.base KB3.out.size⟩, below2 KB3.out KOP.out.2⟩
theorem eqSy_same (s : Sy) (a9 b9 : Option Addr) (c9 d9 : Nat) (w : World) (h9 : TxtAt w a9 s.p.m s.p.S) (k9 : TxtAt w b9 s.p.m s.p.S) (hs : s.p.m ≤ 1048576) :
  Calls Tryz.prog 52 #[syV s (.slice a9 s.p.m c9), syV s (.slice b9 s.p.m d9)] w fun e w' => e = .returned (.bool true) ∧ Below w.heap.size w w' := by
 obtain ⟨sk, sf, st, sr, p⟩ := s
 obtain ⟨rr, kk, nn, ii, bb, m, S⟩ := p
 simp only at h9 k9 hs
 obtain ⟨w0, HW0⟩ : ∃ x, Hid (x = (w.alloc (.cells (syC ⟨sk, sf, st, sr, ⟨rr, kk, nn, ii, bb, m, S⟩⟩ (.slice a9 m c9)) 85)).alloc (.cells (syC ⟨sk, sf, st, sr, ⟨rr, kk, nn, ii, bb, m, S⟩⟩ (.slice b9 m d9)) 85)) := ⟨_, rfl⟩
 have hb0 : Below w.heap.size w w0 := by rw [HW0.out]; exact ((Below.refl _ _).alloc (Nat.le_refl _) _).alloc (by simp) _
 have KB0 : Hid (Below w.heap.size w w0) := hb0
 have KP : Hid _ := eqPc_same rr kk nn ii bb a9 b9 m c9 d9 S w0 (h9.below hb0) (k9.below hb0) hs
 have f0 : (sr.toList != sr.toList) = false := by simp
 have f0' := ba_beq sr
 have f1 : (sk != sk) = false := by simp
 have f2 : (sf != sf) = false := by simp
 have f3 : (st != st) = false := by simp
 clear h9 k9 hs hb0
 go_enter Tryz.func52, Tryz.ntmps52
 go_wp2_with fail
 rw [← HW0.out]
 refine Calls.mono KP.out ?_
 rintro e w1 ⟨rfl, b1⟩
 go_wp2
 go_ret
 exact ⟨rfl, below2 KB0.out b1⟩
theorem eqSys_same (a b : Option Addr) (n ca cb : Nat) (S : Nat → Sy) (w : World) (ha : Rd w (sysD n S) (.slice a n ca)) (hb : Rd w (sysD n S) (.slice b n cb)) (hn : n ≤ 1048576) (hs : ∀ i, i < n → (S i).p.m ≤ 1048576) :
  Calls Tryz.prog 29 #[.slice a n ca, .slice b n cb] w fun e w' => e = .returned (.bool true) ∧ Below w.heap.size w w' := by
 have KH : Hid (Rd w (sysD n S) (.slice a n ca) ∧ Rd w (sysD n S) (.slice b n cb)) := ⟨ha, hb⟩
 have HS : Hid (∀ i, i < n → (S i).p.m ≤ 1048576) := hs
 have hnn : ((n : Int) != (n : Int)) = false := by simp
 clear ha hb hs
 go_enter Tryz.func29, Tryz.ntmps29
 go_wp2
 go_loopw [5] (fun vi wr => ∃ c : Nat, c ≤ n ∧ vi = .int .i64 (c : Int) ∧ Below w.heap.size w wr) (fun vi _ => n - (intOf vi).toNat)
 case atStart => exact ⟨0, Nat.zero_le _, rfl, Below.refl _ _⟩
 case round =>
  obtain ⟨c, hcn, rfl, hbel⟩ := hrel
  by_cases hlt : c < n
  ·have hki : (c : Int) < (n : Int) := by omega
   obtain ⟨b1, f1, y1, p9, q9, rfl, hc1, e1, ht1⟩ := say_row (KH.out.1.below hbel) hlt
   obtain ⟨b2, f2, y2, s9, t9, rfl, hc2, e2, ht2⟩ := say_row (KH.out.2.below hbel) hlt
   have hsc := HS.out c hlt
   have KT : Hid (∀ W, Below wr.heap.size wr W → Calls Tryz.prog 52 #[ag10 y1, ag10 y2] W fun e w' => e = .returned (.bool true) ∧ Below W.heap.size W w') := fun W hW => by
    rw [e1, e2]
    exact eqSy_same (S c) p9 s9 q9 t9 W (ht1.below hW) (ht2.below hW) hsc
   have KS : Hid (∀ W, Below wr.heap.size wr W → W.cell? ⟨b1, f1 + c * 10, none⟩ = some (y1 0) ∧ (∀ q, q < 10 → W.cell? ⟨b1, f1 + c * 10 + q, none⟩ = some (y1 q)) ∧ W.cell? ⟨b2, f2 + c * 10, none⟩ = some (y2 0) ∧ (∀ q, q < 10 → W.cell? ⟨b2, f2 + c * 10 + q, none⟩ = some (y2 q))) := fun W hW => two_rows W hW hc1 hc2
   have KB : Hid (Below w.heap.size w wr) := hbel
   have hdr := below_drew wr
   clear hc1 hc2 ht1 ht2 hbel e1 e2 hsc
   go_wp2_with fail
   go_region_held3 (fun w' => w'.cell? ⟨b1, f1 + c * 10, none⟩ = some (y1 0) ∧ (∀ q, q < 10 → w'.cell? ⟨b1, f1 + c * 10 + q, none⟩ = some (y1 q)) ∧ w'.cell? ⟨b2, f2 + c * 10, none⟩ = some (y2 0) ∧ (∀ q, q < 10 → w'.cell? ⟨b2, f2 + c * 10 + q, none⟩ = some (y2 q))) (exact KS.out _ (by assumption)) ((go_at_call 52; refine Calls.mono (KT.out _ hdr) ?_; rintro e w7 ⟨rfl, b7'⟩; have b7 := below_of_drew b7'; clear b7'))
   all_goals
    have HB7 : Hid (Below w.heap.size w w7) := below2 KB.out b7
    clear b7
    go_wp2
    go_roundw
    case rel => exact ⟨c + 1, by omega, by go_num, HB7.out⟩
    case measure => simp [intOf]; omega
  ·go_wp2
   go_ret
   exact ⟨rfl, hbel⟩
abbrev ndV (id f : Int) (v : Value) : Value := .agg #[.int .i64 id, .int .i64 f, v]
def szN (l x : Nat) : Int := if x ≤ l then ((l - x : Nat) : Int) else -1
theorem szN_yes {l x : Nat} (h : x ≤ l) : szN l x = ((l - x : Nat) : Int) := if_pos h
theorem szN_no {l x : Nat} (h : ¬ x ≤ l) : szN l x = -1 := if_neg h
def wtP (p : Pc) : Nat := p.r.size + p.b.size + (p.m + tot (fun i => (p.S i).size) p.m)
def wtS (s : Sl) : Nat := s.r.size + wtP s.p + s.ze.length + s.zr.length
theorem szPc_eq (p : Pc) (l : Nat) : szPc p.r p.b p.m p.S l = szN l (wtP p) := by
 by_cases h : wtP p ≤ l
 ·rw [szN_yes h]; exact szPc_yes h
 ·rw [szN_no h]; exact szPc_no h
structure SlI (w : World) (s : Sl) (a6 : Option Addr) : Prop where
 r : s.r.size ≤ maxLen
 pr : s.p.r.size ≤ maxLen
 pb : s.p.b.size ≤ maxLen
 tx : IsTxt w a6 s.p.m s.p.S
 ne : s.ze.length ≤ maxLen
 nr : s.zr.length ≤ maxLen
theorem szI_any (a : Option Addr) (n cap l : Nat) (w : World) (hn : n ≤ maxLen) (hl : l ≤ 1048576) : Calls Tryz.prog 13 #[.slice a n cap, .int .i64 (l : Int)] w fun e w' => e = .returned (.int .i64 (szN l n)) ∧ w' = w := by
 unfold maxLen at hn
 by_cases h : n ≤ l
 ·rw [szN_yes h]
  obtain ⟨d, hd⟩ : ∃ d, l - n = d := ⟨_, rfl⟩
  rw [hd]
  have e : IntKind.i64.wrap ((l : Int) - (n : Int)) = (d : Int) := by rw [IntKind.wrap_i64]; omega
  have h0 : ¬ ((d : Int) < 0) := by omega
  go_enter Tryz.func13, Tryz.ntmps13
  go_wp2
  go_ret
  exact ⟨rfl, rfl⟩
 ·rw [szN_no h]
  have e : IntKind.i64.wrap ((l : Int) - (n : Int)) = (l : Int) - (n : Int) := by rw [IntKind.wrap_i64]; omega
  have h0 : (l : Int) - (n : Int) < 0 := by omega
  go_enter Tryz.func13, Tryz.ntmps13
  go_wp2
  go_ret
  exact ⟨rfl, rfl⟩
theorem szSl_any (s : Sl) (a6 a11 a12 : Option Addr) (c6 c11 c12 l : Nat) (w : World) (h : SlI w s a6) (hl : l ≤ 1048576) :
  Calls Tryz.prog 81 #[slV s (.slice a6 s.p.m c6) (.slice a11 s.ze.length c11) (.slice a12 s.zr.length c12), .int .i64 (l : Int)] w fun e w' => e = .returned (.int .i64 (szN l (wtS s))) ∧ Below w.heap.size w w' := by
 obtain ⟨r, p, fh, fe, fd, fo, ze, zr⟩ := s
 obtain ⟨hr, hpr, hpb, htx, hne, hnr⟩ := h
 simp only at hr hpr hpb htx hne hnr
 have HWT : Hid (wtS ⟨r, p, fh, fe, fd, fo, ze, zr⟩ = r.size + wtP p + ze.length + zr.length) := rfl
 rw [HWT.out]
 simp only
 obtain ⟨A, HA⟩ : ∃ x, Hid (x = w.heap.size) := ⟨_, rfl⟩
 obtain ⟨w0, HW0⟩ : ∃ x, Hid (x = w.alloc (.cells (slC ⟨r, p, fh, fe, fd, fo, ze, zr⟩ (.slice a6 p.m c6) (.slice a11 ze.length c11) (.slice a12 zr.length c12)) 141)) := ⟨_, rfl⟩
 have RA : Hid (Row w0 A 141 (slC ⟨r, p, fh, fe, fd, fo, ze, zr⟩ (.slice a6 p.m c6) (.slice a11 ze.length c11) (.slice a12 zr.length c12))) := by
  show Row _ _ _ _
  rw [HW0.out, HA.out]
  exact Row.new w _ _
 have hb0 : Below w.heap.size w w0 := by rw [HW0.out]; exact (Below.refl _ _).alloc (Nat.le_refl _) _
 have KB0 : Hid (Below w.heap.size w w0) := hb0
 have KP : Hid (∀ l1 : Nat, l1 ≤ 1048576 → Calls Tryz.prog 15 #[pcV p.r p.k p.n p.i p.b (.slice a6 p.m c6), .int .i64 (l1 : Int)] w0 fun e w' => e = .returned (.int .i64 (szN l1 (wtP p))) ∧ Below w0.heap.size w0 w') := fun l1 h1 => by
  rw [← szPc_eq]
  exact szPc_any p.r p.k p.n p.i p.b a6 p.m c6 p.S l1 w0 (htx.1.below hb0) h1 htx.2.1 htx.2.2 hpr hpb
 have KE : Hid (∀ (l1 : Nat) W, l1 ≤ 1048576 → Calls Tryz.prog 13 #[.slice a11 ze.length c11, .int .i64 (l1 : Int)] W fun e w' => e = .returned (.int .i64 (szN l1 ze.length)) ∧ w' = W) := fun l1 W h1 => szI_any a11 _ c11 l1 W hne h1
 have KZ : Hid (∀ (l1 : Nat) W, l1 ≤ 1048576 → Calls Tryz.prog 13 #[.slice a12 zr.length c12, .int .i64 (l1 : Int)] W fun e w' => e = .returned (.int .i64 (szN l1 zr.length)) ∧ w' = W) := fun l1 W h1 => szI_any a12 _ c12 l1 W hnr h1
 obtain ⟨pr, pk, pn, pi, pb, m, S⟩ := p
 simp only at *
 obtain ⟨x, hx⟩ : ∃ x, r.size = x := ⟨_, rfl⟩
 rw [hx] at hr ⊢
 unfold maxLen at hr
 generalize ze.length = le at *
 generalize zr.length = lr at *
 generalize wtP ⟨pr, pk, pn, pi, pb, m, S⟩ = wp at *
 clear hpr hpb htx hne hnr hb0 HWT
 by_cases h1 : x ≤ l
 case neg =>
  rw [szN_no (by omega)]
  have e1 : IntKind.i64.wrap ((l : Int) - (x : Int)) = (l : Int) - (x : Int) := by rw [IntKind.wrap_i64]; omega
  have n1 : (l : Int) - (x : Int) < 0 := by omega
  go_enter Tryz.func81, Tryz.ntmps81
  go_wp2
  go_ret
  exact ⟨rfl, by rw [← HW0.out]; exact KB0.out⟩
 obtain ⟨l1, hl1⟩ : ∃ l1, l = x + l1 := ⟨l - x, by omega⟩
 have e1 : IntKind.i64.wrap ((l : Int) - (x : Int)) = (l1 : Int) := by rw [IntKind.wrap_i64]; omega
 have n1 : ¬ ((l1 : Int) < 0) := by omega
 have KP1 : Hid _ := KP.out l1 (by omega)
 by_cases h2 : wp ≤ l1
 case neg =>
  rw [szN_no (by omega)]
  rw [szN_no h2] at KP1
  clear hl1
  go_enter Tryz.func81, Tryz.ntmps81
  go_wp2_with fail
  rw [← HW0.out]
  refine Calls.mono KP1.out ?_
  rintro e w1 ⟨rfl, b1⟩
  go_wp2
  go_ret
  exact ⟨rfl, below2 KB0.out b1⟩
 obtain ⟨l2, hl2⟩ : ∃ l2, l1 = wp + l2 := ⟨l1 - wp, by omega⟩
 have n2 : ¬ ((l2 : Int) < 0) := by omega
 rw [szN_yes h2, show l1 - wp = l2 by omega] at KP1
 have KE1 : Hid (∀ W, _) := fun W => KE.out l2 W (by omega)
 by_cases h3 : le ≤ l2
 case neg =>
  rw [szN_no (by omega)]
  rw [szN_no h3] at KE1
  clear hl1 hl2
  go_enter Tryz.func81, Tryz.ntmps81
  go_wp2_with fail
  rw [← HW0.out, ← HA.out]
  refine Calls.mono KP1.out ?_
  rintro e w1 ⟨rfl, b1⟩
  have x11 := (RA.out.below b1 RA.out.lt).cell 11
  simp at x11
  go_wp2_with fail
  refine Calls.mono (KE1.out _) ?_
  rintro e w2 ⟨rfl, hw⟩
  obtain rfl := hw.symm
  clear hw
  go_wp2
  go_ret
  exact ⟨rfl, below2 KB0.out b1⟩
 obtain ⟨l3, hl3⟩ : ∃ l3, l2 = le + l3 := ⟨l2 - le, by omega⟩
 have n3 : ¬ ((l3 : Int) < 0) := by omega
 rw [szN_yes h3, show l2 - le = l3 by omega] at KE1
 have KZ1 : Hid (∀ W, _) := fun W => KZ.out l3 W (by omega)
 by_cases h4 : lr ≤ l3
 case neg =>
  rw [szN_no (by omega)]
  rw [szN_no h4] at KZ1
  clear hl1 hl2 hl3
  go_enter Tryz.func81, Tryz.ntmps81
  go_wp2_with fail
  rw [← HW0.out, ← HA.out]
  refine Calls.mono KP1.out ?_
  rintro e w1 ⟨rfl, b1⟩
  have x11 := (RA.out.below b1 RA.out.lt).cell 11
  have x12 := (RA.out.below b1 RA.out.lt).cell 12
  simp at x11 x12
  go_wp2_with fail
  refine Calls.mono (KE1.out _) ?_
  rintro e w2 ⟨rfl, hw⟩
  obtain rfl := hw.symm
  clear hw
  go_wp2_with fail
  refine Calls.mono (KZ1.out _) ?_
  rintro e w3 ⟨rfl, hw⟩
  obtain rfl := hw.symm
  clear hw
  go_wp2
  go_ret
  exact ⟨rfl, below2 KB0.out b1⟩
 obtain ⟨l4, hl4⟩ : ∃ l4, l3 = lr + l4 := ⟨l3 - lr, by omega⟩
 have n4 : ¬ ((l4 : Int) < 0) := by omega
 rw [szN_yes h4, show l3 - lr = l4 by omega] at KZ1
 rw [szN_yes (by omega), show l - (x + wp + le + lr) = l4 by omega]
 clear hl1 hl2 hl3 hl4
 go_enter Tryz.func81, Tryz.ntmps81
 go_wp2_with fail
 rw [← HW0.out, ← HA.out]
 refine Calls.mono KP1.out ?_
 rintro e w1 ⟨rfl, b1⟩
 have x11 := (RA.out.below b1 RA.out.lt).cell 11
 have x12 := (RA.out.below b1 RA.out.lt).cell 12
 simp at x11 x12
 go_wp2_with fail
 refine Calls.mono (KE1.out _) ?_
 rintro e w2 ⟨rfl, hw⟩
 obtain rfl := hw.symm
 clear hw
 go_wp2_with fail
 refine Calls.mono (KZ1.out _) ?_
 rintro e w3 ⟨rfl, hw⟩
 obtain rfl := hw.symm
 clear hw
 go_wp2
 go_ret
 exact ⟨rfl, below2 KB0.out b1⟩
structure SlB (s : Sl) : Prop where
 r : s.r.size ≤ maxLen
 pr : s.p.r.size ≤ maxLen
 pb : s.p.b.size ≤ maxLen
 m : s.p.m ≤ maxLen
 tx : ∀ i, i < s.p.m → (s.p.S i).size ≤ maxLen
 ne : s.ze.length ≤ maxLen
 nr : s.zr.length ≤ maxLen
theorem SlB.i {s : Sl} (h : SlB s) {w : World} {a6 : Option Addr} (ht : TxtAt w a6 s.p.m s.p.S) : SlI w s a6 := ⟨h.r, h.pr, h.pb, ⟨ht, h.m, h.tx⟩, h.ne, h.nr⟩
def wtL (n : Nat) (S : Nat → Sl) : Nat := n + tot (fun i => wtS (S i)) n
theorem Tryz.infoSlL : (Tryz.prog.info? 141).map (·.size) = some 13 := by kernel_rfl
theorem szSls_any (a : Option Addr) (n cap : Nat) (S : Nat → Sl) (l : Nat) (w : World) (h : Rd w (slsD n S) (.slice a n cap)) (hl : l ≤ 1048576) (hn : n ≤ maxLen) (hL : ∀ i, i < n → SlB (S i)) :
  Calls Tryz.prog 54 #[.slice a n cap, .int .i64 (l : Int)] w fun e w' => e = .returned (.int .i64 (szN l (wtL n S))) ∧ Below w.heap.size w w' := by
 unfold maxLen at hn
 by_cases h1 : n ≤ l
 ·obtain ⟨d, hd⟩ : ∃ d, l - n = d := ⟨_, rfl⟩
  have hw : IntKind.i64.wrap ((l : Int) - (n : Int)) = (d : Int) := by rw [IntKind.wrap_i64]; omega
  have h0 : ¬ ((d : Int) < 0) := by omega
  have KL : Hid (∀ i, i < n → SlB (S i)) := hL
  have KH : Hid (Rd w (slsD n S) (.slice a n cap)) := h
  clear hL h
  go_enter Tryz.func54, Tryz.ntmps54
  go_wp2
  go_loopw [1, 5] (fun p i wr => ∃ c q : Nat, c ≤ n ∧ q ≤ 1048576 ∧ Hid (tot (fun i => wtS (S i)) c + q = d) ∧ p = .int .i64 (q : Int) ∧ i = .int .i64 (c : Int) ∧ Below w.heap.size w wr) (fun _ i _ => n - (intOf i).toNat)
  case atStart => exact ⟨0, d, Nat.zero_le _, by omega, by show 0 + d = d; omega, rfl, rfl, Below.refl _ _⟩
  case round =>
   obtain ⟨c, q, hc, hq, HT, rfl, rfl, hbel⟩ := hrel
   clear hw h0
   by_cases hlt : c < n
   ·obtain ⟨b1, f1, y1, p6, p11, p12, q6, q11, q12, rfl, hc1, e1, ht1, he1, hz1⟩ := slot_row (KH.out.below hbel) hlt
    have hti := tot_le (fun i => wtS (S i)) hlt
    have hlti : (c : Int) < (n : Int) := by omega
    have HT' := HT.out
    obtain ⟨lc, HLC⟩ : ∃ x, Hid (wtS (S c) = x) := ⟨_, rfl⟩
    have KTS : Hid (tot (fun i => wtS (S i)) (c + 1) = tot (fun i => wtS (S i)) c + lc) := by rw [← HLC.out]; rfl
    have hti' : tot (fun i => wtS (S i)) c + lc ≤ tot (fun i => wtS (S i)) n := by rw [← HLC.out]; exact hti
    have KZ : Hid (Calls Tryz.prog 81 #[ag13 y1, .int .i64 (q : Int)] wr fun e w' => e = .returned (.int .i64 (szN q lc)) ∧ Below wr.heap.size wr w') := by
     rw [e1, ← HLC.out]
     exact szSl_any (S c) p6 p11 p12 q6 q11 q12 q wr ((KL.out c hlt).i ht1) hq
    obtain ⟨_, x⟩ := one_row (sz := 12) wr (Below.refl _ _) hc1
    have R1 : Hid (wr.rangeAt b1 (f1 + c * 13) [y1 0, y1 1, y1 2, y1 3, y1 4, y1 5, y1 6, y1 7, y1 8, y1 9, y1 10, y1 11, y1 12]) := range13 x
    have KB : Hid (Below w.heap.size w wr) := hbel
    clear hti hc1 e1 ht1 he1 hz1 x hbel
    by_cases h2 : lc ≤ q
    ·obtain ⟨q', hq'⟩ : ∃ q', q - lc = q' := ⟨_, rfl⟩
     have h3 : ¬ ((q' : Int) < 0) := by omega
     have HT2 : Hid (tot (fun i => wtS (S i)) (c + 1) + q' = d) := by show _ = _; rw [KTS.out]; omega
     have hq2 : q' ≤ 1048576 := by omega
     rw [szN_yes h2, hq'] at KZ
     clear HT HT' hti' KTS
     go_wp2_with (refine wpList_load_mid (by rfl) 141 _ (by rfl) b1 (f1 + c * 13) (by rfl) _ _ R1.out Tryz.underlying141 (by rfl) Tryz.infoSlL ?_)
     refine Calls.mono KZ.out ?_
     rintro e w1 ⟨rfl, bb⟩
     have KB1 : Hid (Below w.heap.size w w1) := below2 KB.out bb
     clear bb KZ R1
     go_wp2
     go_roundw
     case rel => exact ⟨c + 1, q', by omega, hq2, HT2, rfl, by go_num, KB1.out⟩
     case measure => simp [intOf] <;> omega
    ·have HR : Hid (szN l (wtL n S) = -1) := szN_no (by unfold wtL; omega)
     rw [szN_no h2] at KZ
     clear HT HT' hti' KTS
     go_wp2_with (refine wpList_load_mid (by rfl) 141 _ (by rfl) b1 (f1 + c * 13) (by rfl) _ _ R1.out Tryz.underlying141 (by rfl) Tryz.infoSlL ?_)
     refine Calls.mono KZ.out ?_
     rintro e w1 ⟨rfl, bb⟩
     have KB1 : Hid (Below w.heap.size w w1) := below2 KB.out bb
     clear bb KZ R1
     go_wp2
     go_ret
     exact ⟨ret_int HR.out.symm, KB1.out⟩
   ·obtain rfl : c = n := by omega
    have HR : Hid (szN l (wtL c S) = (q : Int)) := by
     have := HT.out
     have e : l - (c + tot (fun i => wtS (S i)) c) = q := by omega
     exact (szN_yes (by unfold wtL; omega)).trans (by unfold wtL; rw [e])
    clear KH
    go_wp2
    go_ret
    exact ⟨ret_int HR.out.symm, hbel⟩
 ·have h0 : (l : Int) - (n : Int) < 0 := by omega
  have hw : IntKind.i64.wrap ((l : Int) - (n : Int)) = (l : Int) - (n : Int) := by rw [IntKind.wrap_i64]; omega
  have HR : Hid (szN l (wtL n S) = -1) := szN_no (by unfold wtL; omega)
  clear h hL
  go_enter Tryz.func54, Tryz.ntmps54
  go_wp2
  go_ret
  exact ⟨ret_int HR.out.symm, Below.refl _ _⟩
theorem szNd_any (id f : Int) (a : Option Addr) (n cap : Nat) (S : Nat → Sl) (l : Nat) (w : World) (h : Rd w (slsD n S) (.slice a n cap)) (hl : l ≤ 1048576) (hn : n ≤ maxLen) (hL : ∀ i, i < n → SlB (S i)) :
  Calls Tryz.prog 31 #[.agg #[.int .i64 id, .int .i64 f, .slice a n cap], .int .i64 (l : Int)] w fun e w' => e = .returned (.int .i64 (szN l (wtL n S))) ∧ Below w.heap.size w w' := by
 obtain ⟨w0, HW0⟩ : ∃ x, Hid (x = w.alloc (.cells #[.int .i64 id, .int .i64 f, .slice a n cap] 64)) := ⟨_, rfl⟩
 have hb0 : Below w.heap.size w w0 := by rw [HW0.out]; exact (Below.refl _ _).alloc (Nat.le_refl _) _
 have KB0 : Hid (Below w.heap.size w w0) := hb0
 have KZ : Hid _ := szSls_any a n cap S l w0 (h.below hb0) hl hn hL
 clear h hL hb0
 by_cases h1 : wtL n S ≤ l
 ·obtain ⟨d, hd⟩ : ∃ d, l - wtL n S = d := ⟨_, rfl⟩
  rw [szN_yes h1, hd] at KZ
  rw [szN_yes h1, hd]
  have h0 : ¬ ((d : Int) < 0) := by omega
  clear h1 hd
  go_enter Tryz.func31, Tryz.ntmps31
  go_wp2_with fail
  rw [← HW0.out]
  refine Calls.mono KZ.out ?_
  rintro e w1 ⟨rfl, b1⟩
  go_wp2
  go_ret
  exact ⟨rfl, below2 KB0.out b1⟩
 ·rw [szN_no h1] at KZ
  rw [szN_no h1]
  clear h1
  go_enter Tryz.func31, Tryz.ntmps31
  go_wp2_with fail
  rw [← HW0.out]
  refine Calls.mono KZ.out ?_
  rintro e w1 ⟨rfl, b1⟩
  go_wp2
  go_ret
  exact ⟨rfl, below2 KB0.out b1⟩
def ofs (k : Nat) (P : Nat → Pc) : Nat → Nat
 | 0 => k
 | i + 1 => ofs k P i + 5 + (P i).m
def PiA (w : World) (a : Option Addr) (n : Nat) (A : Nat → Option Addr) (C : Nat → Nat) (P : Nat → Pc) : Prop := ∀ i, i < n → (∃ b off, a = some ⟨b, off, none⟩ ∧ ∀ q, q < 6 → w.cell? ⟨b, off + (i * 6 + q), none⟩ = some (cel (P i) (.slice (A i) (P i).m (C i)) q)) ∧ TxtAt w (A i) (P i).m (P i).S
theorem PiA.below {w w' : World} {a : Option Addr} {n : Nat} {A : Nat → Option Addr} {C : Nat → Nat} {P : Nat → Pc} (h : PiA w a n A C P) (hb : Below w.heap.size w w') : PiA w' a n A C P := fun i hi => by
 obtain ⟨⟨b, off, e, hc⟩, ht⟩ := h i hi
 exact ⟨⟨b, off, e, fun q hq => (hb.cell (p := ⟨b, off + (i * 6 + q), none⟩) (block_lt_of_cell (hc q hq))).trans (hc q hq)⟩, ht.below hb⟩
theorem PiAt.a {w : World} {a : Option Addr} {n : Nat} {P : Nat → Pc} (h : PiAt w a n P) : ∃ A C, PiA w a n A C P := by
 refine ⟨fun i => if hi : i < n then (h i hi).choose_spec.choose_spec.choose else none, fun i => if hi : i < n then (h i hi).choose_spec.choose_spec.choose_spec.choose else 0, fun i hi => ?_⟩
 simp only [hi, dif_pos]
 have := (h i hi).choose_spec.choose_spec.choose_spec.choose_spec
 exact ⟨⟨_, _, this.1, this.2.1⟩, this.2.2⟩
noncomputable def pok (P : Nat → Pc) (c : Nat) : Bool := okP (P c).r (P c).k (P c).n (P c).i (P c).b (P c).m (P c).S
open Classical in
noncomputable def gsel (root : ByteArray) (P : Nat → Pc) : Nat → List Nat
 | 0 => []
 | c + 1 => if (P c).r = root ∧ gwB (P c).k (P c).n (P c).i (gsel root P c).length (fun j => P ((gsel root P c).getD j 0)) = true ∧ pok P c = true then gsel root P c ++ [c] else gsel root P c
theorem gsel_yes {root : ByteArray} {P : Nat → Pc} {c : Nat} (h : (P c).r = root ∧ gwB (P c).k (P c).n (P c).i (gsel root P c).length (fun j => P ((gsel root P c).getD j 0)) = true ∧ pok P c = true) : gsel root P (c + 1) = gsel root P c ++ [c] := by
 show (if _ then _ else _) = _
 rw [if_pos h]
theorem gsel_no {root : ByteArray} {P : Nat → Pc} {c : Nat} (h : ¬ ((P c).r = root ∧ gwB (P c).k (P c).n (P c).i (gsel root P c).length (fun j => P ((gsel root P c).getD j 0)) = true ∧ pok P c = true)) : gsel root P (c + 1) = gsel root P c := by
 show (if _ then _ else _) = _
 rw [if_neg h]
theorem gsel_len (root : ByteArray) (P : Nat → Pc) (c : Nat) : (gsel root P c).length ≤ c := by
 induction c with
 | zero => exact Nat.le_refl _
 | succ c ih =>
  by_cases h : (P c).r = root ∧ gwB (P c).k (P c).n (P c).i (gsel root P c).length (fun j => P ((gsel root P c).getD j 0)) = true ∧ pok P c = true
  ·rw [gsel_yes h, List.length_append]; show _ + 1 ≤ _; omega
  ·rw [gsel_no h]; omega
theorem gsel_mem {root : ByteArray} {P : Nat → Pc} {c x : Nat} (h : x ∈ gsel root P c) : x < c ∧ (P x).r = root ∧ pok P x = true := by
 induction c with
 | zero => cases h
 | succ c ih =>
  by_cases hp : (P c).r = root ∧ gwB (P c).k (P c).n (P c).i (gsel root P c).length (fun j => P ((gsel root P c).getD j 0)) = true ∧ pok P c = true
  ·rw [gsel_yes hp, List.mem_append] at h
   rcases h with h | h
   ·have := ih h; exact ⟨by omega, this.2⟩
   ·obtain rfl : x = c := by simpa using h
    exact ⟨by omega, hp.1, hp.2.2⟩
  ·rw [gsel_no hp] at h
   have := ih h; exact ⟨by omega, this.2⟩
abbrev celp (P : Nat → Pc) (A : Nat → Option Addr) (C : Nat → Nat) (x : Nat) : Nat → Value := cel (P x) (.slice (A x) (P x).m (C x))
theorem open_list {H : Type} {enc : TypeId × Value → H} {w : World} {base : Nat} {spare : Nat → Bool} {held : Bool} {α : Type} (z : α) {T e sz : Nat} (t' : Nat) (D : α → Nat → Dt) (Bd : α → Prop) (hu : Tryz.prog.underlying T = some (.slice e)) (hc : Tryz.prog.cellsOf e = sz) (hpos : 0 < sz)
  (each : ∀ {fuel : Nat} {cs : List Value} {x : DataW H × List MemPlace}, DataW.trod enc Tryz.prog w base spare held fuel e cs = some x → ∃ y : α, cs.length = sz ∧ (∀ q, q < sz → Rd w (D y q) (cs.getD q undef)) ∧ Bd y)
  {fuel : Nat} {a : Option Addr} {n c : Nat} {x : DataW H × List MemPlace} (h : DataW.trod enc Tryz.prog w base spare held fuel T [.slice a n c] = some x) :
  ∃ P : Nat → α, Rd w (.lst t' sz n fun i => D (P i)) (.slice a n c) ∧ n ≤ maxLen ∧ ∀ i, i < n → Bd (P i) := by
 rcases Go.Deep.open_slice hu h with ⟨hcs, _⟩ | ⟨ad, len, cap, m, n', D', Pl, hcs, hb, hl, hm, hmm, _, hx⟩
 ·simp at hcs
  obtain ⟨rfl, rfl, rfl⟩ := hcs
  exact ⟨fun _ => z, Rd.nil _ _ _ _ _ _, Nat.zero_le _, fun i hi => absurd hi (Nat.not_lt_zero _)⟩
 ·simp at hcs
  obtain ⟨rfl, rfl, rfl⟩ := hcs
  rw [hc] at hx
  have hnm : n ≤ m := by rw [hmm]; split <;> omega
  obtain ⟨b, off, spot⟩ := ad
  have ea : ∀ (b off i : Nat), (⟨b, off, none⟩ : Addr).add i = ⟨b, off + i, none⟩ := fun b off i => by unfold Addr.add; split <;> simp_all
  have each' : ∀ i, ∃ p : α, i < n → spot = none ∧ (∀ q, q < sz → ∃ y, w.cell? ⟨b, off + (i * sz + q), none⟩ = some y ∧ Rd w (D p q) y) ∧ Bd p := fun i => by
   by_cases hi : i < n
   ·obtain ⟨cs', h1, h2⟩ := hx i (by omega)
    obtain ⟨p, hlen', hrd, hbd⟩ := each h2
    obtain ⟨_, hlen, hcell⟩ := World.cells?_some h1
    have hspot : spot = none := by
     obtain ⟨cs0, g1, g2⟩ := hx 0 (by omega)
     obtain ⟨_, hlen0, hcell0⟩ := World.cells?_some g1
     have h0 := hcell0 0 hpos
     obtain ⟨v0, hv0⟩ : ∃ v, cs0[0]? = some v := ⟨cs0[0], List.getElem?_eq_getElem (by omega)⟩
     rw [hv0] at h0
     simpa [Addr.add] using World.cell?_spot h0
    subst hspot
    refine ⟨p, fun _ => ⟨rfl, fun q hq => ⟨cs'.getD q undef, ?_, hrd q hq⟩, hbd⟩⟩
    have h3 := hcell q hq
    rw [ea, ea] at h3
    rw [← Nat.add_assoc, h3, List.getD_eq_getElem?_getD, List.getElem?_eq_getElem (by omega)]
    rfl
   ·exact ⟨z, fun h => absurd h hi⟩
  obtain ⟨P, hP⟩ := Classical.axiomOfChoice each'
  refine ⟨P, ⟨_, _, rfl, fun i hi => ?_⟩, by omega, fun i hi => (hP i hi).2.2⟩
  obtain ⟨hs, h1, _⟩ := hP i hi
  subst hs
  exact ⟨b, off, rfl, h1⟩
theorem open_ints_at {H : Type} {enc : TypeId × Value → H} {w : World} {base : Nat} {spare : Nat → Bool} {held : Bool} {fuel : Nat} {v : Value} {x : DataW H × List MemPlace} (h : DataW.trod enc Tryz.prog w base spare held fuel 23 [v] = some x) :
  ∃ (a : Option Addr) (zs : List Int) (c : Nat), v = .slice a zs.length c ∧ IntsAt w a zs.length zs ∧ zs.length ≤ maxLen := by
 rcases open_ints Tryz.underlying23 Tryz.underlying3 (by kernel_rfl) h with ⟨hcs, _⟩ | ⟨ad, l, c, zs, hcs, _, hl, hm, hz, _, hcell, hwz⟩
 ·simp at hcs
  subst hcs
  exact ⟨none, [], 0, rfl, ⟨rfl, fun i hi => absurd hi (Nat.not_lt_zero _)⟩, Nat.zero_le _⟩
 ·simp at hcs
  subst hcs
  have hR : IsRow .i64 w (some ad) l zs.length zs := .inr ⟨_, rfl, by rw [hz]; split <;> omega, by rw [hz]; split <;> omega, rfl, hcell, hwz⟩
  obtain ⟨_, hi, _⟩ := hR.ints
  have e : (zs.take l).length = l := hi.1
  refine ⟨some ad, zs.take l, c, by rw [e], ?_, by rw [e]; omega⟩
  rw [e]
  exact hi
theorem list13 {α : Type} (l : List α) (h : l.length = 13) : ∃ c0 c1 c2 c3 c4 c5 c6 c7 c8 c9 c10 c11 c12, l = [c0, c1, c2, c3, c4, c5, c6, c7, c8, c9, c10, c11, c12] := by
 match l, h with
 | [c0, c1, c2, c3, c4, c5, c6, c7, c8, c9, c10, c11, c12], _ => exact ⟨c0, c1, c2, c3, c4, c5, c6, c7, c8, c9, c10, c11, c12, rfl⟩
theorem list8 {α : Type} (l : List α) (h : l.length = 8) : ∃ c0 c1 c2 c3 c4 c5 c6 c7, l = [c0, c1, c2, c3, c4, c5, c6, c7] := by
 match l, h with
 | [c0, c1, c2, c3, c4, c5, c6, c7], _ => exact ⟨c0, c1, c2, c3, c4, c5, c6, c7, rfl⟩
theorem list3 {α : Type} (l : List α) (h : l.length = 3) : ∃ c0 c1 c2, l = [c0, c1, c2] := by
 match l, h with
 | [c0, c1, c2], _ => exact ⟨c0, c1, c2, rfl⟩
theorem open_slot {H : Type} {enc : TypeId × Value → H} {w : World} {base : Nat} {spare : Nat → Bool} {held : Bool} {fuel : Nat} {cs : List Value} {x : DataW H × List MemPlace} (h : DataW.trod enc Tryz.prog w base spare held fuel 141 cs = some x) :
  ∃ s : Sl, cs.length = 13 ∧ (∀ q, q < 13 → Rd w (slD s q) (cs.getD q undef)) ∧ SlB s := by
 have c13 : Tryz.prog.cellsOf 141 = 13 := by kernel_rfl
 have cp6 : Tryz.prog.cellsOf 48 = 6 := by kernel_rfl
 have cs1 : Tryz.prog.cellsOf 9 = 1 := by kernel_rfl
 have cb1 : Tryz.prog.cellsOf 4 = 1 := by kernel_rfl
 have cl1 : Tryz.prog.cellsOf 23 = 1 := by kernel_rfl
 obtain ⟨xs, f, _, _, hl, hlen, hf⟩ := DataW.trod_struct Tryz.underlying141 h
 rw [c13] at hl
 obtain ⟨c0, c1, c2, c3, c4, c5, c6, c7, c8, c9, c10, c11, c12, rfl⟩ := list13 cs hl
 obtain ⟨y0, y1, y2, y3, y4, y5, y6, y7, rfl⟩ := list8 xs hlen
 have g0 := hf 0 _ rfl
 have g1 := hf 1 _ rfl
 have g2 := hf 2 _ rfl
 have g3 := hf 3 _ rfl
 have g4 := hf 4 _ rfl
 have g5 := hf 5 _ rfl
 have g6 := hf 6 _ rfl
 have g7 := hf 7 _ rfl
 simp [cs1, cp6, cb1, cl1] at g0 g1 g2 g3 g4 g5 g6 g7
 obtain ⟨r, e0, _, hr⟩ := DataW.trod_string Tryz.underlying9 g0
 obtain ⟨pr, pk, pn, pi, pb, pa, pm, pc, pS, e1, _, hpr, hpb, ht⟩ := open_piece g1
 obtain ⟨bh, e2, _⟩ := DataW.trod_bool Tryz.underlying4 g2
 obtain ⟨be, e3, _⟩ := DataW.trod_bool Tryz.underlying4 g3
 obtain ⟨bd, e4, _⟩ := DataW.trod_bool Tryz.underlying4 g4
 obtain ⟨bo, e5, _⟩ := DataW.trod_bool Tryz.underlying4 g5
 obtain ⟨a1, ze, z1, e6, i1, n1⟩ := open_ints_at g6
 obtain ⟨a2, zr, z2, e7, i2, n2⟩ := open_ints_at g7
 simp at e0 e1 e2 e3 e4 e5
 obtain ⟨rfl, rfl, rfl, rfl, rfl, rfl⟩ := e1
 subst e0 e2 e3 e4 e5 e6 e7
 refine ⟨⟨r, ⟨pr, pk, pn, pi, pb, pm, pS⟩, bh, be, bd, bo, ze, zr⟩, rfl, fun q hq => ?_, ⟨hr, hpr, hpb, ht.2.1, ht.2.2, n1, n2⟩⟩
 match q, hq with
 | 0, _ | 1, _ | 2, _ | 3, _ | 4, _ | 5, _ | 7, _ | 8, _ | 9, _ | 10, _ => rfl
 | 6, _ => exact rd_txt.2 ht.1
 | 11, _ => exact rd_ints.2 i1
 | 12, _ => exact rd_ints.2 i2
theorem open_slots {H : Type} {enc : TypeId × Value → H} {w : World} {base : Nat} {spare : Nat → Bool} {held : Bool} {fuel : Nat} {a : Option Addr} {n c : Nat} {x : DataW H × List MemPlace} (h : DataW.trod enc Tryz.prog w base spare held fuel 62 [.slice a n c] = some x) :
  ∃ S : Nat → Sl, Rd w (slsD n S) (.slice a n c) ∧ n ≤ maxLen ∧ ∀ i, i < n → SlB (S i) :=
 open_list ⟨ByteArray.empty, ⟨ByteArray.empty, 0, 0, 0, ByteArray.empty, 0, fun _ => ByteArray.empty⟩, false, false, false, false, [], []⟩ 76 slD SlB Tryz.underlying62 (by kernel_rfl) (by omega) open_slot h
theorem open_node {H : Type} {enc : TypeId × Value → H} {w : World} {base : Nat} {spare : Nat → Bool} {held : Bool} {fuel : Nat} {cs : List Value} {x : DataW H × List MemPlace} (h : DataW.trod enc Tryz.prog w base spare held fuel 64 cs = some x) :
  ∃ (id f : Int) (a : Option Addr) (n c : Nat) (S : Nat → Sl), cs = [.int .i64 id, .int .i64 f, .slice a n c] ∧ Rd w (slsD n S) (.slice a n c) ∧ n ≤ maxLen ∧ ∀ i, i < n → SlB (S i) := by
 have c3 : Tryz.prog.cellsOf 64 = 3 := by kernel_rfl
 have ci1 : Tryz.prog.cellsOf 3 = 1 := by kernel_rfl
 have cl1 : Tryz.prog.cellsOf 62 = 1 := by kernel_rfl
 obtain ⟨xs, f, _, _, hl, hlen, hf⟩ := DataW.trod_struct Tryz.underlying64 h
 rw [c3] at hl
 obtain ⟨c0, c1, c2, rfl⟩ := list3 cs hl
 obtain ⟨y0, y1, y2, rfl⟩ := list3 xs hlen
 have g0 := hf 0 _ rfl
 have g1 := hf 1 _ rfl
 have g2 := hf 2 _ rfl
 simp [ci1, cl1] at g0 g1 g2
 obtain ⟨id, e0, _, u0⟩ := DataW.trod_int Tryz.underlying3 g0
 obtain ⟨ff, e1, _, u1⟩ := DataW.trod_int Tryz.underlying3 g1
 simp at e0 e1
 subst e0 e1
 obtain ⟨a, n, c, rfl⟩ : ∃ a n c, c2 = .slice a n c := by
  rcases Go.Deep.open_slice Tryz.underlying62 g2 with ⟨hcs, _⟩ | ⟨ad, len, cap, m, n', D', Pl, hcs, _⟩
  ·simp at hcs
   exact ⟨none, 0, 0, hcs⟩
  ·simp at hcs
   exact ⟨some ad, len, cap, hcs⟩
 obtain ⟨S, h1, h2, h3⟩ := open_slots g2
 exact ⟨id, ff, a, n, c, S, rfl, h1, h2, h3⟩
def plF (S : Nat → Sl) (root : ByteArray) : Nat → Nat → Option Nat
 | 0, _ => none
 | f + 1, k => if (S k).r = root then some k else plF S root f (k + 1)
def plc (S : Nat → Sl) (root : ByteArray) (n : Nat) : Option Nat := plF S root n 0
theorem plF_some {S : Nat → Sl} {root : ByteArray} : ∀ {f k x : Nat}, plF S root f k = some x → k ≤ x ∧ x < k + f ∧ (S x).r = root ∧ ∀ i, k ≤ i → i < x → (S i).r ≠ root
 | 0, _, _, h => by cases h
 | f + 1, k, x, h => by
  unfold plF at h
  by_cases e : (S k).r = root
  ·rw [if_pos e] at h
   cases h
   exact ⟨Nat.le_refl _, by omega, e, fun i h1 h2 => by omega⟩
  ·rw [if_neg e] at h
   obtain ⟨h1, h2, h3, h4⟩ := plF_some h
   refine ⟨by omega, by omega, h3, fun i hi hx => ?_⟩
   by_cases ei : i = k
   ·rw [ei]; exact e
   ·exact h4 i (by omega) hx
def plX (S : Nat → Sl) (root : ByteArray) (n : Nat) : Int := match plc S root n with
 | some x => (x : Int)
 | none => -1
def eqR (s root : ByteArray) : Bool := decide (s = root)
theorem eqR_yes {s root : ByteArray} (h : s = root) : eqR s root = true := decide_eq_true h
theorem eqR_no {s root : ByteArray} (h : s ≠ root) : eqR s root = false := decide_eq_false h
theorem placeFn_any (s : Sl) (v6 v11 v12 : Value) (R : Nat) (root : ByteArray) (w : World) (hR : w.cell? ⟨R, 0, none⟩ = some (.string root)) :
  Calls Tryz.prog 115 #[slV s v6 v11 v12, .pointer (some ⟨R, 0, none⟩)] w fun e w' => e = .returned (.bool (eqR s.r root)) ∧ Below w.heap.size w w' := by
 have lR := block_lt_of_cell hR
 have KB : Hid (Below w.heap.size w (w.alloc (.cells (slC s v6 v11 v12) 76))) := (Below.refl _ _).alloc (Nat.le_refl _) _
 by_cases h : s.r = root
 ·rw [eqR_yes h]
  have hb : (s.r.toList == root.toList) = true := by rw [h]; simp
  go_enter Tryz.func115, Tryz.ntmps115
  go_wp2
  go_ret
  exact ⟨rfl, KB.out⟩
 ·rw [eqR_no h]
  have hb := ba_ne h
  go_enter Tryz.func115, Tryz.ntmps115
  go_wp2
  go_ret
  exact ⟨rfl, KB.out⟩
theorem index_any (a : Option Addr) (n cap : Nat) (S : Nat → Sl) (R : Nat) (root : ByteArray) (w : World) (h : Rd w (slsD n S) (.slice a n cap)) (hn : n ≤ 1048576) (hR : w.cell? ⟨R, 0, none⟩ = some (.string root)) :
  Calls Tryz.prog 114 #[.slice a n cap, .func (.func 115) #[] #[.pointer (some ⟨R, 0, none⟩)]] w fun e w' => e = .returned (.int .i64 (plX S root n)) ∧ Below w.heap.size w w' := by
 have KH : Hid (Rd w (slsD n S) (.slice a n cap)) := h
 have KR : Hid (w.cell? ⟨R, 0, none⟩ = some (.string root)) := hR
 clear h hR
 go_enter Tryz.func114, Tryz.ntmps114
 go_wp2
 go_loopw [8] (fun vi wr => ∃ k : Nat, k ≤ n ∧ vi = .int .i64 (k : Int) ∧ Hid (plF S root (n - k) k = plc S root n) ∧ Below w.heap.size w wr) (fun vi _ => n - (intOf vi).toNat)
 case atStart => exact ⟨0, Nat.zero_le _, rfl, rfl, Below.refl _ _⟩
 case round =>
  obtain ⟨k, hk, rfl, HP, hbel⟩ := hrel
  by_cases hlt : k < n
  ·have hki : (k : Int) < (n : Int) := by omega
   obtain ⟨b1, f1, y1, p6, p11, p12, q6, q11, q12, rfl, hc1, e1, _, _, _⟩ := slot_row (KH.out.below hbel) hlt
   have hRr := (hbel.cell (p := ⟨R, 0, none⟩) (block_lt_of_cell KR.out)).trans KR.out
   have KC := placeFn_any (S k) (.slice p6 (S k).p.m q6) (.slice p11 (S k).ze.length q11) (.slice p12 (S k).zr.length q12) R root wr hRr
   rw [← e1] at KC
   have KF : Hid _ := KC
   obtain ⟨_, x⟩ := one_row (sz := 12) wr (Below.refl _ _) hc1
   have R1 : Hid (wr.rangeAt b1 (f1 + k * 13) [y1 0, y1 1, y1 2, y1 3, y1 4, y1 5, y1 6, y1 7, y1 8, y1 9, y1 10, y1 11, y1 12]) := range13 x
   have KB : Hid (Below w.heap.size w wr) := hbel
   have e2 : n - k = (n - (k + 1)) + 1 := by omega
   have HP' := HP.out
   rw [e2] at HP'
   unfold plF at HP'
   clear KC hc1 e1 x hbel hRr HP e2
   by_cases hr : (S k).r = root
   ·rw [if_pos hr] at HP'
    have HI : Hid (plX S root n = (k : Int)) := by show _ = _; unfold plX; rw [← HP']
    rw [eqR_yes hr] at KF
    clear HP' hr
    go_wp2_with (refine wpList_load_mid (by rfl) 76 _ (by rfl) b1 (f1 + k * 13) (by rfl) [y1 0, y1 1, y1 2, y1 3, y1 4, y1 5, y1 6, y1 7, y1 8, y1 9, y1 10, y1 11, y1 12] _ ?_ Tryz.underlying76 (by rfl) Tryz.infoSl ?_; exact R1.out)
    refine Calls.mono KF.out ?_
    rintro e w1 ⟨rfl, b1'⟩
    have KB1 : Hid (Below w.heap.size w w1) := below2 KB.out b1'
    clear b1'
    go_wp2
    go_ret
    exact ⟨ret_int HI.out.symm, KB1.out⟩
   ·rw [if_neg hr] at HP'
    have HP2 : Hid (plF S root (n - (k + 1)) (k + 1) = plc S root n) := HP'
    rw [eqR_no hr] at KF
    clear HP' hr
    go_wp2_with (refine wpList_load_mid (by rfl) 76 _ (by rfl) b1 (f1 + k * 13) (by rfl) [y1 0, y1 1, y1 2, y1 3, y1 4, y1 5, y1 6, y1 7, y1 8, y1 9, y1 10, y1 11, y1 12] _ ?_ Tryz.underlying76 (by rfl) Tryz.infoSl ?_; exact R1.out)
    refine Calls.mono KF.out ?_
    rintro e w1 ⟨rfl, b1'⟩
    have KB1 : Hid (Below w.heap.size w w1) := below2 KB.out b1'
    clear b1' KF R1
    go_wp2
    go_roundw
    case rel => exact ⟨k + 1, by omega, by go_num, HP2, KB1.out⟩
    case measure => simp [intOf]; omega
  ·obtain rfl : k = n := by omega
   have HI : Hid (plX S root k = -1) := by
    have := HP.out
    rw [Nat.sub_self] at this
    show _ = _
    unfold plX
    rw [← this]
    rfl
   go_wp2
   go_ret
   exact ⟨ret_int HI.out.symm, hbel⟩
theorem placeOf_any (id f : Int) (a : Option Addr) (n cap : Nat) (S : Nat → Sl) (root : ByteArray) (w : World) (h : Rd w (slsD n S) (.slice a n cap)) (hn : n ≤ 1048576) :
  Calls Tryz.prog 78 #[ndV id f (.slice a n cap), .string root] w fun e w' => e = .returned (.int .i64 (plX S root n)) ∧ Below w.heap.size w w' := by
 have hmf : ∀ (fn : Fn) (first cap : Array Value) (w : World), (Instr.makeFunc fn first cap).run Tryz.prog w = .ok (.func fn first cap) w := fun _ _ _ _ => rfl
 obtain ⟨R, HR⟩ : ∃ x, Hid (x = w.heap.size + 1) := ⟨_, rfl⟩
 obtain ⟨w0, HW0⟩ : ∃ x, Hid (x = (w.alloc (.cells #[.int .i64 id, .int .i64 f, .slice a n cap] 81)).alloc (.cells #[.string root] 9)) := ⟨_, rfl⟩
 have hb0 : Below w.heap.size w w0 := by rw [HW0.out]; exact ((Below.refl _ _).alloc (Nat.le_refl _) _).alloc (by simp) _
 have KB0 : Hid (Below w.heap.size w w0) := hb0
 have hc : w0.cell? ⟨R, 0, none⟩ = some (.string root) := by rw [HW0.out, HR.out]; simp
 have KI : Hid _ := index_any a n cap S R root w0 (h.below hb0) hn hc
 clear h hb0 hc
 go_enter Tryz.func78, Tryz.ntmps78
 go_wp2_with fail
 rw [← HW0.out, ← HR.out]
 refine Calls.mono KI.out ?_
 rintro e w1 ⟨rfl, b1⟩
 go_wp2
 go_ret
 exact ⟨rfl, below2 KB0.out b1⟩
def ofy (k : Nat) (S : Nat → Sy) : Nat → Nat
 | 0 => k
 | i + 1 => ofy k S i + 9 + (S i).p.m
theorem ow_ints {w : World} {B : Nat} {a : Option Addr} {cap : Nat} {zs : List Int} {F : Nat → Prop} (h : w.ownsRow B 3 1 (.slice a zs.length cap) zs.length (zs.map (Value.int .i64))) (hF : ∀ x, a = some x → F x.block) : Ow w B (inD zs) (.slice a zs.length cap) F := by
 refine ⟨a, cap, fun i _ => .int .i64 (zs.getD i 0), fun _ _ _ => False, rfl, ?_, ⟨hF, fun _ _ _ _ _ h => h.elim, fun _ _ _ _ _ _ h => h, fun _ _ _ _ _ _ _ _ _ h => h.elim⟩, fun _ _ _ _ => rfl⟩
 have : cL 1 (fun i _ => Value.int .i64 (zs.getD i 0)) zs.length = zs.map (Value.int .i64) := by
  apply List.ext_getElem?
  intro i
  by_cases hi : i < zs.length
  ·have := cL_get 1 (fun i _ => Value.int .i64 (zs.getD i 0)) zs.length i 0 hi (by omega)
   rw [Nat.mul_one, Nat.add_zero] at this
   rw [this]
   simp [hi]
  ·rw [List.getElem?_eq_none (by rw [cL_len]; omega), List.getElem?_eq_none (by simp; omega)]
 rw [this]
 exact h
theorem grown_row (w : World) (g : Nat) (cs : Array Value) : w.grownBy (w.setRow g cs) (some g) := ⟨rfl, rfl, rfl, by simp, fun i _ hi => setRow_other _ _ _ _ (fun e => hi (by simp [e]))⟩
theorem World.size_setCells (b : Nat) : ∀ (vs : List Value) (o : Nat) (w : World), (w.setCells b o vs).heap.size = w.heap.size
 | [], _, _ => rfl
 | v :: r, o, w => by rw [World.setCells, World.size_setCells b r (o + 1) _]; simp
theorem toSl_any (s : Sl) (a6 a11 a12 : Option Addr) (c6 c11 c12 : Nat) (w : World) (h6 : TxtAt w a6 s.p.m s.p.S) (h11 : IntsAt w a11 s.ze.length s.ze) (h12 : IntsAt w a12 s.zr.length s.zr) (hs : SlS s) :
  Calls Tryz.prog 94 #[slV s (.slice a6 s.p.m c6) (.slice a11 s.ze.length c11) (.slice a12 s.zr.length c12)] w fun e w' => ∃ g6 g11 g12 : Nat, e = .returned (slV s (.slice (some ⟨g6, 0, none⟩) s.p.m s.p.m) (.slice (some ⟨g11, 0, none⟩) s.ze.length s.ze.length) (.slice (some ⟨g12, 0, none⟩) s.zr.length s.zr.length)) ∧
   w.heap.size ≤ g6 ∧ g6 < g11 ∧ g11 < g12 ∧ g12 < w'.heap.size ∧ Ow w' w.heap.size (txD s.p.m s.p.S) (.slice (some ⟨g6, 0, none⟩) s.p.m s.p.m) (fun g => g = g6) ∧ Ow w' w.heap.size (inD s.ze) (.slice (some ⟨g11, 0, none⟩) s.ze.length s.ze.length) (fun g => g = g11) ∧ Ow w' w.heap.size (inD s.zr) (.slice (some ⟨g12, 0, none⟩) s.zr.length s.zr.length) (fun g => g = g12) ∧ Below w.heap.size w w' := by
 obtain ⟨r, p, fh, fe, fd, fo, ze, zr⟩ := s
 obtain ⟨pr, pk, pn, pi, pb, m, S⟩ := p
 obtain ⟨hm, he, hz⟩ := hs
 simp only at h6 h11 h12 hm he hz ⊢
 obtain ⟨A, HA⟩ : ∃ x, Hid (x = w.heap.size) := ⟨_, rfl⟩
 obtain ⟨D, HD⟩ : ∃ x, Hid (x = w.heap.size + 1) := ⟨_, rfl⟩
 obtain ⟨V, HV⟩ : ∃ x, Hid (x = w.heap.size + 1 + 1) := ⟨_, rfl⟩
 obtain ⟨w0, HW0⟩ : ∃ x, Hid (x = ((w.alloc (.cells (slC ⟨r, ⟨pr, pk, pn, pi, pb, m, S⟩, fh, fe, fd, fo, ze, zr⟩ (.slice a6 m c6) (.slice a11 ze.length c11) (.slice a12 zr.length c12)) 141)).alloc (.cells #[.string ⟨#[]⟩, .string ⟨#[]⟩, .int .i64 0, .int .i64 0, .int .i64 0, .string ⟨#[]⟩, .slice none 0 0, .bool false, .bool false, .bool false, .bool false, .slice none 0 0, .slice none 0 0] 76)).alloc (.cells #[.string r, .string ⟨#[]⟩, .int .i64 0, .int .i64 0, .int .i64 0, .string ⟨#[]⟩, .slice none 0 0, .bool false, .bool false, .bool false, .bool false, .slice none 0 0, .slice none 0 0] 76)) := ⟨_, rfl⟩
 have RA : Hid (Row w0 A 141 (slC ⟨r, ⟨pr, pk, pn, pi, pb, m, S⟩, fh, fe, fd, fo, ze, zr⟩ (.slice a6 m c6) (.slice a11 ze.length c11) (.slice a12 zr.length c12))) := by show Row _ _ _ _; rw [HW0.out, HA.out]; exact Row.alloc (Row.alloc (Row.new w _ _) _) _
 have RD : Hid (Row w0 D 76 #[.string ⟨#[]⟩, .string ⟨#[]⟩, .int .i64 0, .int .i64 0, .int .i64 0, .string ⟨#[]⟩, .slice none 0 0, .bool false, .bool false, .bool false, .bool false, .slice none 0 0, .slice none 0 0]) := by
  show Row _ _ _ _
  rw [HW0.out, HD.out]
  have := Row.new (w.alloc (.cells (slC ⟨r, ⟨pr, pk, pn, pi, pb, m, S⟩, fh, fe, fd, fo, ze, zr⟩ (.slice a6 m c6) (.slice a11 ze.length c11) (.slice a12 zr.length c12)) 141)) #[.string ⟨#[]⟩, .string ⟨#[]⟩, .int .i64 0, .int .i64 0, .int .i64 0, .string ⟨#[]⟩, .slice none 0 0, .bool false, .bool false, .bool false, .bool false, .slice none 0 0, .slice none 0 0] 76
  exact Row.alloc (by simpa using this) _
 have RV : Hid (Row w0 V 76 #[.string r, .string ⟨#[]⟩, .int .i64 0, .int .i64 0, .int .i64 0, .string ⟨#[]⟩, .slice none 0 0, .bool false, .bool false, .bool false, .bool false, .slice none 0 0, .slice none 0 0]) := by
  show Row _ _ _ _
  rw [HW0.out, HV.out]
  have := Row.new ((w.alloc (.cells (slC ⟨r, ⟨pr, pk, pn, pi, pb, m, S⟩, fh, fe, fd, fo, ze, zr⟩ (.slice a6 m c6) (.slice a11 ze.length c11) (.slice a12 zr.length c12)) 141)).alloc (.cells #[.string ⟨#[]⟩, .string ⟨#[]⟩, .int .i64 0, .int .i64 0, .int .i64 0, .string ⟨#[]⟩, .slice none 0 0, .bool false, .bool false, .bool false, .bool false, .slice none 0 0, .slice none 0 0] 76)) #[.string r, .string ⟨#[]⟩, .int .i64 0, .int .i64 0, .int .i64 0, .string ⟨#[]⟩, .slice none 0 0, .bool false, .bool false, .bool false, .bool false, .slice none 0 0, .slice none 0 0] 76
  simpa using this
 have hb0 : Below w.heap.size w w0 := by rw [HW0.out]; exact (((Below.refl _ _).alloc (Nat.le_refl _) _).alloc (by simp) _).alloc (by simp; omega) _
 have hVD : Hid (V ≠ D ∧ A ≠ V ∧ A ≠ D ∧ w.heap.size ≤ D ∧ w.heap.size ≤ V ∧ V < w0.heap.size ∧ D < w0.heap.size) := by
  have h1 := HV.out; have h2 := HD.out; have h3 := HA.out
  exact ⟨by omega, by omega, by omega, by omega, by omega, RV.out.lt, RD.out.lt⟩
 have KB0 : Hid (Below w.heap.size w w0) := hb0
 have KP : Hid _ := toPc_any pr pk pn pi pb a6 m c6 S w0 (h6.below hb0) hm
 have KEW : Hid (∀ W, Below w.heap.size w W → Calls Tryz.prog 20 #[.slice a11 ze.length c11] W fun e w' => e = .returned (.slice (some ⟨W.heap.size, 0, none⟩) ze.length ze.length) ∧ w'.ownsRow W.heap.size 3 1 (.slice (some ⟨W.heap.size, 0, none⟩) ze.length ze.length) ze.length (ze.map (Value.int .i64)) ∧ Below W.heap.size W w') := fun W hW => toIntS_any a11 _ c11 ze W (h11.below hW) he
 have KZW : Hid (∀ W, Below w.heap.size w W → Calls Tryz.prog 20 #[.slice a12 zr.length c12] W fun e w' => e = .returned (.slice (some ⟨W.heap.size, 0, none⟩) zr.length zr.length) ∧ w'.ownsRow W.heap.size 3 1 (.slice (some ⟨W.heap.size, 0, none⟩) zr.length zr.length) zr.length (zr.map (Value.int .i64)) ∧ Below W.heap.size W w') := fun W hW => toIntS_any a12 _ c12 zr W (h12.below hW) hz
 obtain ⟨le, HLE⟩ : ∃ x, Hid (ze.length = x) := ⟨_, rfl⟩
 obtain ⟨lr, HLR⟩ : ∃ x, Hid (zr.length = x) := ⟨_, rfl⟩
 have OI : Hid (∀ (B : Nat) (W : World) (g : Nat), W.ownsRow B 3 1 (.slice (some ⟨g, 0, none⟩) le le) le (ze.map (Value.int .i64)) → Ow W B (inD ze) (.slice (some ⟨g, 0, none⟩) le le) (fun x => x = g)) := fun B W g ho => by
  rw [← HLE.out] at ho ⊢
  exact ow_ints ho (fun x e => by cases e; rfl)
 have OZ : Hid (∀ (B : Nat) (W : World) (g : Nat), W.ownsRow B 3 1 (.slice (some ⟨g, 0, none⟩) lr lr) lr (zr.map (Value.int .i64)) → Ow W B (inD zr) (.slice (some ⟨g, 0, none⟩) lr lr) (fun x => x = g)) := fun B W g ho => by
  rw [← HLR.out] at ho ⊢
  exact ow_ints ho (fun x e => by cases e; rfl)
 rw [HLE.out] at KEW RA HW0 ⊢
 rw [HLR.out] at KZW RA HW0 ⊢
 clear h6 h11 h12 hm he hz hb0
 go_enter Tryz.func94, Tryz.ntmps94
 go_wp2_with fail
 rw [← HW0.out, ← HV.out, ← HD.out, ← HA.out]
 refine Calls.mono KP.out ?_
 rintro e w1 ⟨g6, rfl, O6, b1⟩
 have S6 : Hid (w0.heap.size ≤ g6 ∧ g6 < w1.heap.size) := World.ownsRow.lt O6 g6 rfl
 have A1 := RA.out.below b1 RA.out.lt
 have D1 : Hid (Row w1 D 76 #[.string ⟨#[]⟩, .string ⟨#[]⟩, .int .i64 0, .int .i64 0, .int .i64 0, .string ⟨#[]⟩, .slice none 0 0, .bool false, .bool false, .bool false, .bool false, .slice none 0 0, .slice none 0 0]) := RD.out.below b1 RD.out.lt
 have V1 := RV.out.below b1 RV.out.lt
 have x7 := A1.cell 7
 have x8 := A1.cell 8
 have x9 := A1.cell 9
 have x10 := A1.cell 10
 have x11 := A1.cell 11
 have y1 := V1.cell 1
 have y2 := V1.cell 2
 have y3 := V1.cell 3
 have y4 := V1.cell 4
 have y5 := V1.cell 5
 have y6 := V1.cell 6
 have y7 := V1.cell 7
 have y8 := V1.cell 8
 have y9 := V1.cell 9
 have y10 := V1.cell 10
 have f1 := V1.free 1
 have f2 := V1.free 2
 have f3 := V1.free 3
 have f4 := V1.free 4
 have f5 := V1.free 5
 have f6 := V1.free 6
 have f7 := V1.free 7
 have f8 := V1.free 8
 have f9 := V1.free 9
 have f10 := V1.free 10
 simp at x7 x8 x9 x10 x11 y1 y2 y3 y4 y5 y6 y7 y8 y9 y10
 have TH : Hid (w1.there V 1 6) := fun j hj => by
  match j, hj with
  | 0, _ => exact ⟨by rw [y1]; rfl, f1⟩
  | 1, _ => exact ⟨by rw [y2]; rfl, f2⟩
  | 2, _ => exact ⟨by rw [y3]; rfl, f3⟩
  | 3, _ => exact ⟨by rw [y4]; rfl, f4⟩
  | 4, _ => exact ⟨by rw [y5]; rfl, f5⟩
  | 5, _ => exact ⟨by rw [y6]; rfl, f6⟩
 clear x7 x8 x9 x10 x11 y1 y2 y3 y4 y5 y6 y7 y8 y9 y10 f1 f2 f3 f4 f5 f6 f7 f8 f9 f10
 obtain ⟨wa, HWa⟩ : ∃ x, Hid (x = w1.setCells V 1 (pcC pr pk pn pi pb (.slice (some ⟨g6, 0, none⟩) m m)).toList) := ⟨_, rfl⟩
 have Va : Hid (Row wa V 76 #[.string r, .string pr, .int .i64 pk, .int .i64 pn, .int .i64 pi, .string pb, .slice (some ⟨g6, 0, none⟩) m m, .bool false, .bool false, .bool false, .bool false, .slice none 0 0, .slice none 0 0]) := by show Row _ _ _ _; rw [HWa.out]; exact ((((((V1.set 1 _).set 2 _).set 3 _).set 4 _).set 5 _).set 6 _)
 have Aa : Hid (Row wa A 141 (slC ⟨r, ⟨pr, pk, pn, pi, pb, m, S⟩, fh, fe, fd, fo, ze, zr⟩ (.slice a6 m c6) (.slice a11 le c11) (.slice a12 lr c12))) := by show Row _ _ _ _; rw [HWa.out]; exact ((((((A1.other 1 _ hVD.out.2.1).other 2 _ hVD.out.2.1).other 3 _ hVD.out.2.1).other 4 _ hVD.out.2.1).other 5 _ hVD.out.2.1).other 6 _ hVD.out.2.1)
 have Da : Hid (Row wa D 76 #[.string ⟨#[]⟩, .string ⟨#[]⟩, .int .i64 0, .int .i64 0, .int .i64 0, .string ⟨#[]⟩, .slice none 0 0, .bool false, .bool false, .bool false, .bool false, .slice none 0 0, .slice none 0 0]) := by show Row _ _ _ _; rw [HWa.out]; exact ((((((D1.out.other 1 _ (Ne.symm hVD.out.1)).other 2 _ (Ne.symm hVD.out.1)).other 3 _ (Ne.symm hVD.out.1)).other 4 _ (Ne.symm hVD.out.1)).other 5 _ (Ne.symm hVD.out.1)).other 6 _ (Ne.symm hVD.out.1))
 have O6a : Hid (OwnT wa w0.heap.size (some ⟨g6, 0, none⟩) m m S) := by show OwnT _ _ _ _ _ _; rw [HWa.out]; exact (OwnT.setFar (OwnT.setFar (OwnT.setFar (OwnT.setFar (OwnT.setFar (OwnT.setFar O6 hVD.out.2.2.2.2.2.1) hVD.out.2.2.2.2.2.1) hVD.out.2.2.2.2.2.1) hVD.out.2.2.2.2.2.1) hVD.out.2.2.2.2.2.1) hVD.out.2.2.2.2.2.1)
 have Ba : Hid (Below w.heap.size w wa) := by show Below _ _ _; rw [HWa.out]; exact (Below.setCell (Below.setCell (Below.setCell (Below.setCell (Below.setCell (Below.setCell (below2 KB0.out b1) hVD.out.2.2.2.2.1 _) hVD.out.2.2.2.2.1 _) hVD.out.2.2.2.2.1 _) hVD.out.2.2.2.2.1 _) hVD.out.2.2.2.2.1 _) hVD.out.2.2.2.2.1 _)
 have sza : Hid (w1.heap.size = wa.heap.size) := by show _ = _; rw [HWa.out]; exact (World.size_setCells _ _ _ _).symm
 have x7 := Aa.out.cell 7
 have x8 := Aa.out.cell 8
 have x9 := Aa.out.cell 9
 have x10 := Aa.out.cell 10
 have x11 := Aa.out.cell 11
 have y7 := Va.out.cell 7
 have y8 := Va.out.cell 8
 have y9 := Va.out.cell 9
 have y10 := Va.out.cell 10
 have f7 := Va.out.free 7
 have f8 := Va.out.free 8
 have f9 := Va.out.free 9
 have f10 := Va.out.free 10
 simp at x7 x8 x9 x10 x11 y7 y8 y9 y10
 obtain ⟨w2, HW2⟩ : ∃ x, Hid (x = ((((wa.setCell ⟨V, 7, none⟩ (.bool fh)).setCell ⟨V, 8, none⟩ (.bool fe)).setCell ⟨V, 9, none⟩ (.bool fd)).setCell ⟨V, 10, none⟩ (.bool fo))) := ⟨_, rfl⟩
 have V2 : Hid (Row w2 V 76 #[.string r, .string pr, .int .i64 pk, .int .i64 pn, .int .i64 pi, .string pb, .slice (some ⟨g6, 0, none⟩) m m, .bool fh, .bool fe, .bool fd, .bool fo, .slice none 0 0, .slice none 0 0]) := by show Row _ _ _ _; rw [HW2.out]; exact ((((Va.out.set 7 _).set 8 _).set 9 _).set 10 _)
 have A2 : Hid (Row w2 A 141 (slC ⟨r, ⟨pr, pk, pn, pi, pb, m, S⟩, fh, fe, fd, fo, ze, zr⟩ (.slice a6 m c6) (.slice a11 le c11) (.slice a12 lr c12))) := by show Row _ _ _ _; rw [HW2.out]; exact ((((Aa.out.other 7 _ hVD.out.2.1).other 8 _ hVD.out.2.1).other 9 _ hVD.out.2.1).other 10 _ hVD.out.2.1)
 have D2 : Hid (Row w2 D 76 #[.string ⟨#[]⟩, .string ⟨#[]⟩, .int .i64 0, .int .i64 0, .int .i64 0, .string ⟨#[]⟩, .slice none 0 0, .bool false, .bool false, .bool false, .bool false, .slice none 0 0, .slice none 0 0]) := by show Row _ _ _ _; rw [HW2.out]; exact ((((Da.out.other 7 _ (Ne.symm hVD.out.1)).other 8 _ (Ne.symm hVD.out.1)).other 9 _ (Ne.symm hVD.out.1)).other 10 _ (Ne.symm hVD.out.1))
 have O62 : Hid (OwnT w2 w0.heap.size (some ⟨g6, 0, none⟩) m m S) := by show OwnT _ _ _ _ _ _; rw [HW2.out]; exact (OwnT.setFar (OwnT.setFar (OwnT.setFar (OwnT.setFar O6a.out hVD.out.2.2.2.2.2.1) hVD.out.2.2.2.2.2.1) hVD.out.2.2.2.2.2.1) hVD.out.2.2.2.2.2.1)
 have BW2 : Hid (Below w.heap.size w w2) := by show Below _ _ _; rw [HW2.out]; exact (Below.setCell (Below.setCell (Below.setCell (Below.setCell Ba.out hVD.out.2.2.2.2.1 _) hVD.out.2.2.2.2.1 _) hVD.out.2.2.2.2.1 _) hVD.out.2.2.2.2.1 _)
 have KE2 : Hid (Calls Tryz.prog 20 #[.slice a11 le c11] w2 fun e w' => e = .returned (.slice (some ⟨w2.heap.size, 0, none⟩) le le) ∧ w'.ownsRow w2.heap.size 3 1 (.slice (some ⟨w2.heap.size, 0, none⟩) le le) le (ze.map (Value.int .i64)) ∧ Below w2.heap.size w2 w') := KEW.out w2 BW2.out
 have sz2 : Hid (w1.heap.size = w2.heap.size) := by show _ = _; rw [sza.out, HW2.out]; simp
 clear A1 V1 b1 O6 D1
 go_wp2_with (refine wpList_store_mid (by rfl) 49 _ _ (by rfl) V 1 (pcC pr pk pn pi pb (.slice (some ⟨g6, 0, none⟩) m m)) (by rfl) (by rfl) ?_ Tryz.infoPc (by simp [Value.oneCell']) ?_; exact TH.out; rw [← HWa.out])
 rw [← HW2.out]
 clear x7 x8 x9 x10 x11 y7 y8 y9 y10 f7 f8 f9 f10
 refine Calls.mono KE2.out ?_
 obtain ⟨g11, HG11⟩ : ∃ x, Hid (x = w2.heap.size) := ⟨_, rfl⟩
 rw [← HG11.out]
 rintro e w3 ⟨rfl, O11, b3⟩
 rw [HG11.out] at b3
 have A3 := A2.out.below b3 A2.out.lt
 have D3 : Hid (Row w3 D 76 #[.string ⟨#[]⟩, .string ⟨#[]⟩, .int .i64 0, .int .i64 0, .int .i64 0, .string ⟨#[]⟩, .slice none 0 0, .bool false, .bool false, .bool false, .bool false, .slice none 0 0, .slice none 0 0]) := D2.out.below b3 D2.out.lt
 have V3 := V2.out.below b3 V2.out.lt
 have x12 := A3.cell 12
 have y11 := V3.cell 11
 have f11 := V3.free 11
 simp at x12 y11
 obtain ⟨w4, HW4⟩ : ∃ x, Hid (x = w3.setCell ⟨V, 11, none⟩ (.slice (some ⟨g11, 0, none⟩) le le)) := ⟨_, rfl⟩
 have V4 : Hid (Row w4 V 76 #[.string r, .string pr, .int .i64 pk, .int .i64 pn, .int .i64 pi, .string pb, .slice (some ⟨g6, 0, none⟩) m m, .bool fh, .bool fe, .bool fd, .bool fo, .slice (some ⟨g11, 0, none⟩) le le, .slice none 0 0]) := by show Row _ _ _ _; rw [HW4.out]; exact V3.set 11 _
 have D4 : Hid (Row w4 D 76 #[.string ⟨#[]⟩, .string ⟨#[]⟩, .int .i64 0, .int .i64 0, .int .i64 0, .string ⟨#[]⟩, .slice none 0 0, .bool false, .bool false, .bool false, .bool false, .slice none 0 0, .slice none 0 0]) := by show Row _ _ _ _; rw [HW4.out]; exact D3.out.other 11 _ (Ne.symm hVD.out.1)
 have hV2 : V < w2.heap.size := V2.out.lt
 have O64 : Hid (OwnT w4 w0.heap.size (some ⟨g6, 0, none⟩) m m S) := by show OwnT _ _ _ _ _ _; rw [HW4.out]; exact OwnT.setFar (OwnT.below O62.out b3) hVD.out.2.2.2.2.2.1
 have O114 : Hid (w4.ownsRow w2.heap.size 3 1 (.slice (some ⟨g11, 0, none⟩) le le) le (ze.map (Value.int .i64))) := by
  show World.ownsRow _ _ _ _ _ _ _
  rw [HW4.out]
  rw [HG11.out] at O11 ⊢
  exact own_kept O11 (grown_set _ _ _ _) (fun x e => by cases e; show w2.heap.size ≠ V; omega)
 have B4 : Hid (Below w.heap.size w w4) := by show Below _ _ _; rw [HW4.out]; exact Below.setCell (below2 BW2.out b3) hVD.out.2.2.2.2.1 _
 have sz4 : Hid (w2.heap.size < w4.heap.size) := by
  show _ < _
  have := (World.ownsRow.lt O114.out g11 rfl)
  have e := HG11.out
  omega
 have KZ4 : Hid (Calls Tryz.prog 20 #[.slice a12 lr c12] w4 fun e w' => e = .returned (.slice (some ⟨w4.heap.size, 0, none⟩) lr lr) ∧ w'.ownsRow w4.heap.size 3 1 (.slice (some ⟨w4.heap.size, 0, none⟩) lr lr) lr (zr.map (Value.int .i64)) ∧ Below w4.heap.size w4 w') := KZW.out w4 B4.out
 clear A3 V3 b3 O11 D3 A2 V2 D2
 go_wp2_with fail
 rw [← HW4.out]
 clear x12 y11 f11
 refine Calls.mono KZ4.out ?_
 obtain ⟨g12, HG12⟩ : ∃ x, Hid (x = w4.heap.size) := ⟨_, rfl⟩
 rw [← HG12.out]
 rintro e w5 ⟨rfl, O12, b5⟩
 rw [HG12.out] at b5
 have D5 : Hid (Row w5 D 76 #[.string ⟨#[]⟩, .string ⟨#[]⟩, .int .i64 0, .int .i64 0, .int .i64 0, .string ⟨#[]⟩, .slice none 0 0, .bool false, .bool false, .bool false, .bool false, .slice none 0 0, .slice none 0 0]) := D4.out.below b5 D4.out.lt
 have V5 := V4.out.below b5 V4.out.lt
 have y12 := V5.cell 12
 have f12 := V5.free 12
 simp at y12
 obtain ⟨w6, HW6⟩ : ∃ x, Hid (x = w5.setCell ⟨V, 12, none⟩ (.slice (some ⟨g12, 0, none⟩) lr lr)) := ⟨_, rfl⟩
 have V6 : Hid (Row w6 V 76 #[.string r, .string pr, .int .i64 pk, .int .i64 pn, .int .i64 pi, .string pb, .slice (some ⟨g6, 0, none⟩) m m, .bool fh, .bool fe, .bool fd, .bool fo, .slice (some ⟨g11, 0, none⟩) le le, .slice (some ⟨g12, 0, none⟩) lr lr]) := by show Row _ _ _ _; rw [HW6.out]; exact V5.set 12 _
 have D6 : Hid (Row w6 D 76 #[.string ⟨#[]⟩, .string ⟨#[]⟩, .int .i64 0, .int .i64 0, .int .i64 0, .string ⟨#[]⟩, .slice none 0 0, .bool false, .bool false, .bool false, .bool false, .slice none 0 0, .slice none 0 0]) := by show Row _ _ _ _; rw [HW6.out]; exact D5.out.other 12 _ (Ne.symm hVD.out.1)
 have hV4 : V < w4.heap.size := V4.out.lt
 have O66 : Hid (OwnT w6 w0.heap.size (some ⟨g6, 0, none⟩) m m S) := by show OwnT _ _ _ _ _ _; rw [HW6.out]; exact OwnT.setFar (OwnT.below O64.out b5) hVD.out.2.2.2.2.2.1
 have O116 : Hid (w6.ownsRow w2.heap.size 3 1 (.slice (some ⟨g11, 0, none⟩) le le) le (ze.map (Value.int .i64))) := by
  show World.ownsRow _ _ _ _ _ _ _
  rw [HW6.out]
  exact own_kept (ownsRow_below O114.out b5) (grown_set _ _ _ _) (fun x e => by cases e; show g11 ≠ V; rw [HG11.out]; omega)
 have O126 : Hid (w6.ownsRow w4.heap.size 3 1 (.slice (some ⟨g12, 0, none⟩) lr lr) lr (zr.map (Value.int .i64))) := by
  show World.ownsRow _ _ _ _ _ _ _
  rw [HW6.out]
  rw [HG12.out] at O12 ⊢
  exact own_kept O12 (grown_set _ _ _ _) (fun x e => by cases e; show w4.heap.size ≠ V; omega)
 have B6 : Hid (Below w.heap.size w w6) := by show Below _ _ _; rw [HW6.out]; exact Below.setCell (below2 B4.out b5) hVD.out.2.2.2.2.1 _
 clear V5 b5 O12 D5 V4 D4
 obtain ⟨w7, HW7⟩ : ∃ x, Hid (x = w6.setRow D #[.string r, .string pr, .int .i64 pk, .int .i64 pn, .int .i64 pi, .string pb, .slice (some ⟨g6, 0, none⟩) m m, .bool fh, .bool fe, .bool fd, .bool fo, .slice (some ⟨g11, 0, none⟩) le le, .slice (some ⟨g12, 0, none⟩) lr lr]) := ⟨_, rfl⟩
 have ZR : Hid (Row w7 D 76 #[.string r, .string pr, .int .i64 pk, .int .i64 pn, .int .i64 pi, .string pb, .slice (some ⟨g6, 0, none⟩) m m, .bool fh, .bool fe, .bool fd, .bool fo, .slice (some ⟨g11, 0, none⟩) le le, .slice (some ⟨g12, 0, none⟩) lr lr]) := by show Row _ _ _ _; rw [HW7.out]; exact D6.out.row
 have ZB : Hid (Below w.heap.size w w7) := by show Below _ _ _; rw [HW7.out]; exact belowSetRow B6.out hVD.out.2.2.2.1 _
 have far6 : ∀ x, (some ⟨g6, 0, none⟩ : Option Addr) = some x → x.block ≠ D := fun x e => by cases e; have h1 := S6.out.1; have h2 := hVD.out.2.2.2.2.2.2; show g6 ≠ D; omega
 have hD2 : D < w2.heap.size := by have h1 := sz2.out; have h2 := S6.out; have h3 := hVD.out.2.2.2.2.2.2; omega
 have far11 : ∀ x, (some ⟨g11, 0, none⟩ : Option Addr) = some x → x.block ≠ D := fun x e => by cases e; show g11 ≠ D; rw [HG11.out]; omega
 have far12 : ∀ x, (some ⟨g12, 0, none⟩ : Option Addr) = some x → x.block ≠ D := fun x e => by cases e; show g12 ≠ D; rw [HG12.out]; have := sz4.out; omega
 have Z6 : Hid (OwnT w7 w0.heap.size (some ⟨g6, 0, none⟩) m m S) := by show OwnT _ _ _ _ _ _; rw [HW7.out]; exact own_kept O66.out (grown_row _ _ _) far6
 have Z11 : Hid (World.ownsRow w7 w2.heap.size 3 1 (.slice (some ⟨g11, 0, none⟩) le le) le (ze.map (Value.int .i64))) := by show World.ownsRow _ _ _ _ _ _ _; rw [HW7.out]; exact own_kept O116.out (grown_row _ _ _) far11
 have Z12 : Hid (World.ownsRow w7 w4.heap.size 3 1 (.slice (some ⟨g12, 0, none⟩) lr lr) lr (zr.map (Value.int .i64))) := by show World.ownsRow _ _ _ _ _ _ _; rw [HW7.out]; exact own_kept O126.out (grown_row _ _ _) far12
 have l12 := (World.ownsRow.lt Z12.out g12 rfl).2
 go_wp2_with (first | (rw [← HW6.out]; refine wpList_load_row (by rfl) 76 _ (by rfl) V (by rfl) 76 _ (0, 0) _ V6.out Tryz.underlying76 (by rfl) Tryz.infoSl ?_; clear y12 f12) | (refine wpList_store_row (by rfl) 76 _ _ (by rfl) D #[.string r, .string pr, .int .i64 pk, .int .i64 pn, .int .i64 pi, .string pb, .slice (some ⟨g6, 0, none⟩) m m, .bool fh, .bool fe, .bool fd, .bool fo, .slice (some ⟨g11, 0, none⟩) le le, .slice (some ⟨g12, 0, none⟩) lr lr] (by rfl) (by rfl) 76 #[.string ⟨#[]⟩, .string ⟨#[]⟩, .int .i64 0, .int .i64 0, .int .i64 0, .string ⟨#[]⟩, .slice none 0 0, .bool false, .bool false, .bool false, .bool false, .slice none 0 0, .slice none 0 0] ?_ Tryz.infoSl rfl (by simp [Value.oneCell']) ?_; exact D6.out; rw [← HW7.out]))
 refine bodyPost_ret (v := .agg #[.string r, .string pr, .int .i64 pk, .int .i64 pn, .int .i64 pi, .string pb, .slice (some ⟨g6, 0, none⟩) m m, .bool fh, .bool fe, .bool fd, .bool fo, .slice (some ⟨g11, 0, none⟩) le le, .slice (some ⟨g12, 0, none⟩) lr lr]) (results_cell_row Tryz.results94 _ _ D 76 _ (0, 0) _ (by rfl) ZR.out Tryz.underlying76 (by rfl) Tryz.infoSl) rfl ⟨g6, g11, g12, rfl, ?_, ?_, ?_, l12, ?_, ?_, ?_, ZB.out⟩
 ·have h1 := S6.out.1; have h2 := KB0.out.size; omega
 ·have h1 := S6.out.2; have h2 := sz2.out; have h3 := HG11.out; omega
 ·have h1 := HG11.out; have h2 := HG12.out; have h3 := sz4.out; omega
 ·exact ow_txt (OwnT.base Z6.out KB0.out.size) (fun x e => by cases e; rfl)
 ·exact OI.out _ _ _ (own_base Z11.out BW2.out.size)
 ·exact OZ.out _ _ _ (own_base Z12.out B4.out.size)
def pcsD (n : Nat) (P : Nat → Pc) : Dt := .lst 49 6 n fun i => pcD (P i)
end Go.Proofs.YtmhcdkbgjjibeaaGreatDoor
