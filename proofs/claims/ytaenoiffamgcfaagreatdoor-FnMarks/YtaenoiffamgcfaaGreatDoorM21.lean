import Derived.Test.YtaenoiffamgcfaaGreatDoorM19
import Derived.Test.YtaenoiffamgcfaaGreatDoorM20
import Derived.Test.YtaenoiffamgcfaaGreatDoorM8
import Derived.Test.YtaenoiffamgcfaaGreatDoorM6
import Derived.Deep.RegionHeld3
import Derived.Test.YtaenoiffamgcfaaGreatDoorM17
import Derived.BigQuiet
import Derived.Test.YtaenoiffamgcfaaGreatDoorM14
import Derived.Test.YtaenoiffamgcfaaGreatDoorRows
import Derived.Deep.Slices
import Derived.Test.YtaenoiffamgcfaaGreatDoorShelf
import Derived.Test.YtaenoiffamgcfaaGreatDoorM4
set_option maxHeartbeats 8000000
set_option maxRecDepth 2000
open Go.ChangeShapes Go.WideShapes Go.ChangeAt Go.RowKit
namespace Go.Proofs.YtaenoiffamgcfaaGreatDoor
structure Pc where
 r : ByteArray
 k : Int
 n : Int
 i : Int
 b : ByteArray
 m : Nat
 S : Nat → ByteArray
def cel (p : Pc) (v : Value) : Nat → Value
 | 0 => .string p.r
 | 1 => .int .i64 p.k
 | 2 => .int .i64 p.n
 | 3 => .int .i64 p.i
 | 4 => .string p.b
 | _ => v
def gL (c : Nat → Nat → Value) (n : Nat) : List Value := (List.range (n * 6)).map fun j => c (j / 6) (j % 6)
theorem gL_len (c : Nat → Nat → Value) (n : Nat) : (gL c n).length = n * 6 := by simp [gL]
theorem gL_get (c : Nat → Nat → Value) (n i q : Nat) (hi : i < n) (hq : q < 6) : (gL c n)[i * 6 + q]? = some (c i q) := by
 have h : i * 6 + q < n * 6 := by omega
 simp [gL, h, show (i * 6 + q) / 6 = i by omega, show (i * 6 + q) % 6 = q by omega]
theorem gL_congr {c c' : Nat → Nat → Value} {n : Nat} (h : ∀ i q, i < n → q < 6 → c i q = c' i q) : gL c n = gL c' n := by
 unfold gL
 refine List.map_congr_left fun j hj => ?_
 have : j < n * 6 := by simpa using hj
 exact h _ _ (by omega) (by omega)
theorem gL_snoc (c : Nat → Nat → Value) (n : Nat) : gL c (n + 1) = gL c n ++ [c n 0, c n 1, c n 2, c n 3, c n 4, c n 5] := by
 apply List.ext_getElem?
 intro j
 by_cases hj : j < n * 6
 ·rw [List.getElem?_append_left (by rw [gL_len]; omega)]
  have h1 := gL_get c (n + 1) (j / 6) (j % 6) (by omega) (by omega)
  have h2 := gL_get c n (j / 6) (j % 6) (by omega) (by omega)
  rw [show j / 6 * 6 + j % 6 = j by omega] at h1 h2
  rw [h1, h2]
 ·rw [List.getElem?_append_right (by rw [gL_len]; omega), gL_len]
  by_cases h6 : j < (n + 1) * 6
  ·obtain ⟨q, rfl⟩ : ∃ q, j = n * 6 + q := ⟨j - n * 6, by omega⟩
   have hq : q < 6 := by omega
   rw [gL_get _ _ _ _ (by omega) hq, show n * 6 + q - n * 6 = q by omega]
   match q, hq with
   | 0, _ => rfl
   | 1, _ => rfl
   | 2, _ => rfl
   | 3, _ => rfl
   | 4, _ => rfl
   | 5, _ => rfl
  ·rw [List.getElem?_eq_none (by rw [gL_len]; omega), List.getElem?_eq_none (by simp; omega)]
def OwnC (w : World) (B : Nat) (a : Option Addr) (n cap : Nat) (c : Nat → Nat → Value) : Prop := w.ownsRow B 32 6 (.slice a n cap) n (gL c n)
theorem OwnC.below {w w' : World} {B : Nat} {a : Option Addr} {n cap : Nat} {c : Nat → Nat → Value} (h : OwnC w B a n cap c) (hb : Below w.heap.size w w') : OwnC w' B a n cap c := ownsRow_below h hb
theorem OwnC.cell {w : World} {B g : Nat} {n cap : Nat} {c : Nat → Nat → Value} (h : OwnC w B (some ⟨g, 0, none⟩) n cap c) {i q : Nat} (hi : i < n) (hq : q < 6) : w.cell? ⟨g, i * 6 + q, none⟩ = some (c i q) := by
 have := World.ownsRow.cellAt h (i * 6 + q) (by omega)
 rw [this]
 exact gL_get _ _ _ _ hi hq
def OwnP (w : World) (B : Nat) (a : Option Addr) (n cap : Nat) (A : Nat → Option Addr) (C : Nat → Nat) (P : Nat → Pc) : Prop :=
 OwnC w B a n cap (fun i => cel (P i) (.slice (A i) (P i).m (C i))) ∧ (∀ i, i < n → OwnT w B (A i) (P i).m (C i) (P i).S) ∧
 (∀ i j x y, i < j → j < n → A i = some x → A j = some y → x.block ≠ y.block) ∧ (∀ i x y, i < n → A i = some x → a = some y → x.block ≠ y.block)
def ResP (w w' : World) (v : Value) (n : Nat) (P : Nat → Pc) : Prop := ∃ g cap A C, v = .slice (some ⟨g, 0, none⟩) n cap ∧ OwnP w' w.heap.size (some ⟨g, 0, none⟩) n cap A C P
def PiAt (w : World) (a : Option Addr) (n : Nat) (P : Nat → Pc) : Prop := ∀ i, i < n → ∃ b off ap cp, a = some ⟨b, off, none⟩ ∧ (∀ q, q < 6 → w.cell? ⟨b, off + (i * 6 + q), none⟩ = some (cel (P i) (.slice ap (P i).m cp) q)) ∧ TxtAt w ap (P i).m (P i).S
theorem OwnP.at {w : World} {B : Nat} {a : Option Addr} {n cap : Nat} {A : Nat → Option Addr} {C : Nat → Nat} {P : Nat → Pc} (h : OwnP w B a n cap A C P) : PiAt w a n P := fun i hi => by
 have h1 := h.1
 obtain ⟨g, rfl⟩ : ∃ g, a = some ⟨g, 0, none⟩ := by
  rcases h1.2 with ⟨e, h0⟩ | ⟨g, cap', cur, e, _⟩
  ·omega
  ·cases e; exact ⟨g, rfl⟩
 refine ⟨g, 0, A i, C i, rfl, fun q hq => ?_, OwnT.at (h.2.1 i hi)⟩
 rw [Nat.zero_add]
 exact h1.cell hi hq
noncomputable def cutP (k : Int) (n : Nat) (S : Nat → ByteArray) : Nat → Pc := fun i => ⟨rtS n (lvs k n S), k, (n : Int), (i : Int), S i, pfR n (lvs k n S) (i : Int), pfF n (lvs k n S) (i : Int)⟩
structure Sl where
 r : ByteArray
 p : Pc
 h : Bool
 e : Bool
 d : Bool
 o : Bool
 ze : List Int
 zr : List Int
def slD (s : Sl) : Nat → Dt
 | 0 => .val (.string s.r)
 | 1 => .val (.string s.p.r)
 | 2 => .val (.int .i64 s.p.k)
 | 3 => .val (.int .i64 s.p.n)
 | 4 => .val (.int .i64 s.p.i)
 | 5 => .val (.string s.p.b)
 | 6 => txD s.p.m s.p.S
 | 7 => .val (.bool s.h)
 | 8 => .val (.bool s.e)
 | 9 => .val (.bool s.d)
 | 10 => .val (.bool s.o)
 | 11 => inD s.ze
 | _ => inD s.zr
abbrev slC (s : Sl) (v6 v11 v12 : Value) : Array Value := #[.string s.r, .string s.p.r, .int .i64 s.p.k, .int .i64 s.p.n, .int .i64 s.p.i, .string s.p.b, v6, .bool s.h, .bool s.e, .bool s.d, .bool s.o, v11, v12]
abbrev slV (s : Sl) (v6 v11 v12 : Value) : Value := .agg (slC s v6 v11 v12)
structure Sy where
 k : Int
 f : Int
 t : Int
 r : ByteArray
 p : Pc
def syD (s : Sy) : Nat → Dt
 | 0 => .val (.int .i64 s.k)
 | 1 => .val (.int .i64 s.f)
 | 2 => .val (.int .i64 s.t)
 | 3 => .val (.string s.r)
 | 4 => .val (.string s.p.r)
 | 5 => .val (.int .i64 s.p.k)
 | 6 => .val (.int .i64 s.p.n)
 | 7 => .val (.int .i64 s.p.i)
 | 8 => .val (.string s.p.b)
 | _ => txD s.p.m s.p.S
abbrev syC (s : Sy) (v : Value) : Array Value := #[.int .i64 s.k, .int .i64 s.f, .int .i64 s.t, .string s.r, .string s.p.r, .int .i64 s.p.k, .int .i64 s.p.n, .int .i64 s.p.i, .string s.p.b, v]
abbrev syV (s : Sy) (v : Value) : Value := .agg (syC s v)
abbrev ag13 (y : Nat → Value) : Value := .agg #[y 0, y 1, y 2, y 3, y 4, y 5, y 6, y 7, y 8, y 9, y 10, y 11, y 12]
def slsD (n : Nat) (S : Nat → Sl) : Dt := .lst 65 13 n fun i => slD (S i)
def sysD (n : Nat) (S : Nat → Sy) : Dt := .lst 87 10 n fun i => syD (S i)
theorem slot_row {w : World} {n : Nat} {S : Nat → Sl} {a : Option Addr} {cap : Nat} (h : Rd w (slsD n S) (.slice a n cap)) {i : Nat} (hi : i < n) :
  ∃ (b off : Nat) (y : Nat → Value) (a6 a11 a12 : Option Addr) (c6 c11 c12 : Nat), a = some ⟨b, off, none⟩ ∧ (∀ q, q < 13 → w.cell? ⟨b, off + (i * 13 + q), none⟩ = some (y q)) ∧ ag13 y = slV (S i) (.slice a6 (S i).p.m c6) (.slice a11 (S i).ze.length c11) (.slice a12 (S i).zr.length c12) ∧ TxtAt w a6 (S i).p.m (S i).p.S ∧ IntsAt w a11 (S i).ze.length (S i).ze ∧ IntsAt w a12 (S i).zr.length (S i).zr := by
 obtain ⟨b, off, y, ea, hc, hr⟩ := h.row hi
 obtain ⟨a6, c6, e6⟩ := (hr 6 (by omega)).shape
 have r6 : Rd w (txD (S i).p.m (S i).p.S) (y 6) := hr 6 (by omega)
 rw [e6] at r6
 obtain ⟨a11, c11, e11⟩ := (hr 11 (by omega)).shape
 have r11 : Rd w (inD (S i).ze) (y 11) := hr 11 (by omega)
 rw [e11] at r11
 obtain ⟨a12, c12, e12⟩ := (hr 12 (by omega)).shape
 have r12 : Rd w (inD (S i).zr) (y 12) := hr 12 (by omega)
 rw [e12] at r12
 have g0 := hr 0 (by omega)
 have g1 := hr 1 (by omega)
 have g2 := hr 2 (by omega)
 have g3 := hr 3 (by omega)
 have g4 := hr 4 (by omega)
 have g5 := hr 5 (by omega)
 have g7 := hr 7 (by omega)
 have g8 := hr 8 (by omega)
 have g9 := hr 9 (by omega)
 have g10 := hr 10 (by omega)
 simp only [Rd, slD] at g0 g1 g2 g3 g4 g5 g7 g8 g9 g10
 exact ⟨b, off, y, a6, a11, a12, c6, c11, c12, ea, hc, by simp only [ag13, slV, slC, g0, g1, g2, g3, g4, g5, g7, g8, g9, g10, e6, e11, e12], rd_txt.1 r6, rd_ints.1 r11, rd_ints.1 r12⟩
theorem range13 {w : World} {b o : Nat} {y : Nat → Value} (h : ∀ q, q < 13 → w.cell? ⟨b, o + q, none⟩ = some (y q)) : w.rangeAt b o [y 0, y 1, y 2, y 3, y 4, y 5, y 6, y 7, y 8, y 9, y 10, y 11, y 12] := fun j v hv => by
 have hj : j < 13 := (List.getElem?_eq_some_iff.1 hv).1
 rw [h j hj, ← hv]
 match j, hj with
 | 0, _ | 1, _ | 2, _ | 3, _ | 4, _ | 5, _ | 6, _ | 7, _ | 8, _ | 9, _ | 10, _ | 11, _ | 12, _ => rfl
theorem Tryz.infoSl : (Tryz.prog.info? 65).map (·.size) = some 13 := by kernel_rfl
theorem Tryz.infoNd : (Tryz.prog.info? 37).map (·.size) = some 3 := by kernel_rfl
theorem Tryz.infoSy : (Tryz.prog.info? 87).map (·.size) = some 10 := by kernel_rfl
theorem Tryz.infoPc3 : (Tryz.prog.info? 32).map (fun i => (i.zero, i.size, i.bytes)) = some (some (.agg #[.string ByteArray.empty, .int .i64 0, .int .i64 0, .int .i64 0, .string ByteArray.empty, .slice none 0 0]), 6, 80) := by kernel_rfl
noncomputable def cutR (s : ByteArray) (k n : Int) : Nat := if encOk s k n = true then n.toNat else 0
def SlS (s : Sl) : Prop := s.p.m ≤ 1048576 ∧ s.ze.length ≤ 1048576 ∧ s.zr.length ≤ 1048576
theorem one_row {w : World} {b off i sz : Nat} {y : Nat → Value} (W : World) (hW : Below w.heap.size w W) (h : ∀ q, q < sz + 1 → w.cell? ⟨b, off + (i * (sz + 1) + q), none⟩ = some (y q)) :
  W.cell? ⟨b, off + i * (sz + 1), none⟩ = some (y 0) ∧ (∀ q, q < sz + 1 → W.cell? ⟨b, off + i * (sz + 1) + q, none⟩ = some (y q)) := by
 have k : ∀ q, q < sz + 1 → W.cell? ⟨b, off + i * (sz + 1) + q, none⟩ = some (y q) := fun q hq => by
  have := h q hq
  rw [← Nat.add_assoc] at this
  exact (hW.cell (p := ⟨b, off + i * (sz + 1) + q, none⟩) (block_lt_of_cell this)).trans this
 exact ⟨k 0 (by omega), k⟩
theorem OwnP.snoc {w w2 w3 : World} {B g g3 c cap cap3 : Nat} {A : Nat → Option Addr} {C : Nat → Nat} {P : Nat → Pc} {aP : Option Addr} {cP : Nat} {X : Obj}
  (h : OwnP w B (some ⟨g, 0, none⟩) c cap A C P) (hB : B ≤ w.heap.size) (hb : Below w.heap.size w w2) (ho : OwnT w2 w.heap.size aP (P c).m cP (P c).S)
  (h3 : w3.ownsRow B 32 6 (.slice (some ⟨g3, 0, none⟩) (c + 1) cap3) (c + 1) (gL (fun i => cel (P i) (.slice (A i) (P i).m (C i))) c ++ [.string (P c).r, .int .i64 (P c).k, .int .i64 (P c).n, .int .i64 (P c).i, .string (P c).b, .slice aP (P c).m cP]))
  (hg : (w2.alloc X).grownBy w3 (some g)) (hat : g = g3 ∨ g3 = w2.heap.size + 1) : ∃ A' C', OwnP w3 B (some ⟨g3, 0, none⟩) (c + 1) cap3 A' C' P := by
 obtain ⟨h1, h2, h4, h5⟩ := h
 have lg := (World.ownsRow.lt h1 g rfl).2
 have lA : ∀ i x, i < c → A i = some x → x.block < w.heap.size := fun i x hi e => by
  have := h2 i hi
  rw [e] at this
  exact (World.ownsRow.lt this x.block rfl).2
 have lP : ∀ x, aP = some x → w.heap.size ≤ x.block ∧ x.block < w2.heap.size := fun x e => by
  subst e
  exact World.ownsRow.lt ho x.block rfl
 have hs := hb.size
 refine ⟨fun i => if i = c then aP else A i, fun i => if i = c then cP else C i, ?_, ?_, ?_, ?_⟩
 ·show World.ownsRow _ _ _ _ _ _ _
  have e : gL (fun i => cel (P i) (.slice (if i = c then aP else A i) (P i).m (if i = c then cP else C i))) (c + 1) = gL (fun i => cel (P i) (.slice (A i) (P i).m (C i))) c ++ [.string (P c).r, .int .i64 (P c).k, .int .i64 (P c).n, .int .i64 (P c).i, .string (P c).b, .slice aP (P c).m cP] := by
   rw [gL_snoc, gL_congr (c' := fun i => cel (P i) (.slice (A i) (P i).m (C i))) (fun i q hi _ => by simp [show i ≠ c by omega])]
   simp [cel]
  rw [e]
  exact h3
 ·intro i hi
  by_cases ei : i = c
  ·subst ei
   simp only [if_true]
   exact own_kept (World.ownsRow.alloc (OwnT.base ho hB) X) hg (fun x e => by have := lP x e; omega)
  ·simp only [ei, if_false]
   exact own_kept (World.ownsRow.alloc (OwnT.below (h2 i (by omega)) hb) X) hg (fun x e => h5 i x _ (by omega) e rfl)
 ·intro i j x y hij hj hx hy
  replace hx : (if i = c then aP else A i) = some x := hx
  replace hy : (if j = c then aP else A j) = some y := hy
  by_cases ej : j = c
  ·subst ej
   simp only [if_true] at hy
   rw [if_neg (by omega)] at hx
   have l1 := lP y hy
   have l2 := lA i x (by omega) hx
   omega
  ·rw [if_neg ej] at hy
   rw [if_neg (by omega)] at hx
   exact h4 i j x y hij (by omega) hx hy
 ·intro i x y hi hx hy
  replace hx : (if i = c then aP else A i) = some x := hx
  cases hy
  by_cases ei : i = c
  ·subst ei
   simp only [if_true] at hx
   have := lP x hx
   rcases hat with e | e
   ·show x.block ≠ g3; omega
   ·show x.block ≠ g3; omega
  ·rw [if_neg ei] at hx
   have l2 := lA i x (by omega) hx
   rcases hat with e | e
   ·subst e; exact h5 i x _ (by omega) hx rfl
   ·show x.block ≠ g3; omega
theorem OwnP.base {w : World} {B B' : Nat} {a : Option Addr} {n cap : Nat} {A : Nat → Option Addr} {C : Nat → Nat} {P : Nat → Pc} (h : OwnP w B a n cap A C P) (hB : B' ≤ B) : OwnP w B' a n cap A C P :=
 ⟨own_base h.1 hB, fun i hi => OwnT.base (h.2.1 i hi) hB, h.2.2⟩
theorem sAll_any (k : Int) (a : Option Addr) (n cap : Nat) (S : Nat → ByteArray) (w : World) (h : TxtAt w a n S) (hn : n ≤ 64) (hS : ∀ i, i < n → (S i).size ≤ 1048576) :
  Calls Tryz.prog 77 #[.slice a n cap, .int .i64 k, .int .i64 (n : Int)] w fun e w' => ∃ v, e = .returned v ∧ ResP w w' v n (cutP k n S) ∧ Below w.heap.size w w' := by
 obtain ⟨i0, hi, hz0, hz1, hz2⟩ := info_parts Tryz.infoStr
 obtain ⟨j0, hj, hy0, hy1, hy2⟩ := info_parts Tryz.infoPc3
 have HPC : Hid (∀ i, cutP k n S i = ⟨rtS n (lvs k n S), k, (n : Int), (i : Int), S i, pfR n (lvs k n S) (i : Int), pfF n (lvs k n S) (i : Int)⟩) := fun i => rfl
 obtain ⟨P, HP⟩ : ∃ P, Hid (cutP k n S = P) := ⟨_, rfl⟩
 rw [HP.out] at HPC
 rw [HP.out]
 obtain ⟨L, HL⟩ : ∃ L, Hid (lvs k n S = L) := ⟨_, rfl⟩
 have HL16 : Hid (∀ i, (L i).size ≤ 16) := fun i => by rw [← HL.out]; exact lvs_le _ _ _ _
 obtain ⟨rt, HRT⟩ : ∃ rt, Hid (rtS n L = rt) := ⟨_, rfl⟩
 rw [HL.out, HRT.out] at HPC
 have KH : Hid (TxtAt w a n S) := h
 have KS : Hid (∀ i, i < n → (S i).size ≤ 1048576) := hS
 have K0 : Hid (OwnT (w.alloc (.cells #[] 9)) w.heap.size (some ⟨w.heap.size, 0, none⟩) 0 0 L ∧ Below w.heap.size w (w.alloc (.cells #[] 9))) := ⟨litT w _, (Below.refl _ _).alloc (Nat.le_refl _) _⟩
 clear h hS
 go_enter Tryz.func77, Tryz.ntmps77
 go_wp2
 go_loopw [7, 8] (fun v vi wr => ∃ c g cc : Nat, c ≤ n ∧ vi = .int .i64 (c : Int) ∧ v = .slice (some ⟨g, 0, none⟩) c cc ∧ OwnT wr w.heap.size (some ⟨g, 0, none⟩) c cc L ∧ Below w.heap.size w wr) (fun _ vi _ => n - (intOf vi).toNat)
 case atStart => exact ⟨0, w.heap.size, 0, Nat.zero_le _, rfl, rfl, K0.out.1, K0.out.2⟩
 case round =>
  obtain ⟨c, g, cc, hk, rfl, rfl, ho, hbel⟩ := hrel
  clear K0
  have KO : Hid (OwnT wr w.heap.size (some ⟨g, 0, none⟩) c cc L ∧ Below w.heap.size w wr) := ⟨ho, hbel⟩
  clear ho hbel
  by_cases hlt : c < n
  ·have hki : (c : Int) < (n : Int) := by omega
   obtain ⟨b1, off1, rfl, hc1⟩ := (KH.out.below KO.out.2) c hlt
   have KC : Hid (∀ W, Calls Tryz.prog 65 #[.int .i64 k, .int .i64 (n : Int), .int .i64 (c : Int), .string (S c)] W fun e w' => e = .returned (.string (L c)) ∧ Below W.heap.size W w') := fun W => by
    have := sPieceLeaf_any k (n : Int) (c : Int) (S c) W (KS.out c hlt)
    rw [← HL.out]
    exact this
   have lg := World.ownsRow.lt KO.out.1 _ rfl
   generalize S c = sc at hc1 KC
   obtain ⟨z, HZ⟩ : ∃ z, Hid (L c = z) := ⟨_, rfl⟩
   rw [HZ.out] at KC
   go_wp2_with fail
   refine Calls.mono (KC.out _) ?_
   rintro e w6 ⟨rfl, hb6⟩
   have K6 : Hid (OwnT w6 w.heap.size (some ⟨g, 0, none⟩) c cc L ∧ Below w.heap.size w w6) := ⟨OwnT.below KO.out.1 hb6, below2 KO.out.2 hb6⟩
   have hsz6 := K6.out.2.size
   clear hb6 KC hc1 KO
   go_wp2_with (at_builtin; refine wpList_append_all _ (by rfl) _ _ 30 (by rfl) w.heap.size 9 i0 (.string ByteArray.empty) 1 16 Tryz.underlying30 hi hz0 hz1 hz2 rfl (by decide) g c cc _ (by rfl) (World.ownsRow.alloc K6.out.1 _) ⟨w6.heap.size, 0, none⟩ 1 1 [.string z] (by rfl) (by rfl) (World.news_of_block (cs := #[.string z]) (t := 9) (fr := (0, 0)) (heap_alloc_new w6 _)) (by simp [Value.oneCell']) (by unfold maxLen; omega) (by omega) (by simp; omega) ?_; intro g3 cap3 w7 hown3 hgrow3)
   have HL7 : Hid (OwnT w7 w.heap.size (some ⟨g3, 0, none⟩) (c + 1) cap3 L ∧ Below w.heap.size w w7) := by
    refine ⟨?_, (K6.out.2.alloc hsz6 _).grown (show World.grownBy _ w7 (some g) from hgrow3) (by simp; omega) (fun j hj => by cases hj; exact lg.1)⟩
    unfold OwnT
    rw [sL_snoc, HZ.out]
    exact hown3
   clear hown3 hgrow3 K6
   go_roundw
   case rel => exact ⟨c + 1, g3, cap3, by omega, by go_num, rfl, HL7.out.1, HL7.out.2⟩
   case measure => simp [intOf]; omega
  ·obtain rfl : c = n := by omega
   have KR : Hid (Calls Tryz.prog 110 #[.slice (some ⟨g, 0, none⟩) c cc] wr fun e w' => e = .returned (.tuple #[.string rt, .bool (lvB c L)]) ∧ Below wr.heap.size wr w') := by
    have := sRoot_any (some ⟨g, 0, none⟩) c cc L wr (OwnT.at KO.out.1) (by omega) (fun i _ => by have := HL16.out i; unfold maxLen; omega)
    rw [HRT.out] at this
    exact this
   generalize lvB c L = okr at KR
   go_wp2_with fail
   refine Calls.mono KR.out ?_
   rintro e w3 ⟨rfl, hb3⟩
   obtain ⟨w4, HW4⟩ : ∃ w4, Hid (w4 = w3.alloc (.cells #[] 32)) := ⟨_, rfl⟩
   have hb34 : Below w3.heap.size w3 w4 := by rw [HW4.out]; exact (Below.refl _ _).alloc (Nat.le_refl _) _
   have KL3 : Hid (TxtAt w3 (some ⟨g, 0, none⟩) c L) := (OwnT.at KO.out.1).below hb3
   have KA3 : Hid (TxtAt w3 a c S) := (KH.out.below KO.out.2).below hb3
   have KB3 : Hid (Below w.heap.size w w3) := below2 KO.out.2 hb3
   have KB34 : Hid (Below w3.heap.size w3 w4) := hb34
   have KP4 : Hid (OwnP w4 w3.heap.size (some ⟨w3.heap.size, 0, none⟩) 0 0 (fun _ => none) (fun _ => 0) P) := by
    rw [HW4.out]
    exact ⟨World.ownsRow_lit w3 #[] 0 (Nat.le_refl _) (by unfold maxLen; omega) rfl, fun i hi => absurd hi (Nat.not_lt_zero _), fun i j x y _ hj => absurd hj (Nat.not_lt_zero _), fun i x y hi => absurd hi (Nat.not_lt_zero _)⟩
   clear hb3 hb34 KO KR hi hz0 hz1 hz2
   go_wp2_with fail
   rw [← HW4.out]
   go_loopw [11, 12] (fun v vi wr => ∃ q g2 cc2 : Nat, q ≤ c ∧ vi = .int .i64 (q : Int) ∧ v = .slice (some ⟨g2, 0, none⟩) q cc2 ∧ (∃ A C, OwnP wr w3.heap.size (some ⟨g2, 0, none⟩) q cc2 A C P) ∧ Below w3.heap.size w3 wr) (fun _ vi _ => c - (intOf vi).toNat)
   case atStart => exact ⟨0, _, 0, Nat.zero_le _, rfl, rfl, ⟨_, _, KP4.out⟩, KB34.out⟩
   case round =>
    obtain ⟨q, g2, cc2, hq, rfl, rfl, ⟨A, C, hop⟩, hb3r⟩ := hrel
    clear KP4
    have KOP : Hid (OwnP wr w3.heap.size (some ⟨g2, 0, none⟩) q cc2 A C P ∧ Below w3.heap.size w3 wr) := ⟨hop, hb3r⟩
    have lg2 := World.ownsRow.lt hop.1 g2 rfl
    clear hop hb3r
    by_cases hlt2 : q < c
    ·have hqi : (q : Int) < (c : Int) := by omega
     have KPF : Hid (Calls Tryz.prog 111 #[.slice (some ⟨g, 0, none⟩) c cc, .int .i64 (q : Int)] wr fun e w' => ∃ v, e = .returned (.tuple #[v, .bool (pfB c L (q : Int))]) ∧ ResT wr w' v (P q).m (P q).S ∧ Below wr.heap.size wr w') := by
      rw [HPC.out]
      exact sProof_any (some ⟨g, 0, none⟩) c cc L (q : Int) wr (KL3.out.below KOP.out.2) (by omega) (fun i _ => by have := HL16.out i; unfold maxLen; omega)
     generalize pfB c L (q : Int) = okp at KPF
     obtain ⟨mq, HMQ⟩ : ∃ mc, Hid ((P q).m = mc) := ⟨_, rfl⟩
     rw [HMQ.out] at KPF
     obtain ⟨sc, HSC⟩ : ∃ sc, Hid (S q = sc) := ⟨_, rfl⟩
     have HS : Hid ((P q).r = rt ∧ (P q).k = k ∧ (P q).n = (c : Int) ∧ (P q).i = (q : Int) ∧ (P q).b = sc) := by rw [HPC.out, HSC.out]; exact ⟨rfl, rfl, rfl, rfl, rfl⟩
     go_wp2_with fail
     refine Calls.mono KPF.out ?_
     rintro e w5 ⟨v5, rfl, ⟨aP, cP, rfl, O5⟩, hb5⟩
     obtain ⟨b1, off1, rfl, hc1⟩ := ((KA3.out.below KOP.out.2).below hb5) q hlt2
     rw [HSC.out] at hc1
     have hs5 := hb5.size
     have hw5 := KOP.out.2.size
     have O5' : Hid (OwnT w5 wr.heap.size aP mq cP (P q).S) := O5
     have HB5 : Hid (Below wr.heap.size wr w5) := hb5
     have KX : Hid (OwnC w5 w3.heap.size (some ⟨g2, 0, none⟩) q cc2 (fun i => cel (P i) (.slice (A i) (P i).m (C i)))) := KOP.out.1.1.below hb5
     clear O5 hb5 KPF
     go_wp2_with (at_builtin; refine wpList_append_lies _ (by rfl) _ _ 57 (by rfl) w3.heap.size 32 j0 (.agg #[.string ByteArray.empty, .int .i64 0, .int .i64 0, .int .i64 0, .string ByteArray.empty, .slice none 0 0]) 6 80 Tryz.underlying57 hj hy0 hy1 hy2 rfl (by decide) (.slice (some ⟨g2, 0, none⟩) q cc2) q _ (by rfl) (World.ownsRow.alloc KX.out _) ⟨w5.heap.size, 0, none⟩ 1 1 [.string rt, .int .i64 k, .int .i64 (c : Int), .int .i64 (q : Int), .string sc, .slice aP mq cP] (by rfl) (by rfl) (World.news_of_block (cs := #[.string rt, .int .i64 k, .int .i64 (c : Int), .int .i64 (q : Int), .string sc, .slice aP mq cP]) (t := 32) (fr := (0, 0)) (heap_alloc_new w5 _)) (by simp [Value.oneCell']) (by omega) (by unfold maxLen; omega) (by omega) (by simp; omega) (w5.heap.size + 1) (by simp) ?_; intro g3 cap3 w7 hown3 hgrow3 hat3 hlt3)
     have hgr : World.grownBy (w5.alloc (.cells #[.string rt, .int .i64 k, .int .i64 (c : Int), .int .i64 (q : Int), .string sc, .slice aP mq cP] 32)) w7 (some g2) := hgrow3
     have HN : Hid ((∃ A C, OwnP w7 w3.heap.size (some ⟨g3, 0, none⟩) (q + 1) cap3 A C P) ∧ Below w3.heap.size w3 w7) := by
      refine ⟨OwnP.snoc (aP := aP) (cP := cP) KOP.out.1 hw5 HB5.out (by rw [HMQ.out]; exact O5'.out) ?_ hgr ?_, ?_⟩
      ·rw [HMQ.out, HS.out.1, HS.out.2.1, HS.out.2.2.1, HS.out.2.2.2.1, HS.out.2.2.2.2]
       exact hown3
      ·rcases hat3 with e | e
       ·exact .inl (by simpa [Value.ownBlock] using e)
       ·exact .inr e
      ·exact ((below2 KOP.out.2 HB5.out).alloc (by omega) _).grown hgr (by simp; omega) (fun j hj => by cases hj; exact lg2.1)
     clear hown3 hgrow3 hgr hat3 hlt3 KOP KX HB5 O5' hc1
     go_roundw
     case rel => exact ⟨q + 1, g3, cap3, by omega, by go_num, rfl, HN.out.1, HN.out.2⟩
     case measure => simp [intOf]; omega
    ·obtain rfl : q = c := by omega
     go_wp2
     go_ret
     exact ⟨_, rfl, ⟨_, _, A, C, rfl, KOP.out.1.base KB3.out.size⟩, below2 KB3.out KOP.out.2⟩
theorem sCut_any (s : ByteArray) (k n : Int) (w : World) (hs : s.size ≤ 1048576) :
  Calls Tryz.prog 51 #[.string s, .int .i64 k, .int .i64 n] w fun e w' => ∃ v, e = .returned (.tuple #[v, .bool (encOk s k n)]) ∧ ResP w w' v (cutR s k n) (cutP k n.toNat (encS s k.toNat)) ∧ Below w.heap.size w w' := by
 have KE : Hid (Calls Tryz.prog 76 #[.string s, .int .i64 k, .int .i64 n] w fun e w' => ∃ v, e = .returned (.tuple #[v, .bool (encOk s k n)]) ∧ ResT w w' v (encR s k n) (encS s k.toNat) ∧ Below w.heap.size w w') := sEncode_any s k n w hs
 unfold cutR
 cases hok : encOk s k n with
 | false =>
  rw [hok] at KE
  obtain ⟨P, HP⟩ : ∃ P, Hid (cutP k n.toNat (encS s k.toNat) = P) := ⟨_, rfl⟩
  rw [HP.out]
  go_enter Tryz.func51, Tryz.ntmps51
  go_wp2_with fail
  refine Calls.mono KE.out ?_
  rintro e w1 ⟨v, rfl, _, b1⟩
  have HO : Hid (OwnP (w1.alloc (.cells #[] 32)) w.heap.size (some ⟨w1.heap.size, 0, none⟩) 0 0 (fun _ => none) (fun _ => 0) P) := ⟨World.ownsRow_lit w1 #[] 0 b1.size (by unfold maxLen; omega) rfl, fun i hi => absurd hi (Nat.not_lt_zero _), fun i j x y _ hj => absurd hj (Nat.not_lt_zero _), fun i x y hi => absurd hi (Nat.not_lt_zero _)⟩
  go_wp2
  go_ret2
  exact ⟨_, rfl, ⟨_, _, _, _, rfl, HO.out⟩, b1.alloc b1.size _⟩
 | true =>
  obtain ⟨h1, h2, h3, h4⟩ := encOk_parts hok
  have hR : encR s k n = n.toNat := by unfold encR; rw [hok]; rfl
  have hle := fun i => encS_le hok i
  rw [hok, hR] at KE
  rw [if_pos rfl]
  obtain ⟨N, rfl⟩ : ∃ N : Nat, n = (N : Int) := ⟨n.toNat, by omega⟩
  rw [Int.toNat_natCast] at KE ⊢
  generalize encS s k.toNat = S at KE hle ⊢
  clear h1 h2 h3 hok hR
  go_enter Tryz.func51, Tryz.ntmps51
  go_wp2_with fail
  refine Calls.mono KE.out ?_
  rintro e w1 ⟨v, rfl, ⟨aE, cE, rfl, O1⟩, b1⟩
  have A1 : TxtAt w1 aE N S := OwnT.at O1
  clear O1
  go_wp2_with fail
  refine Calls.mono (sAll_any k aE N cE S _ A1 (by omega) (fun i _ => by have := hle i; omega)) ?_
  rintro e w2 ⟨v2, rfl, ⟨a2, c2, A2, C2, rfl, O2⟩, b2⟩
  have KO2 : Hid (OwnP w2 w.heap.size (some ⟨a2, 0, none⟩) N c2 A2 C2 (cutP k N S)) := O2.base b1.size
  clear O2 A1
  go_wp2
  go_ret2
  exact ⟨_, rfl, ⟨_, _, _, _, rfl, KO2.out⟩, below2 b1 b2⟩
def seB (id f : Int) : Bool := decide (1 ≤ f ∧ f ≤ 3 ∧ 0 ≤ id ∧ id < 3 * f + 1)
abbrev ndV (id f : Int) (v : Value) : Value := .agg #[.int .i64 id, .int .i64 f, v]
theorem three_wrap {f : Int} (h : 1 ≤ f ∧ f ≤ 3) : IntKind.i64.wrap (3 * f) = 3 * f ∧ IntKind.i64.wrap (3 * f + 1) = 3 * f + 1 := by
 constructor <;> (rw [IntKind.wrap_i64]; omega)
theorem sAllN_any (f : Int) (w : World) (h : 1 ≤ f ∧ f ≤ 3) : Calls Tryz.prog 49 #[.int .i64 f] w fun e w' => e = .returned (.int .i64 (3 * f + 1)) ∧ w' = w := by
 obtain ⟨e1, e2⟩ := three_wrap h
 go_enter Tryz.func49, Tryz.ntmps49
 go_wp2
 go_ret
 exact ⟨rfl, rfl⟩
theorem sNodeStart_any (id f : Int) (w : World) : Calls Tryz.prog 50 #[.int .i64 id, .int .i64 f] w fun e w' => e = .returned (.tuple #[ndV (if seB id f then id else 0) (if seB id f then f else 0) (.slice none 0 0), .bool (seB id f)]) ∧ Below w.heap.size w w' := by
 have KI : Hid (∀ x a b W, Calls Tryz.prog 63 #[.int .i64 x, .int .i64 a, .int .i64 b] W fun e w' => e = .returned (.bool (inB x a b)) ∧ w' = W) := fun x a b W => sIn_any x a b W
 by_cases hf : 1 ≤ f ∧ f ≤ 3
 ·obtain ⟨e1, e2⟩ := three_wrap hf
  have KA : Hid (∀ W, Calls Tryz.prog 49 #[.int .i64 f] W fun e w' => e = .returned (.int .i64 (3 * f + 1)) ∧ w' = W) := fun W => sAllN_any f W hf
  have i1 : inB f 1 3 = true := decide_eq_true hf
  have e3 : IntKind.i64.wrap (3 * f + 1 - 1) = 3 * f := by rw [IntKind.wrap_i64]; omega
  have i2 : inB id 0 (3 * f) = seB id f := by
   unfold inB seB
   rw [decide_eq_decide]
   omega
  obtain ⟨m, HM⟩ : ∃ m, Hid (3 * f + 1 = m) := ⟨_, rfl⟩
  obtain ⟨m1, HM1⟩ : ∃ m, Hid (3 * f = m) := ⟨_, rfl⟩
  rw [HM.out] at KA e3
  rw [HM1.out] at e3 i2
  have K1 : Hid (∀ W, Calls Tryz.prog 63 #[.int .i64 f, .int .i64 1, .int .i64 3] W fun e w' => e = .returned (.bool true) ∧ w' = W) := fun W => by have := KI.out f 1 3 W; rw [i1] at this; exact this
  have K2 : Hid (∀ W, Calls Tryz.prog 63 #[.int .i64 id, .int .i64 0, .int .i64 m1] W fun e w' => e = .returned (.bool (seB id f)) ∧ w' = W) := fun W => by have := KI.out id 0 m1 W; rw [i2] at this; exact this
  clear e1 e2 i1 i2
  cases hse : seB id f with
  | true =>
   rw [hse] at K2
   go_enter Tryz.func50, Tryz.ntmps50
   go_wp2_with (first | (go_at_call 49; refine Calls.mono (KA.out _) ?_; rintro e w' ⟨rfl, hw⟩; obtain rfl := hw.symm; clear hw; have DONE : Hid True := trivial) | (guard_hyp DONE; go_at_call 63; refine Calls.mono (K2.out _) ?_; rintro e w' ⟨rfl, hw⟩; obtain rfl := hw.symm; clear hw) | (go_at_call 63; refine Calls.mono (K1.out _) ?_; rintro e w' ⟨rfl, hw⟩; obtain rfl := hw.symm; clear hw))
   refine bodyPost_ret (v := .tuple #[ndV id f (.slice none 0 0), .bool true]) (by simp [results, Tryz.results50, go_sem]) rfl ⟨rfl, (Below.refl _ _).alloc (Nat.le_refl _) _⟩
  | false =>
   rw [hse] at K2
   go_enter Tryz.func50, Tryz.ntmps50
   go_wp2_with (first | (go_at_call 49; refine Calls.mono (KA.out _) ?_; rintro e w' ⟨rfl, hw⟩; obtain rfl := hw.symm; clear hw; have DONE : Hid True := trivial) | (guard_hyp DONE; go_at_call 63; refine Calls.mono (K2.out _) ?_; rintro e w' ⟨rfl, hw⟩; obtain rfl := hw.symm; clear hw) | (go_at_call 63; refine Calls.mono (K1.out _) ?_; rintro e w' ⟨rfl, hw⟩; obtain rfl := hw.symm; clear hw))
   refine bodyPost_ret (v := .tuple #[ndV 0 0 (.slice none 0 0), .bool false]) (by simp [results, Tryz.results50, go_sem]) rfl ⟨rfl, (Below.refl _ _).alloc (Nat.le_refl _) _⟩
 ·have e2 : seB id f = false := decide_eq_false (fun h => hf ⟨h.1, h.2.1⟩)
  have i1 : inB f 1 3 = false := decide_eq_false hf
  have K1 : Hid (∀ W, Calls Tryz.prog 63 #[.int .i64 f, .int .i64 1, .int .i64 3] W fun e w' => e = .returned (.bool false) ∧ w' = W) := fun W => by have := KI.out f 1 3 W; rw [i1] at this; exact this
  rw [e2]
  go_enter Tryz.func50, Tryz.ntmps50
  go_wp2_with (go_at_call 63; refine Calls.mono (K1.out _) ?_; rintro e w' ⟨rfl, hw⟩; obtain rfl := hw.symm; clear hw)
  refine bodyPost_ret (v := .tuple #[ndV 0 0 (.slice none 0 0), .bool false]) (by simp [results, Tryz.results50, go_sem]) rfl ⟨rfl, (Below.refl _ _).alloc (Nat.le_refl _) _⟩
def NumP (f : Int) (zs : List Int) : Prop := ∀ i, i < zs.length → (0 ≤ zs.getD i 0 ∧ zs.getD i 0 < 3 * f + 1) ∧ (0 < i → zs.getD (i - 1) 0 < zs.getD i 0)
noncomputable def numB (f : Int) (zs : List Int) : Bool := @decide (NumP f zs) (Classical.propDecidable _)
theorem numB_yes {f : Int} {zs : List Int} (h : NumP f zs) : numB f zs = true := by unfold numB; exact @decide_eq_true _ (Classical.propDecidable _) h
theorem numB_no {f : Int} {zs : List Int} (h : ¬ NumP f zs) : numB f zs = false := by unfold numB; exact @decide_eq_false _ (Classical.propDecidable _) h
def plF (S : Nat → Sl) (root : ByteArray) : Nat → Nat → Option Nat
 | 0, _ => none
 | f + 1, k => if (S k).r = root then some k else plF S root f (k + 1)
def plc (S : Nat → Sl) (root : ByteArray) (n : Nat) : Option Nat := plF S root n 0
theorem plF_some {S : Nat → Sl} {root : ByteArray} : ∀ {f k x : Nat}, plF S root f k = some x → k ≤ x ∧ x < k + f ∧ (S x).r = root ∧ ∀ i, k ≤ i → i < x → (S i).r ≠ root
 | 0, _, _, h => by cases h
 | f + 1, k, x, h => by
  unfold plF at h
  by_cases e : (S k).r = root
  ·rw [if_pos e] at h
   cases h
   exact ⟨Nat.le_refl _, by omega, e, fun i h1 h2 => by omega⟩
  ·rw [if_neg e] at h
   obtain ⟨h1, h2, h3, h4⟩ := plF_some h
   refine ⟨by omega, by omega, h3, fun i hi hx => ?_⟩
   by_cases ei : i = k
   ·rw [ei]; exact e
   ·exact h4 i (by omega) hx
def plX (S : Nat → Sl) (root : ByteArray) (n : Nat) : Int := match plc S root n with
 | some x => (x : Int)
 | none => -1
def eqR (s root : ByteArray) : Bool := decide (s = root)
theorem eqR_yes {s root : ByteArray} (h : s = root) : eqR s root = true := decide_eq_true h
theorem eqR_no {s root : ByteArray} (h : s ≠ root) : eqR s root = false := decide_eq_false h
theorem placeFn_any (s : Sl) (v6 v11 v12 : Value) (R : Nat) (root : ByteArray) (w : World) (hR : w.cell? ⟨R, 0, none⟩ = some (.string root)) :
  Calls Tryz.prog 102 #[slV s v6 v11 v12, .pointer (some ⟨R, 0, none⟩)] w fun e w' => e = .returned (.bool (eqR s.r root)) ∧ Below w.heap.size w w' := by
 have lR := block_lt_of_cell hR
 have KB : Hid (Below w.heap.size w (w.alloc (.cells (slC s v6 v11 v12) 65))) := (Below.refl _ _).alloc (Nat.le_refl _) _
 by_cases h : s.r = root
 ·rw [eqR_yes h]
  have hb : (s.r.toList == root.toList) = true := by rw [h]; simp
  go_enter Tryz.func102, Tryz.ntmps102
  go_wp2
  go_ret
  exact ⟨rfl, KB.out⟩
 ·rw [eqR_no h]
  have hb := ba_ne h
  go_enter Tryz.func102, Tryz.ntmps102
  go_wp2
  go_ret
  exact ⟨rfl, KB.out⟩
theorem index_any (a : Option Addr) (n cap : Nat) (S : Nat → Sl) (R : Nat) (root : ByteArray) (w : World) (h : Rd w (slsD n S) (.slice a n cap)) (hn : n ≤ 1048576) (hR : w.cell? ⟨R, 0, none⟩ = some (.string root)) :
  Calls Tryz.prog 101 #[.slice a n cap, .func (.func 102) #[] #[.pointer (some ⟨R, 0, none⟩)]] w fun e w' => e = .returned (.int .i64 (plX S root n)) ∧ Below w.heap.size w w' := by
 have KH : Hid (Rd w (slsD n S) (.slice a n cap)) := h
 have KR : Hid (w.cell? ⟨R, 0, none⟩ = some (.string root)) := hR
 clear h hR
 go_enter Tryz.func101, Tryz.ntmps101
 go_wp2
 go_loopw [8] (fun vi wr => ∃ k : Nat, k ≤ n ∧ vi = .int .i64 (k : Int) ∧ Hid (plF S root (n - k) k = plc S root n) ∧ Below w.heap.size w wr) (fun vi _ => n - (intOf vi).toNat)
 case atStart => exact ⟨0, Nat.zero_le _, rfl, rfl, Below.refl _ _⟩
 case round =>
  obtain ⟨k, hk, rfl, HP, hbel⟩ := hrel
  by_cases hlt : k < n
  ·have hki : (k : Int) < (n : Int) := by omega
   obtain ⟨b1, f1, y1, p6, p11, p12, q6, q11, q12, rfl, hc1, e1, _, _, _⟩ := slot_row (KH.out.below hbel) hlt
   have hRr := (hbel.cell (p := ⟨R, 0, none⟩) (block_lt_of_cell KR.out)).trans KR.out
   have KC := placeFn_any (S k) (.slice p6 (S k).p.m q6) (.slice p11 (S k).ze.length q11) (.slice p12 (S k).zr.length q12) R root wr hRr
   rw [← e1] at KC
   have KF : Hid _ := KC
   obtain ⟨_, x⟩ := one_row (sz := 12) wr (Below.refl _ _) hc1
   have R1 : Hid (wr.rangeAt b1 (f1 + k * 13) [y1 0, y1 1, y1 2, y1 3, y1 4, y1 5, y1 6, y1 7, y1 8, y1 9, y1 10, y1 11, y1 12]) := range13 x
   have KB : Hid (Below w.heap.size w wr) := hbel
   have e2 : n - k = (n - (k + 1)) + 1 := by omega
   have HP' := HP.out
   rw [e2] at HP'
   unfold plF at HP'
   clear KC hc1 e1 x hbel hRr HP e2
   by_cases hr : (S k).r = root
   ·rw [if_pos hr] at HP'
    have HI : Hid (plX S root n = (k : Int)) := by show _ = _; unfold plX; rw [← HP']
    rw [eqR_yes hr] at KF
    clear HP' hr
    go_wp2_with (refine wpList_load_mid (by rfl) 65 _ (by rfl) b1 (f1 + k * 13) (by rfl) [y1 0, y1 1, y1 2, y1 3, y1 4, y1 5, y1 6, y1 7, y1 8, y1 9, y1 10, y1 11, y1 12] _ ?_ Tryz.underlying65 (by rfl) Tryz.infoSl ?_; exact R1.out)
    refine Calls.mono KF.out ?_
    rintro e w1 ⟨rfl, b1'⟩
    have KB1 : Hid (Below w.heap.size w w1) := below2 KB.out b1'
    clear b1'
    go_wp2
    go_ret
    exact ⟨ret_int HI.out.symm, KB1.out⟩
   ·rw [if_neg hr] at HP'
    have HP2 : Hid (plF S root (n - (k + 1)) (k + 1) = plc S root n) := HP'
    rw [eqR_no hr] at KF
    clear HP' hr
    go_wp2_with (refine wpList_load_mid (by rfl) 65 _ (by rfl) b1 (f1 + k * 13) (by rfl) [y1 0, y1 1, y1 2, y1 3, y1 4, y1 5, y1 6, y1 7, y1 8, y1 9, y1 10, y1 11, y1 12] _ ?_ Tryz.underlying65 (by rfl) Tryz.infoSl ?_; exact R1.out)
    refine Calls.mono KF.out ?_
    rintro e w1 ⟨rfl, b1'⟩
    have KB1 : Hid (Below w.heap.size w w1) := below2 KB.out b1'
    clear b1' KF R1
    go_wp2
    go_roundw
    case rel => exact ⟨k + 1, by omega, by go_num, HP2, KB1.out⟩
    case measure => simp [intOf]; omega
  ·obtain rfl : k = n := by omega
   have HI : Hid (plX S root k = -1) := by
    have := HP.out
    rw [Nat.sub_self] at this
    show _ = _
    unfold plX
    rw [← this]
    rfl
   go_wp2
   go_ret
   exact ⟨ret_int HI.out.symm, hbel⟩
theorem placeOf_any (id f : Int) (a : Option Addr) (n cap : Nat) (S : Nat → Sl) (root : ByteArray) (w : World) (h : Rd w (slsD n S) (.slice a n cap)) (hn : n ≤ 1048576) :
  Calls Tryz.prog 69 #[ndV id f (.slice a n cap), .string root] w fun e w' => e = .returned (.int .i64 (plX S root n)) ∧ Below w.heap.size w w' := by
 have hmf : ∀ (fn : Fn) (first cap : Array Value) (w : World), (Instr.makeFunc fn first cap).run Tryz.prog w = .ok (.func fn first cap) w := fun _ _ _ _ => rfl
 obtain ⟨R, HR⟩ : ∃ x, Hid (x = w.heap.size + 1) := ⟨_, rfl⟩
 obtain ⟨w0, HW0⟩ : ∃ x, Hid (x = (w.alloc (.cells #[.int .i64 id, .int .i64 f, .slice a n cap] 37)).alloc (.cells #[.string root] 9)) := ⟨_, rfl⟩
 have hb0 : Below w.heap.size w w0 := by rw [HW0.out]; exact ((Below.refl _ _).alloc (Nat.le_refl _) _).alloc (by simp) _
 have KB0 : Hid (Below w.heap.size w w0) := hb0
 have hc : w0.cell? ⟨R, 0, none⟩ = some (.string root) := by rw [HW0.out, HR.out]; simp
 have KI : Hid _ := index_any a n cap S R root w0 (h.below hb0) hn hc
 clear h hb0 hc
 go_enter Tryz.func69, Tryz.ntmps69
 go_wp2_with fail
 rw [← HW0.out, ← HR.out]
 refine Calls.mono KI.out ?_
 rintro e w1 ⟨rfl, b1⟩
 go_wp2
 go_ret
 exact ⟨rfl, below2 KB0.out b1⟩
theorem ow_ints {w : World} {B : Nat} {a : Option Addr} {cap : Nat} {zs : List Int} {F : Nat → Prop} (h : w.ownsRow B 3 1 (.slice a zs.length cap) zs.length (zs.map (Value.int .i64))) (hF : ∀ x, a = some x → F x.block) : Ow w B (inD zs) (.slice a zs.length cap) F := by
 refine ⟨a, cap, fun i _ => .int .i64 (zs.getD i 0), fun _ _ _ => False, rfl, ?_, ⟨hF, fun _ _ _ _ _ h => h.elim, fun _ _ _ _ _ _ h => h, fun _ _ _ _ _ _ _ _ _ h => h.elim⟩, fun _ _ _ _ => rfl⟩
 have : cL 1 (fun i _ => Value.int .i64 (zs.getD i 0)) zs.length = zs.map (Value.int .i64) := by
  apply List.ext_getElem?
  intro i
  by_cases hi : i < zs.length
  ·have := cL_get 1 (fun i _ => Value.int .i64 (zs.getD i 0)) zs.length i 0 hi (by omega)
   rw [Nat.mul_one, Nat.add_zero] at this
   rw [this]
   simp [hi]
  ·rw [List.getElem?_eq_none (by rw [cL_len]; omega), List.getElem?_eq_none (by simp; omega)]
 rw [this]
 exact h
theorem ints_ow {w : World} {B : Nat} {v : Value} {zs : List Int} {F : Nat → Prop} (h : Ow w B (inD zs) v F) : ∃ a cap, v = .slice a zs.length cap ∧ w.ownsRow B 3 1 (.slice a zs.length cap) zs.length (zs.map (Value.int .i64)) ∧ ∀ x, a = some x → F x.block := by
 obtain ⟨a, cap, c, G, e, ho, hs, hr⟩ := h
 refine ⟨a, cap, e, ?_, hs.head⟩
 have : cL 1 c zs.length = zs.map (Value.int .i64) := by
  apply List.ext_getElem?
  intro i
  by_cases hi : i < zs.length
  ·have := cL_get 1 c zs.length i 0 hi (by omega)
   rw [Nat.mul_one, Nat.add_zero] at this
   rw [this]
   have h2 : c i 0 = .int .i64 (zs.getD i 0) := hr i 0 hi (by omega)
   rw [h2]
   simp [hi]
  ·rw [List.getElem?_eq_none (by rw [cL_len]; omega), List.getElem?_eq_none (by simp; omega)]
 rw [← this]
 exact ho
theorem grown_row (w : World) (g : Nat) (cs : Array Value) : w.grownBy (w.setRow g cs) (some g) := ⟨rfl, rfl, rfl, by simp, fun i _ hi => setRow_other _ _ _ _ (fun e => hi (by simp [e]))⟩
theorem PiAt.own {w : World} {g n : Nat} {P : Nat → Pc} (h : PiAt w (some ⟨g, 0, none⟩) n P) {i : Nat} (hi : i < n) : ∃ ap cp, (∀ q, q < 6 → w.cell? ⟨g, i * 6 + q, none⟩ = some (cel (P i) (.slice ap (P i).m cp) q)) ∧ TxtAt w ap (P i).m (P i).S := by
 obtain ⟨b, off, ap, cp, e, hc, ht⟩ := h i hi
 cases e
 exact ⟨ap, cp, fun q hq => by have := hc q hq; rwa [Nat.zero_add] at this, ht⟩
theorem ints_news {w : World} {b off n : Nat} {zs : List Int} (h : IntsAt w (some ⟨b, off, none⟩) n zs) : ∀ (j : Nat) (u : Value), (zs.map (Value.int .i64))[j]? = some u → w.cell? ((⟨b, off, none⟩ : Addr).add j) = some u := fun j u hu => by
 have hj : j < zs.length := by
  have := (List.getElem?_eq_some_iff.1 hu).1
  simpa using this
 obtain ⟨b', off', e, hc⟩ := h.2 j (by rw [← h.1]; exact hj)
 cases e
 have ea : (⟨b, off, none⟩ : Addr).add j = ⟨b, off + j, none⟩ := by unfold Addr.add; split <;> simp_all
 rw [ea, hc, ← hu]
 simp [hj]
theorem ints_spot {w : World} {a : Addr} {n : Nat} {zs : List Int} (h : IntsAt w (some a) n zs) (hn : 0 < n) : a = ⟨a.block, a.off, none⟩ := by
 obtain ⟨b, off, e, _⟩ := h.2 0 hn
 cases e
 rfl
theorem slice_none (n c : Nat) (w : World) : Sem.run Tryz.prog (binOp BinOp.eql 45 (.slice none n c) (.slice none 0 0)) w = .ok (.bool true) w := by rfl
theorem slice_some (x : Addr) (n c : Nat) (w : World) : Sem.run Tryz.prog (binOp BinOp.eql 45 (.slice (some x) n c) (.slice none 0 0)) w = .ok (.bool false) w := by rfl
theorem cloneI_any (a : Option Addr) (cap : Nat) (zs : List Int) (w : World) (h : IntsAt w a zs.length zs) (hn : zs.length ≤ 1048576) :
  Calls Tryz.prog 105 #[.slice a zs.length cap] w fun e w' => ∃ a' c', e = .returned (.slice a' zs.length c') ∧ Ow w' w.heap.size (inD zs) (.slice a' zs.length c') (rng w.heap.size w'.heap.size) ∧ Below w.heap.size w w' := by
 obtain ⟨i0, hi, hz0, hz1, hz2⟩ : ∃ i0, Tryz.prog.info? 3 = some i0 ∧ i0.zero = some (.int .i64 0) ∧ i0.size = 1 ∧ i0.bytes = 8 := ⟨_, rfl, rfl, rfl, rfl⟩
 obtain ⟨n, HN⟩ : ∃ x, Hid (zs.length = x) := ⟨_, rfl⟩
 rw [HN.out] at h hn ⊢
 match a, h with
 | none, h =>
  have e0 : n = 0 := by
   by_cases h0 : n = 0
   ·exact h0
   ·obtain ⟨b, off, e, _⟩ := h.2 0 (by omega)
    cases e
  subst e0
  have ez : zs = [] := List.length_eq_zero_iff.1 HN.out
  subst ez
  have hsn := slice_none
  go_enter Tryz.func105, Tryz.ntmps105
  go_wp2
  go_ret
  exact ⟨none, 0, rfl, ow_ints (zs := []) (World.ownsRow_nil _ _ _ _) (fun x e => by cases e), Below.refl _ _⟩
 | some ad, h =>
  obtain ⟨b, off, sp⟩ := ad
  have HNW : Hid (∀ (j : Nat) (u : Value), (zs.map (Value.int .i64))[j]? = some u → w.cell? ((⟨b, off, sp⟩ : Addr).add j) = some u) := fun j u hu => by
   have hj : 0 < n := by
    have := (List.getElem?_eq_some_iff.1 hu).1
    have := HN.out
    simp at *
    omega
   have e := ints_spot h hj
   simp at e
   subst e
   exact ints_news h j u hu
  have HLL : Hid ((zs.map (Value.int .i64)).length = n * 1) := by show _ = _; simp [HN.out]
  have HO : Hid ((w.alloc (.cells #[] 3)).ownsRow w.heap.size 3 1 (.slice (some ⟨w.heap.size, 0, none⟩) 0 0) 0 []) := by
   have := World.ownsRow_lit (e := 3) (size := 1) (base := w.heap.size) w #[] 0 (by simp) (by unfold maxLen; omega) (by simp)
   exact this
  have HNA : Hid (∀ (j : Nat) (u : Value), (zs.map (Value.int .i64))[j]? = some u → (w.alloc (.cells #[] 3)).cell? ((⟨b, off, sp⟩ : Addr).add j) = some u) := fun j u hu => by
   have := HNW.out j u hu
   rw [((Below.refl w.heap.size w).alloc (Nat.le_refl _) _).cell (block_lt_of_cell this)]
   exact this
  have HB0 : Hid (Below w.heap.size w (w.alloc (.cells #[] 3))) := (Below.refl _ _).alloc (Nat.le_refl _) _
  clear h
  have hss := slice_some
  go_enter Tryz.func105, Tryz.ntmps105
  go_wp2_with (at_builtin; refine wpList_append_all _ (by rfl) _ _ 45 (by rfl) w.heap.size 3 i0 (.int .i64 0) 1 8 Tryz.underlying45 hi hz0 hz1 hz2 rfl (by decide) w.heap.size 0 0 [] (by rfl) ?_ ⟨b, off, sp⟩ n cap (zs.map (Value.int .i64)) (by rfl) ?_ ?_ (by simp [Value.oneCell']) (by unfold maxLen; omega) (by omega) (by simp) ?_; exact HO.out; exact HLL.out; exact HNA.out; intro g3 cap3 w3 hown3 hgrow3)
  have HB3 : Hid (Below w.heap.size w w3) := HB0.out.grown hgrow3 (by simp) (fun x hx => by cases hx; exact Nat.le_refl _)
  have HO3 : Hid (w3.ownsRow w.heap.size 3 1 (.slice (some ⟨g3, 0, none⟩) zs.length cap3) zs.length (zs.map (Value.int .i64))) := by
   show World.ownsRow _ _ _ _ _ _ _
   rw [HN.out]
   simpa using hown3
  have lg := World.ownsRow.lt HO3.out g3 rfl
  clear hown3 hgrow3
  go_wp2
  go_ret
  refine ⟨some ⟨g3, 0, none⟩, cap3, by simp, ?_, HB3.out⟩
  have := ow_ints HO3.out (F := rng w.heap.size w3.heap.size) (fun x e => by cases e; exact lg)
  rw [HN.out] at this
  exact this
def slZ : Sl := ⟨ByteArray.empty, ⟨ByteArray.empty, 0, 0, 0, ByteArray.empty, 0, fun _ => ByteArray.empty⟩, false, false, false, false, [], []⟩
def zcS : List Value := [.string ByteArray.empty, .string ByteArray.empty, .int .i64 0, .int .i64 0, .int .i64 0, .string ByteArray.empty, .slice none 0 0, .bool false, .bool false, .bool false, .bool false, .slice none 0 0, .slice none 0 0]
theorem Tryz.infoSlZ : (Tryz.prog.info? 65).map (fun i => (i.zero, i.size, i.bytes)) = some (some (.agg zcS.toArray), 13, 152) := by kernel_rfl
def H3 (g6 g11 g12 q x : Nat) : Prop := (q = 6 ∧ x = g6) ∨ (q = 11 ∧ x = g11) ∨ (q = 12 ∧ x = g12)
theorem own_blkF {w w' : World} {B e s n l c : Nat} {a : Option Addr} {xs : List Value} (h : w.ownsRow B e s (.slice a l c) n xs) (hg : ∀ x, a = some x → B ≤ x.block → x.block < w.heap.size → w'.heap[x.block]? = w.heap[x.block]?) : w'.ownsRow B e s (.slice a l c) n xs := by
 refine ⟨h.1, ?_⟩
 rcases h.2 with k | ⟨g', cap', cur, e', h1, h2, h3⟩
 ·exact .inl k
 ·cases e'
  exact .inr ⟨g', _, cur, rfl, h1, (hg _ rfl h1 (Array.getElem?_eq_some_iff.1 h2).1).trans h2, h3⟩
end Go.Proofs.YtaenoiffamgcfaaGreatDoor
