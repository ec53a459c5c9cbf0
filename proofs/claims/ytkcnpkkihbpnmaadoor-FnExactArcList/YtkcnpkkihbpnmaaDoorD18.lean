/- A piece that checks by itself, in the program and in its model: what each answers. Conditions: a proof of at most 2^20 texts; texts that a machine holds. -/
import Derived.Test.YtkcnpkkihbpnmaaDoorD14
import Derived.Test.YtkcnpkkihbpnmaaDoorD16
import Derived.Test.YtkcnpkkihbpnmaaDoorD10
import Derived.Test.YtkcnpkkihbpnmaaDoorD12
import Derived.Test.YtkcnpkkihbpnmaaDoorD15
import Derived.Test.YtkcnpkkihbpnmaaDoorD6
import Derived.Deep.RegionHeld3
import Derived.BigQuiet
namespace Go.Proofs.YtkcnpkkihbpnmaaDoor
set_option maxRecDepth 2000
open Go.ChangeShapes Go.WideShapes Go.ChangeAt Go.RowKit

def kOk (k n : Int) (b : ByteArray) : Prop := 1 ≤ k ∧ k ≤ n ∧ n ≤ 16 ∧ 1 ≤ b.size ∧ b.size ≤ 2002
instance (k n : Int) (b : ByteArray) : Decidable (kOk k n b) := by unfold kOk; exact inferInstance
end Go.Proofs.YtkcnpkkihbpnmaaDoor
/- One piece of a cutting, in the program. Conditions: at most 64 bodies; a place among them. -/
namespace Go.Proofs.YtkcnpkkihbpnmaaDoor
set_option maxRecDepth 2000
open Go.ChangeShapes Go.WideShapes Go.ChangeAt Go.RowKit

end Go.Proofs.YtkcnpkkihbpnmaaDoor
/- Pieces in memory: a list of pieces that is ours, and one that is read. No condition but what each says. -/
namespace Go.Proofs.YtkcnpkkihbpnmaaDoor
set_option maxRecDepth 2000
open Go.ChangeShapes Go.WideShapes Go.ChangeAt Go.RowKit

/-- A piece by plain values: its proof has m texts S. -/
structure Pc where
  r : ByteArray
  k : Int
  n : Int
  i : Int
  b : ByteArray
  m : Nat
  S : Nat → ByteArray
end Go.Proofs.YtkcnpkkihbpnmaaDoor
/- Slots, nodes and sayings by plain values, and as the machine holds them. Definitions and lemmas; no walk. -/
namespace Go.Proofs.YtkcnpkkihbpnmaaDoor
set_option maxRecDepth 2000
open Go.ChangeShapes Go.WideShapes Go.ChangeAt Go.RowKit

/-- A slot by plain values. -/
structure Sl where
  r : ByteArray
  p : Pc
  h : Bool
  e : Bool
  d : Bool
  o : Bool
  ze : List Int
  zr : List Int
def slD (s : Sl) : Nat → Dt
  | 0 => .val (.string s.r)
  | 1 => .val (.string s.p.r)
  | 2 => .val (.int .i64 s.p.k)
  | 3 => .val (.int .i64 s.p.n)
  | 4 => .val (.int .i64 s.p.i)
  | 5 => .val (.string s.p.b)
  | 6 => txD s.p.m s.p.S
  | 7 => .val (.bool s.h)
  | 8 => .val (.bool s.e)
  | 9 => .val (.bool s.d)
  | 10 => .val (.bool s.o)
  | 11 => inD s.ze
  | _ => inD s.zr
abbrev slC (s : Sl) (v6 v11 v12 : Value) : Array Value := #[.string s.r, .string s.p.r, .int .i64 s.p.k, .int .i64 s.p.n, .int .i64 s.p.i, .string s.p.b, v6, .bool s.h, .bool s.e, .bool s.d, .bool s.o, v11, v12]
abbrev slV (s : Sl) (v6 v11 v12 : Value) : Value := .agg (slC s v6 v11 v12)
/-- A saying by plain values. -/
structure Sy where
  k : Int
  f : Int
  t : Int
  r : ByteArray
  p : Pc
def syD (s : Sy) : Nat → Dt
  | 0 => .val (.int .i64 s.k)
  | 1 => .val (.int .i64 s.f)
  | 2 => .val (.int .i64 s.t)
  | 3 => .val (.string s.r)
  | 4 => .val (.string s.p.r)
  | 5 => .val (.int .i64 s.p.k)
  | 6 => .val (.int .i64 s.p.n)
  | 7 => .val (.int .i64 s.p.i)
  | 8 => .val (.string s.p.b)
  | _ => txD s.p.m s.p.S
abbrev syC (s : Sy) (v : Value) : Array Value := #[.int .i64 s.k, .int .i64 s.f, .int .i64 s.t, .string s.r, .string s.p.r, .int .i64 s.p.k, .int .i64 s.p.n, .int .i64 s.p.i, .string s.p.b, v]
abbrev syV (s : Sy) (v : Value) : Value := .agg (syC s v)
/-- A struct's value by its cells. -/
abbrev ag13 (y : Nat → Value) : Value := .agg #[y 0, y 1, y 2, y 3, y 4, y 5, y 6, y 7, y 8, y 9, y 10, y 11, y 12]
abbrev ag10 (y : Nat → Value) : Value := .agg #[y 0, y 1, y 2, y 3, y 4, y 5, y 6, y 7, y 8, y 9]
/-- Lists of slots and of sayings. -/
def slsD (n : Nat) (S : Nat → Sl) : Dt := .lst 126 13 n fun i => slD (S i)
def sysD (n : Nat) (S : Nat → Sy) : Dt := .lst 102 10 n fun i => syD (S i)
/-- A slot that is read, with its cells. -/
theorem slot_row {w : World} {n : Nat} {S : Nat → Sl} {a : Option Addr} {cap : Nat} (h : Rd w (slsD n S) (.slice a n cap)) {i : Nat} (hi : i < n) :
    ∃ (b off : Nat) (y : Nat → Value) (a6 a11 a12 : Option Addr) (c6 c11 c12 : Nat), a = some ⟨b, off, none⟩ ∧ (∀ q, q < 13 → w.cell? ⟨b, off + (i * 13 + q), none⟩ = some (y q)) ∧ ag13 y = slV (S i) (.slice a6 (S i).p.m c6) (.slice a11 (S i).ze.length c11) (.slice a12 (S i).zr.length c12) ∧ TxtAt w a6 (S i).p.m (S i).p.S ∧ IntsAt w a11 (S i).ze.length (S i).ze ∧ IntsAt w a12 (S i).zr.length (S i).zr := by
  obtain ⟨b, off, y, ea, hc, hr⟩ := h.row hi
  obtain ⟨a6, c6, e6⟩ := (hr 6 (by omega)).shape
  have r6 : Rd w (txD (S i).p.m (S i).p.S) (y 6) := hr 6 (by omega)
  rw [e6] at r6
  obtain ⟨a11, c11, e11⟩ := (hr 11 (by omega)).shape
  have r11 : Rd w (inD (S i).ze) (y 11) := hr 11 (by omega)
  rw [e11] at r11
  obtain ⟨a12, c12, e12⟩ := (hr 12 (by omega)).shape
  have r12 : Rd w (inD (S i).zr) (y 12) := hr 12 (by omega)
  rw [e12] at r12
  have g0 := hr 0 (by omega)
  have g1 := hr 1 (by omega)
  have g2 := hr 2 (by omega)
  have g3 := hr 3 (by omega)
  have g4 := hr 4 (by omega)
  have g5 := hr 5 (by omega)
  have g7 := hr 7 (by omega)
  have g8 := hr 8 (by omega)
  have g9 := hr 9 (by omega)
  have g10 := hr 10 (by omega)
  simp only [Rd, slD] at g0 g1 g2 g3 g4 g5 g7 g8 g9 g10
  exact ⟨b, off, y, a6, a11, a12, c6, c11, c12, ea, hc, by simp only [ag13, slV, slC, g0, g1, g2, g3, g4, g5, g7, g8, g9, g10, e6, e11, e12], rd_txt.1 r6, rd_ints.1 r11, rd_ints.1 r12⟩
/-- A saying that is read, with its cells. -/
theorem say_row {w : World} {n : Nat} {S : Nat → Sy} {a : Option Addr} {cap : Nat} (h : Rd w (sysD n S) (.slice a n cap)) {i : Nat} (hi : i < n) :
    ∃ (b off : Nat) (y : Nat → Value) (a9 : Option Addr) (c9 : Nat), a = some ⟨b, off, none⟩ ∧ (∀ q, q < 10 → w.cell? ⟨b, off + (i * 10 + q), none⟩ = some (y q)) ∧ ag10 y = syV (S i) (.slice a9 (S i).p.m c9) ∧ TxtAt w a9 (S i).p.m (S i).p.S := by
  obtain ⟨b, off, y, ea, hc, hr⟩ := h.row hi
  obtain ⟨a9, c9, e9⟩ := (hr 9 (by omega)).shape
  have r9 : Rd w (txD (S i).p.m (S i).p.S) (y 9) := hr 9 (by omega)
  rw [e9] at r9
  have g0 := hr 0 (by omega)
  have g1 := hr 1 (by omega)
  have g2 := hr 2 (by omega)
  have g3 := hr 3 (by omega)
  have g4 := hr 4 (by omega)
  have g5 := hr 5 (by omega)
  have g6 := hr 6 (by omega)
  have g7 := hr 7 (by omega)
  have g8 := hr 8 (by omega)
  simp only [Rd, syD] at g0 g1 g2 g3 g4 g5 g6 g7 g8
  exact ⟨b, off, y, a9, c9, ea, hc, by simp only [ag10, syV, syC, g0, g1, g2, g3, g4, g5, g6, g7, g8, e9], rd_txt.1 r9⟩
theorem range13 {w : World} {b o : Nat} {y : Nat → Value} (h : ∀ q, q < 13 → w.cell? ⟨b, o + q, none⟩ = some (y q)) : w.rangeAt b o [y 0, y 1, y 2, y 3, y 4, y 5, y 6, y 7, y 8, y 9, y 10, y 11, y 12] := fun j v hv => by
  have hj : j < 13 := (List.getElem?_eq_some_iff.1 hv).1
  rw [h j hj, ← hv]
  match j, hj with
  | 0, _ | 1, _ | 2, _ | 3, _ | 4, _ | 5, _ | 6, _ | 7, _ | 8, _ | 9, _ | 10, _ | 11, _ | 12, _ => rfl
theorem range10 {w : World} {b o : Nat} {y : Nat → Value} (h : ∀ q, q < 10 → w.cell? ⟨b, o + q, none⟩ = some (y q)) : w.rangeAt b o [y 0, y 1, y 2, y 3, y 4, y 5, y 6, y 7, y 8, y 9] := fun j v hv => by
  have hj : j < 10 := (List.getElem?_eq_some_iff.1 hv).1
  rw [h j hj, ← hv]
  match j, hj with
  | 0, _ | 1, _ | 2, _ | 3, _ | 4, _ | 5, _ | 6, _ | 7, _ | 8, _ | 9, _ => rfl
theorem Tryd.infoSl : (Tryd.prog.info? 126).map (·.size) = some 13 := by kernel_rfl
theorem Tryd.infoNd : (Tryd.prog.info? 98).map (·.size) = some 3 := by kernel_rfl
end Go.Proofs.YtkcnpkkihbpnmaaDoor
/- Slots, lists of slots and nodes, compared by the exact laws: equal ones. Conditions: no list is longer than 2^20. -/
namespace Go.Proofs.YtkcnpkkihbpnmaaDoor
set_option maxRecDepth 2000
open Go.ChangeShapes Go.WideShapes Go.ChangeAt Go.RowKit

/-- The lists of a slot are of a size that the laws bear. -/
def SlS (s : Sl) : Prop := s.p.m ≤ 1048576 ∧ s.ze.length ≤ 1048576 ∧ s.zr.length ≤ 1048576
set_option maxHeartbeats 4000000 in
theorem eqSl_same (s : Sl) (a6 b6 a11 b11 a12 b12 : Option Addr) (c6 d6 c11 d11 c12 d12 : Nat) (w : World) (h6 : TxtAt w a6 s.p.m s.p.S) (k6 : TxtAt w b6 s.p.m s.p.S) (h11 : IntsAt w a11 s.ze.length s.ze) (k11 : IntsAt w b11 s.ze.length s.ze) (h12 : IntsAt w a12 s.zr.length s.zr) (k12 : IntsAt w b12 s.zr.length s.zr) (hs : SlS s) :
    Calls Tryd.prog 67 #[slV s (.slice a6 s.p.m c6) (.slice a11 s.ze.length c11) (.slice a12 s.zr.length c12), slV s (.slice b6 s.p.m d6) (.slice b11 s.ze.length d11) (.slice b12 s.zr.length d12)] w fun e w' => e = .returned (.bool true) ∧ Below w.heap.size w w' := by
  obtain ⟨r, p, fh, fe, fd, fo, ze, zr⟩ := s
  obtain ⟨rr, kk, nn, ii, bb, m, S⟩ := p
  obtain ⟨hm, he, hz⟩ := hs
  simp only at h6 k6 h11 k11 h12 k12 hm he hz
  obtain ⟨A, HA⟩ : ∃ x, Hid (x = w.heap.size) := ⟨_, rfl⟩
  obtain ⟨B, HB⟩ : ∃ x, Hid (x = w.heap.size + 1) := ⟨_, rfl⟩
  obtain ⟨w0, HW0⟩ : ∃ x, Hid (x = (w.alloc (.cells (slC ⟨r, ⟨rr, kk, nn, ii, bb, m, S⟩, fh, fe, fd, fo, ze, zr⟩ (.slice a6 m c6) (.slice a11 ze.length c11) (.slice a12 zr.length c12)) 126)).alloc (.cells (slC ⟨r, ⟨rr, kk, nn, ii, bb, m, S⟩, fh, fe, fd, fo, ze, zr⟩ (.slice b6 m d6) (.slice b11 ze.length d11) (.slice b12 zr.length d12)) 126)) := ⟨_, rfl⟩
  have RA : Hid (Row w0 A 126 (slC ⟨r, ⟨rr, kk, nn, ii, bb, m, S⟩, fh, fe, fd, fo, ze, zr⟩ (.slice a6 m c6) (.slice a11 ze.length c11) (.slice a12 zr.length c12))) := by
    show Row _ _ _ _
    rw [HW0.out, HA.out]
    exact Row.alloc (Row.new w _ _) _
  have RB : Hid (Row w0 B 126 (slC ⟨r, ⟨rr, kk, nn, ii, bb, m, S⟩, fh, fe, fd, fo, ze, zr⟩ (.slice b6 m d6) (.slice b11 ze.length d11) (.slice b12 zr.length d12))) := by
    show Row _ _ _ _
    rw [HW0.out, HB.out]
    have := Row.new (w.alloc (.cells (slC ⟨r, ⟨rr, kk, nn, ii, bb, m, S⟩, fh, fe, fd, fo, ze, zr⟩ (.slice a6 m c6) (.slice a11 ze.length c11) (.slice a12 zr.length c12)) 126)) (slC ⟨r, ⟨rr, kk, nn, ii, bb, m, S⟩, fh, fe, fd, fo, ze, zr⟩ (.slice b6 m d6) (.slice b11 ze.length d11) (.slice b12 zr.length d12)) 126
    simpa using this
  have hb0 : Below w.heap.size w w0 := by rw [HW0.out]; exact ((Below.refl _ _).alloc (Nat.le_refl _) _).alloc (by simp) _
  have KB0 : Hid (Below w.heap.size w w0) := hb0
  have KP : Hid _ := eqPc_same rr kk nn ii bb a6 b6 m c6 d6 S w0 (h6.below hb0) (k6.below hb0) hm
  have KE : Hid (∀ W, Below w0.heap.size w0 W → Calls Tryd.prog 36 #[.slice a11 ze.length c11, .slice b11 ze.length d11] W fun e w' => e = .returned (.bool true) ∧ Below W.heap.size W w') := fun W hW => eqIntS_same a11 b11 ze.length c11 d11 ze W ((h11.below hb0).below hW) ((k11.below hb0).below hW) he
  have KZ : Hid (∀ W, Below w0.heap.size w0 W → Calls Tryd.prog 36 #[.slice a12 zr.length c12, .slice b12 zr.length d12] W fun e w' => e = .returned (.bool true) ∧ Below W.heap.size W w') := fun W hW => eqIntS_same a12 b12 zr.length c12 d12 zr W ((h12.below hb0).below hW) ((k12.below hb0).below hW) hz
  generalize ze.length = le at *
  generalize zr.length = lr at *
  have f0 : (r.toList != r.toList) = false := by simp
  have f0' := ba_beq r
  have f1 : (fh != fh) = false := by simp
  have f2 : (fe != fe) = false := by simp
  have f3 : (fd != fd) = false := by simp
  have f4 : (fo != fo) = false := by simp
  clear h6 k6 h11 k11 h12 k12 hm he hz hb0
  go_enter Tryd.func67, Tryd.ntmps67
  go_wp2_with fail
  rw [← HW0.out, ← HB.out, ← HA.out]
  refine Calls.mono KP.out ?_
  rintro e w1 ⟨rfl, b1⟩
  have RA1 := RA.out.below b1 RA.out.lt
  have RB1 := RB.out.below b1 RB.out.lt
  have x7 := RA1.cell 7
  have x8 := RA1.cell 8
  have x9 := RA1.cell 9
  have x10 := RA1.cell 10
  have x11 := RA1.cell 11
  have y7 := RB1.cell 7
  have y8 := RB1.cell 8
  have y9 := RB1.cell 9
  have y10 := RB1.cell 10
  have y11 := RB1.cell 11
  simp at x7 x8 x9 x10 x11 y7 y8 y9 y10 y11
  have B1 : Hid (Below w0.heap.size w0 w1) := b1
  have HA1 : Hid (Row w1 A 126 _ ∧ Row w1 B 126 _) := ⟨RA1, RB1⟩
  clear RA RB RA1 RB1 b1 KP
  go_wp2_with fail
  refine Calls.mono (KE.out _ B1.out) ?_
  rintro e w2 ⟨rfl, b2⟩
  have RA2 := HA1.out.1.below b2 HA1.out.1.lt
  have RB2 := HA1.out.2.below b2 HA1.out.2.lt
  have B2 : Hid (Below w0.heap.size w0 w2) := below2 B1.out b2
  have z12 := RA2.cell 12
  have u12 := RB2.cell 12
  simp at z12 u12
  clear x7 x8 x9 x10 x11 y7 y8 y9 y10 y11 RA2 RB2 HA1 b2 KE
  go_wp2_with fail
  refine Calls.mono (KZ.out _ B2.out) ?_
  rintro e w3 ⟨rfl, b3⟩
  have B3 : Hid (Below w.heap.size w w3) := below2 KB0.out (below2 B2.out b3)
  clear b3 z12 u12
  go_wp2
  go_ret
  exact ⟨rfl, B3.out⟩

/-- The cells of one struct of each of two lists, in every world that grew out of the first. -/
theorem one_row {w : World} {b off i sz : Nat} {y : Nat → Value} (W : World) (hW : Below w.heap.size w W) (h : ∀ q, q < sz + 1 → w.cell? ⟨b, off + (i * (sz + 1) + q), none⟩ = some (y q)) :
    W.cell? ⟨b, off + i * (sz + 1), none⟩ = some (y 0) ∧ (∀ q, q < sz + 1 → W.cell? ⟨b, off + i * (sz + 1) + q, none⟩ = some (y q)) := by
  have k : ∀ q, q < sz + 1 → W.cell? ⟨b, off + i * (sz + 1) + q, none⟩ = some (y q) := fun q hq => by
    have := h q hq
    rw [← Nat.add_assoc] at this
    exact (hW.cell (p := ⟨b, off + i * (sz + 1) + q, none⟩) (block_lt_of_cell this)).trans this
  exact ⟨k 0 (by omega), k⟩
theorem two_rows {w : World} {b off b' off' i sz : Nat} {y y' : Nat → Value} (W : World) (hW : Below w.heap.size w W) (h : ∀ q, q < sz + 1 → w.cell? ⟨b, off + (i * (sz + 1) + q), none⟩ = some (y q)) (h' : ∀ q, q < sz + 1 → w.cell? ⟨b', off' + (i * (sz + 1) + q), none⟩ = some (y' q)) :
    W.cell? ⟨b, off + i * (sz + 1), none⟩ = some (y 0) ∧ (∀ q, q < sz + 1 → W.cell? ⟨b, off + i * (sz + 1) + q, none⟩ = some (y q)) ∧ W.cell? ⟨b', off' + i * (sz + 1), none⟩ = some (y' 0) ∧ (∀ q, q < sz + 1 → W.cell? ⟨b', off' + i * (sz + 1) + q, none⟩ = some (y' q)) := by
  obtain ⟨h1, h2⟩ := one_row W hW h
  obtain ⟨h3, h4⟩ := one_row W hW h'
  exact ⟨h1, h2, h3, h4⟩
set_option maxHeartbeats 4000000 in
theorem eqSls_same (a b : Option Addr) (n ca cb : Nat) (S : Nat → Sl) (w : World) (ha : Rd w (slsD n S) (.slice a n ca)) (hb : Rd w (slsD n S) (.slice b n cb)) (hn : n ≤ 1048576) (hs : ∀ i, i < n → SlS (S i)) :
    Calls Tryd.prog 56 #[.slice a n ca, .slice b n cb] w fun e w' => e = .returned (.bool true) ∧ Below w.heap.size w w' := by
  have KH : Hid (Rd w (slsD n S) (.slice a n ca) ∧ Rd w (slsD n S) (.slice b n cb)) := ⟨ha, hb⟩
  have HS : Hid (∀ i, i < n → SlS (S i)) := hs
  have hnn : ((n : Int) != (n : Int)) = false := by simp
  clear ha hb hs
  go_enter Tryd.func56, Tryd.ntmps56
  go_wp2
  go_loopw [5] (fun vi wr => ∃ c : Nat, c ≤ n ∧ vi = .int .i64 (c : Int) ∧ Below w.heap.size w wr) (fun vi _ => n - (intOf vi).toNat)
  case atStart => exact ⟨0, Nat.zero_le _, rfl, Below.refl _ _⟩
  case round =>
    obtain ⟨c, hcn, rfl, hbel⟩ := hrel
    by_cases hlt : c < n
    · have hki : (c : Int) < (n : Int) := by omega
      obtain ⟨b1, f1, y1, p6, p11, p12, q6, q11, q12, rfl, hc1, e1, ht1, he1, hz1⟩ := slot_row (KH.out.1.below hbel) hlt
      obtain ⟨b2, f2, y2, s6, s11, s12, t6, t11, t12, rfl, hc2, e2, ht2, he2, hz2⟩ := slot_row (KH.out.2.below hbel) hlt
      have hsc := HS.out c hlt
      have KT : Hid (∀ W, Below wr.heap.size wr W → Calls Tryd.prog 67 #[ag13 y1, ag13 y2] W fun e w' => e = .returned (.bool true) ∧ Below W.heap.size W w') := fun W hW => by
        rw [e1, e2]
        exact eqSl_same (S c) p6 s6 p11 s11 p12 s12 q6 t6 q11 t11 q12 t12 W (ht1.below hW) (ht2.below hW) (he1.below hW) (he2.below hW) (hz1.below hW) (hz2.below hW) hsc
      have KS : Hid (∀ W, Below wr.heap.size wr W → W.cell? ⟨b1, f1 + c * 13, none⟩ = some (y1 0) ∧ (∀ q, q < 13 → W.cell? ⟨b1, f1 + c * 13 + q, none⟩ = some (y1 q)) ∧ W.cell? ⟨b2, f2 + c * 13, none⟩ = some (y2 0) ∧ (∀ q, q < 13 → W.cell? ⟨b2, f2 + c * 13 + q, none⟩ = some (y2 q))) := fun W hW => two_rows W hW hc1 hc2
      have KB : Hid (Below w.heap.size w wr) := hbel
      have hdr := below_drew wr
      clear hc1 hc2 ht1 ht2 he1 he2 hz1 hz2 hbel e1 e2 hsc
      go_wp2_with fail
      go_region_held3 (fun w' => w'.cell? ⟨b1, f1 + c * 13, none⟩ = some (y1 0) ∧ (∀ q, q < 13 → w'.cell? ⟨b1, f1 + c * 13 + q, none⟩ = some (y1 q)) ∧ w'.cell? ⟨b2, f2 + c * 13, none⟩ = some (y2 0) ∧ (∀ q, q < 13 → w'.cell? ⟨b2, f2 + c * 13 + q, none⟩ = some (y2 q))) (exact KS.out _ (by assumption)) ((go_at_call 67; refine Calls.mono (KT.out _ hdr) ?_; rintro e w7 ⟨rfl, b7'⟩; have b7 := below_of_drew b7'; clear b7'))
      all_goals
        have HB7 : Hid (Below w.heap.size w w7) := below2 KB.out b7
        clear b7
        go_wp2
        go_roundw
        case rel => exact ⟨c + 1, by omega, by go_num, HB7.out⟩
        case measure => simp [intOf]; omega
    · go_wp2
      go_ret
      exact ⟨rfl, hbel⟩
set_option maxHeartbeats 1000000 in
theorem eqNd_same (id f : Int) (a b : Option Addr) (n ca cb : Nat) (S : Nat → Sl) (w : World) (ha : Rd w (slsD n S) (.slice a n ca)) (hb : Rd w (slsD n S) (.slice b n cb)) (hn : n ≤ 1048576) (hs : ∀ i, i < n → SlS (S i)) :
    Calls Tryd.prog 46 #[.agg #[.int .i64 id, .int .i64 f, .slice a n ca], .agg #[.int .i64 id, .int .i64 f, .slice b n cb]] w fun e w' => e = .returned (.bool true) ∧ Below w.heap.size w w' := by
  obtain ⟨w0, HW0⟩ : ∃ x, Hid (x = (w.alloc (.cells #[.int .i64 id, .int .i64 f, .slice a n ca] 98)).alloc (.cells #[.int .i64 id, .int .i64 f, .slice b n cb] 98)) := ⟨_, rfl⟩
  have hb0 : Below w.heap.size w w0 := by rw [HW0.out]; exact ((Below.refl _ _).alloc (Nat.le_refl _) _).alloc (by simp) _
  have KB0 : Hid (Below w.heap.size w w0) := hb0
  have KE : Hid _ := eqSls_same a b n ca cb S w0 (ha.below hb0) (hb.below hb0) hn hs
  have f0 : (id != id) = false := by simp
  have f1 : (f != f) = false := by simp
  clear ha hb hb0 hs
  go_enter Tryd.func46, Tryd.ntmps46
  go_wp2_with fail
  rw [← HW0.out]
  refine Calls.mono KE.out ?_
  rintro e w1 ⟨rfl, b1⟩
  go_wp2
  go_ret
  exact ⟨rfl, below2 KB0.out b1⟩
end Go.Proofs.YtkcnpkkihbpnmaaDoor
/- A new node, in the program and in the model; a node's F and number. No condition. -/
namespace Go.Proofs.YtkcnpkkihbpnmaaDoor
set_option maxRecDepth 2000
open Go.ChangeShapes Go.WideShapes Go.ChangeAt Go.RowKit

end Go.Proofs.YtkcnpkkihbpnmaaDoor
/- Lists of nodes' numbers, how far a slot is brought, and whose a piece is: in the program and in the model. Conditions: F from 1 to 3, lists of at most 2^20. -/
namespace Go.Proofs.YtkcnpkkihbpnmaaDoor
set_option maxRecDepth 2000
open Go.ChangeShapes Go.WideShapes Go.ChangeAt Go.RowKit

end Go.Proofs.YtkcnpkkihbpnmaaDoor
/- The place of a root among slots, in the program and in the model. Conditions: at most 2^20 slots. -/
namespace Go.Proofs.YtkcnpkkihbpnmaaDoor
set_option maxRecDepth 2000
open Go.ChangeShapes Go.WideShapes Go.ChangeAt Go.RowKit

end Go.Proofs.YtkcnpkkihbpnmaaDoor
/- Lists of nodes' numbers in the model. Conditions: F from 1 to 3, lists of at most 2^20. -/
namespace Go.Proofs.YtkcnpkkihbpnmaaDoor
set_option maxRecDepth 2000
open Go.ChangeShapes Go.WideShapes Go.ChangeAt Go.RowKit

end Go.Proofs.YtkcnpkkihbpnmaaDoor
