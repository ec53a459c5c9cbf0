/- Marks laid into lists of nodes and into nets, and asked for. Conditions: lists of at most 2^20. Written by mkmarkn.py. -/
import Derived.Test.YtkcnpkkihbpnmaaDoorD28
import Derived.Test.YtkcnpkkihbpnmaaDoorD25
import Derived.Test.YtkcnpkkihbpnmaaDoorD33
import Derived.Test.YtkcnpkkihbpnmaaDoorD32
namespace Go.Proofs.YtkcnpkkihbpnmaaDoor
set_option maxRecDepth 2000
open Go.ChangeShapes Go.WideShapes Go.ChangeAt Go.RowKit

/-- How many marks a node takes; a node, marked. -/
def wkN (d : Nd) : Nat := 2 + tot (fun i => wkS (d.S i)) d.n
end Go.Proofs.YtkcnpkkihbpnmaaDoor
/- Marks laid into nets, and asked for. Conditions: lists of at most 2^20, at most some nine million marks. -/
namespace Go.Proofs.YtkcnpkkihbpnmaaDoor
set_option maxRecDepth 2000
open Go.ChangeShapes Go.WideShapes Go.ChangeAt Go.RowKit

/-- A net that is ours: its three lists, no two of which share. -/
structure NtO (w : World) (B n : Nat) (N : Nat → Nd) (zs : List Int) (m : Nat) (Y : Nat → Sy) (v1 v2 v3 : Value) (F1 F2 F3 : Nat → Prop) : Prop where
  n : Ow w B (ndsD n N) v1 F1
  z : Ow w B (inD zs) v2 F2
  y : Ow w B (sysD m Y) v3 F3
  d1 : ∀ g, F1 g → ¬ F2 g
  d2 : ∀ g, F1 g → ¬ F3 g
  d3 : ∀ g, F2 g → ¬ F3 g
/-- How far the marks of a net reach. -/
def mq1 (n : Nat) (N : Nat → Nd) : Nat := 1 + tot (fun i => wkN (N i)) n
def mq2 (n : Nat) (N : Nat → Nd) (zs : List Int) : Nat := mq1 n N + zs.length
def mq3 (n : Nat) (N : Nat → Nd) (zs : List Int) (m : Nat) (Y : Nat → Sy) : Nat := ofy (mq2 n N zs) Y m
/-- What the laws' marks can bear of a net that is handed in. -/
structure NtW (n : Nat) (N : Nat → Nd) (zs : List Int) (m : Nat) (Y : Nat → Sy) : Prop where
  kn : n ≤ 1048576
  kN : ∀ i, i < n → NdS (N i)
  kz : zs.length ≤ 1048576
  km : m ≤ 1048576
  kY : ∀ i, i < m → (Y i).p.m ≤ 1048576
  kq : mq3 n N zs m Y ≤ 40000000
theorem NtO.below {w w' : World} {B n m : Nat} {N : Nat → Nd} {zs : List Int} {Y : Nat → Sy} {v1 v2 v3 : Value} {F1 F2 F3 : Nat → Prop} (h : NtO w B n N zs m Y v1 v2 v3 F1 F2 F3) (hb : Below w.heap.size w w') : NtO w' B n N zs m Y v1 v2 v3 F1 F2 F3 := ⟨h.n.below hb, h.z.below hb, h.y.below hb, h.d1, h.d2, h.d3⟩
theorem NtO.cut {w : World} {B n m : Nat} {N : Nat → Nd} {zs : List Int} {Y : Nat → Sy} {v1 v2 v3 : Value} {F1 F2 F3 : Nat → Prop} (h : NtO w B n N zs m Y v1 v2 v3 F1 F2 F3) : ∃ G1 G2 G3, NtO w B n N zs m Y v1 v2 v3 G1 G2 G3 ∧ ∀ g, G1 g ∨ G2 g ∨ G3 g → B ≤ g ∧ g < w.heap.size :=
  ⟨_, _, _, ⟨h.n.cut, h.z.cut, h.y.cut, fun g a b => h.d1 g a.1 b.1, fun g a b => h.d2 g a.1 b.1, fun g a b => h.d3 g a.1 b.1⟩, fun g hg => by rcases hg with hg | hg | hg <;> exact hg.2⟩
end Go.Proofs.YtkcnpkkihbpnmaaDoor
/- Archives: compared, marked and asked for where they have no entries and no marks. Conditions: lists of at most 2^20. -/
namespace Go.Proofs.YtkcnpkkihbpnmaaDoor
set_option maxRecDepth 2000
open Go.ChangeShapes Go.WideShapes Go.ChangeAt Go.RowKit

abbrev arV (f : Int) (v1 v2 v3 v4 v5 : Value) : Value := .agg #[.int .i64 f, v1, v2, v3, v4, v5]
theorem Tryd.infoAr : (Tryd.prog.info? 40).map (·.size) = some 6 := by kernel_rfl
theorem Row.range4 {w : World} {g : Nat} {t : TypeId} {c0 c1 c2 c3 c4 c5 : Value} (h : Row w g t #[c0, c1, c2, c3, c4, c5]) : w.rangeAt g 0 [c0, c1, c2, c3] := fun j v hv => by
  have hj : j < 4 := (List.getElem?_eq_some_iff.1 hv).1
  have hc := h.cell j
  rw [Nat.zero_add]
  match j, hj with
  | 0, _ | 1, _ | 2, _ | 3, _ => rw [hc, ← hv]; rfl
set_option maxHeartbeats 2000000 in
/-- Two archives whose parts compare as the same do so. -/
theorem eqArc_of (f : Int) (v1 v2 v3 v4 v5 u1 u2 u3 u4 u5 : Value) (w : World) (KN : ∀ W, Below w.heap.size w W → Calls Tryd.prog 21 #[ntV f v1 v2 v3, ntV f u1 u2 u3] W fun e w' => e = .returned (.bool true) ∧ Below W.heap.size W w') (KE : ∀ W, Below w.heap.size w W → Calls Tryd.prog 22 #[v4, u4] W fun e w' => e = .returned (.bool true) ∧ Below W.heap.size W w') (KM : ∀ W, Below w.heap.size w W → Calls Tryd.prog 23 #[v5, u5] W fun e w' => e = .returned (.bool true) ∧ Below W.heap.size W w') :
    Calls Tryd.prog 8 #[arV f v1 v2 v3 v4 v5, arV f u1 u2 u3 u4 u5] w fun e w' => e = .returned (.bool true) ∧ Below w.heap.size w w' := by
  obtain ⟨A, HA⟩ : ∃ x, Hid (x = w.heap.size) := ⟨_, rfl⟩
  obtain ⟨D, HD⟩ : ∃ x, Hid (x = w.heap.size + 1) := ⟨_, rfl⟩
  obtain ⟨w0, HW0⟩ : ∃ x, Hid (x = (w.alloc (.cells #[.int .i64 f, v1, v2, v3, v4, v5] 40)).alloc (.cells #[.int .i64 f, u1, u2, u3, u4, u5] 40)) := ⟨_, rfl⟩
  have RA : Hid (Row w0 A 40 #[.int .i64 f, v1, v2, v3, v4, v5]) := by show Row _ _ _ _; rw [HW0.out, HA.out]; exact Row.alloc (Row.new w _ _) _
  have RD : Hid (Row w0 D 40 #[.int .i64 f, u1, u2, u3, u4, u5]) := by
    show Row _ _ _ _
    rw [HW0.out, HD.out]
    have := Row.new (w.alloc (.cells #[.int .i64 f, v1, v2, v3, v4, v5] 40)) #[.int .i64 f, u1, u2, u3, u4, u5] 40
    simpa using this
  have hb0 : Below w.heap.size w w0 := by rw [HW0.out]; exact ((Below.refl _ _).alloc (Nat.le_refl _) _).alloc (by simp) _
  have KB0 : Hid (Below w.heap.size w w0) := hb0
  have K1 : Hid _ := KN w0 hb0
  have K2 : Hid (∀ W, Below w.heap.size w W → Calls Tryd.prog 22 #[v4, u4] W _) := KE
  have K3 : Hid (∀ W, Below w.heap.size w W → Calls Tryd.prog 23 #[v5, u5] W _) := KM
  have GA : Hid (w0.rangeAt A 0 [.int .i64 f, v1, v2, v3]) := RA.out.range4
  have GD : Hid (w0.rangeAt D 0 [.int .i64 f, u1, u2, u3]) := RD.out.range4
  clear KN KE KM hb0
  go_enter Tryd.func8, Tryd.ntmps8
  go_wp2_with (first | ((try rw [← HW0.out, ← HD.out, ← HA.out]); refine wpList_load_mid (by rfl) 36 _ (by rfl) A 0 (by rfl) [.int .i64 f, v1, v2, v3] _ ?_ Tryd.underlying36 (by rfl) Tryd.infoNt ?_; exact GA.out) | (refine wpList_load_mid (by rfl) 36 _ (by rfl) D 0 (by rfl) [.int .i64 f, u1, u2, u3] _ ?_ Tryd.underlying36 (by rfl) Tryd.infoNt ?_; exact GD.out))
  refine Calls.mono K1.out ?_
  rintro e' w1 ⟨rfl, b1⟩
  have R1 := RA.out.below b1 RA.out.lt
  have S1 := RD.out.below b1 RD.out.lt
  have x4 := R1.cell 4
  have x5 := R1.cell 5
  have y4 := S1.cell 4
  have y5 := S1.cell 5
  simp at x4 x5 y4 y5
  have KB1 : Hid (Below w.heap.size w w1) := below2 KB0.out b1
  clear b1 R1 S1
  go_wp2_with fail
  refine Calls.mono (K2.out _ KB1.out) ?_
  rintro e' w2 ⟨rfl, b2⟩
  replace x5 := (b2.cell (p := ⟨A, 5, none⟩) (block_lt_of_cell x5)).trans x5
  replace y5 := (b2.cell (p := ⟨D, 5, none⟩) (block_lt_of_cell y5)).trans y5
  have KB2 : Hid (Below w.heap.size w w2) := below2 KB1.out b2
  clear b2 x4 y4 KB1
  go_wp2_with fail
  refine Calls.mono (K3.out _ KB2.out) ?_
  rintro e' w3 ⟨rfl, b3⟩
  go_wp2
  go_ret
  exact ⟨rfl, below2 KB2.out b3⟩
end Go.Proofs.YtkcnpkkihbpnmaaDoor
/- Archives: opened, counted and copied. Conditions: lists of at most 2^20. -/
namespace Go.Proofs.YtkcnpkkihbpnmaaDoor
set_option maxRecDepth 2000
open Go.ChangeShapes Go.WideShapes Go.ChangeAt Go.RowKit

/-- What the form tells of an archive that came in. -/
structure ArcA (w : World) (a : Option Addr) (n c : Nat) (l : Option Addr) (zs : List Int) (e : Option Addr) (m g : Nat) (N : Nat → Nd) (Y : Nat → Sy) (x : Option Addr) (ne cx : Nat) (E : Nat → En) (y : Option Addr) (nm cy : Nat) (M : Nat → Ma) : Prop where
  nt : NetA w a n c l zs e m g N Y
  re : Rd w (ensD ne E) (.slice x ne cx)
  rm : Rd w (masD nm M) (.slice y nm cy)
  hne : ne ≤ maxLen
  hnm : nm ≤ maxLen
  be : ∀ i, i < ne → EnB (E i)
theorem NetA.below {w w' : World} {a : Option Addr} {n c : Nat} {l : Option Addr} {zs : List Int} {e : Option Addr} {m g : Nat} {N : Nat → Nd} {Y : Nat → Sy} (h : NetA w a n c l zs e m g N Y) (hb : Below w.heap.size w w') : NetA w' a n c l zs e m g N Y := ⟨h.rn.below hb, h.rl.below hb, h.ry.below hb, h.hn, h.hl, h.hm, h.bn, h.by'⟩
theorem ArcA.below {w w' : World} {a : Option Addr} {n c : Nat} {l : Option Addr} {zs : List Int} {e : Option Addr} {m g : Nat} {N : Nat → Nd} {Y : Nat → Sy} {x : Option Addr} {ne cx : Nat} {E : Nat → En} {y : Option Addr} {nm cy : Nat} {M : Nat → Ma} (h : ArcA w a n c l zs e m g N Y x ne cx E y nm cy M) (hb : Below w.heap.size w w') : ArcA w' a n c l zs e m g N Y x ne cx E y nm cy M := ⟨h.nt.below hb, h.re.below hb, h.rm.below hb, h.hne, h.hnm, h.be⟩
theorem list6' {α : Type} (l : List α) (h : l.length = 6) : ∃ c0 c1 c2 c3 c4 c5, l = [c0, c1, c2, c3, c4, c5] := by
  match l, h with
  | [c0, c1, c2, c3, c4, c5], _ => exact ⟨c0, c1, c2, c3, c4, c5, rfl⟩
theorem open_archive {H : Type} {enc : TypeId × Value → H} {w : World} {base : Nat} {spare : Nat → Bool} {held : Bool} {fuel : Nat} {cs : List Value} {x : DataW H × List MemPlace} (h : DataW.trod enc Tryd.prog w base spare held fuel 30 cs = some x) :
    ∃ (f : Int) (a : Option Addr) (n c : Nat) (l : Option Addr) (zs : List Int) (d : Nat) (e : Option Addr) (m g : Nat) (N : Nat → Nd) (Y : Nat → Sy) (x : Option Addr) (ne cx : Nat) (E : Nat → En) (y : Option Addr) (nm cy : Nat) (M : Nat → Ma), cs = [.int .i64 f, .slice a n c, .slice l zs.length d, .slice e m g, .slice x ne cx, .slice y nm cy] ∧ ArcA w a n c l zs e m g N Y x ne cx E y nm cy M := by
  have c6 : Tryd.prog.cellsOf 30 = 6 := by kernel_rfl
  have c4 : Tryd.prog.cellsOf 26 = 4 := by kernel_rfl
  have ce1 : Tryd.prog.cellsOf 27 = 1 := by kernel_rfl
  have cm1 : Tryd.prog.cellsOf 28 = 1 := by kernel_rfl
  obtain ⟨xs, ff, _, _, hl, hlen, hf⟩ := DataW.trod_struct Tryd.underlying30 h
  rw [c6] at hl
  obtain ⟨c0, c1, c2, c3, c4', c5, rfl⟩ := list6' cs hl
  obtain ⟨y0, y1, y2, rfl⟩ := list3' xs hlen
  have g0 := hf 0 _ rfl
  have g1 := hf 1 _ rfl
  have g2 := hf 2 _ rfl
  simp [c4, ce1, cm1] at g0 g1 g2
  obtain ⟨f, a, n, c, l, zs, d, e, m, g, N, Y, hcs, hN⟩ := open_net g0
  simp at hcs
  obtain ⟨rfl, rfl, rfl, rfl⟩ := hcs
  obtain ⟨x, ne, cx, rfl⟩ := slice_of Tryd.underlying27 g1
  obtain ⟨y, nm, cy, rfl⟩ := slice_of Tryd.underlying28 g2
  obtain ⟨E, r1, r2, r3⟩ := open_entries g1
  obtain ⟨M, s1, s2⟩ := open_marks g2
  exact ⟨f, a, n, c, l, zs, d, e, m, g, N, Y, x, ne, cx, E, y, nm, cy, M, rfl, ⟨hN, r1, s1, r2, s2, r3⟩⟩
theorem Tryd.infoArL : (Tryd.prog.info? 30).map (·.size) = some 6 := by kernel_rfl
def wtA (n : Nat) (N : Nat → Nd) (zs : List Int) (m : Nat) (Y : Nat → Sy) (ne : Nat) (E : Nat → En) (nm : Nat) : Nat := wtT n N zs m Y + wtEs ne E + nm
set_option maxHeartbeats 2000000 in
theorem szArc_any (f : Int) (a : Option Addr) (n c : Nat) (l : Option Addr) (zs : List Int) (d : Nat) (e : Option Addr) (m g : Nat) (N : Nat → Nd) (Y : Nat → Sy) (x : Option Addr) (ne cx : Nat) (E : Nat → En) (y : Option Addr) (nm cy : Nat) (M : Nat → Ma) (lf : Nat) (w : World) (h : ArcA w a n c l zs e m g N Y x ne cx E y nm cy M) (hlf : lf ≤ 1048576) :
    Calls Tryd.prog 4 #[arV f (.slice a n c) (.slice l zs.length d) (.slice e m g) (.slice x ne cx) (.slice y nm cy), .int .i64 (lf : Int)] w fun e w' => e = .returned (.int .i64 (szN lf (wtA n N zs m Y ne E nm))) ∧ Below w.heap.size w w' := by
  obtain ⟨A, HA⟩ : ∃ x, Hid (x = w.heap.size) := ⟨_, rfl⟩
  obtain ⟨v1, HV1⟩ : ∃ z, Hid (Value.slice a n c = z) := ⟨_, rfl⟩
  obtain ⟨v2, HV2⟩ : ∃ z, Hid (Value.slice l zs.length d = z) := ⟨_, rfl⟩
  obtain ⟨v3, HV3⟩ : ∃ z, Hid (Value.slice e m g = z) := ⟨_, rfl⟩
  obtain ⟨w0, HW0⟩ : ∃ z, Hid (z = w.alloc (.cells #[.int .i64 f, v1, v2, v3, .slice x ne cx, .slice y nm cy] 30)) := ⟨_, rfl⟩
  have RA : Hid (Row w0 A 30 #[.int .i64 f, v1, v2, v3, .slice x ne cx, .slice y nm cy]) := by show Row _ _ _ _; rw [HW0.out, HA.out]; exact Row.new w _ _
  have hb0 : Below w.heap.size w w0 := by rw [HW0.out]; exact (Below.refl _ _).alloc (Nat.le_refl _) _
  have KB0 : Hid (Below w.heap.size w w0) := hb0
  have K1 : Hid (Calls Tryd.prog 9 #[.agg #[.int .i64 f, v1, v2, v3], .int .i64 (lf : Int)] w0 fun e w' => e = .returned (.int .i64 (szN lf (wtT n N zs m Y))) ∧ Below w0.heap.size w0 w') := by rw [← HV1.out, ← HV2.out, ← HV3.out]; exact szNt_any f a n c l zs d e m g N Y lf w0 (h.nt.below hb0) hlf
  have K2 : Hid (∀ (q : Nat) W, q ≤ 1048576 → Below w0.heap.size w0 W → Calls Tryd.prog 10 #[.slice x ne cx, .int .i64 (q : Int)] W fun e w' => e = .returned (.int .i64 (szN q (wtEs ne E))) ∧ Below W.heap.size W w') := fun q W hq hW => szEns_any x ne cx E q W ((h.re.below hb0).below hW) hq h.hne h.be
  have K3 : Hid (∀ (q : Nat) W, q ≤ 1048576 → Calls Tryd.prog 11 #[.slice y nm cy, .int .i64 (q : Int)] W fun e w' => e = .returned (.int .i64 (szN q nm)) ∧ w' = W) := fun q W hq => szMas_any y nm cy q W hq h.hnm
  obtain ⟨x1, HX1⟩ : ∃ x, Hid (wtT n N zs m Y = x) := ⟨_, rfl⟩
  obtain ⟨x2, HX2⟩ : ∃ x, Hid (wtEs ne E = x) := ⟨_, rfl⟩
  have HWT : Hid (wtA n N zs m Y ne E nm = x1 + x2 + nm) := by show _ = _; unfold wtA; rw [HX1.out, HX2.out]
  rw [HWT.out, HV1.out, HV2.out, HV3.out]
  rw [HX1.out] at K1
  rw [HX2.out] at K2
  clear h hb0 HWT HV1 HV2 HV3
  by_cases h1 : x1 ≤ lf
  case neg =>
    rw [szN_no h1] at K1
    rw [szN_no (by omega)]
    go_enter Tryd.func4, Tryd.ntmps4
    go_wp2_with fail
    rw [← HW0.out, ← HA.out]
    refine Calls.mono K1.out ?_
    rintro e' w1 ⟨rfl, b1⟩
    go_wp2
    go_ret
    exact ⟨rfl, below2 KB0.out b1⟩
  obtain ⟨l1, HL1⟩ : ∃ q, Hid (lf - x1 = q) := ⟨_, rfl⟩
  rw [szN_yes h1, HL1.out] at K1
  have hl1 := HL1.out
  have n1 : ¬ ((l1 : Int) < 0) := by omega
  have K2' : Hid _ := fun W => K2.out l1 W (by omega)
  by_cases h2 : x2 ≤ l1
  case neg =>
    rw [szN_no (by omega)]
    simp only [szN_no h2] at K2'
    go_enter Tryd.func4, Tryd.ntmps4
    go_wp2_with fail
    rw [← HW0.out, ← HA.out]
    refine Calls.mono K1.out ?_
    rintro e' w1 ⟨rfl, b1⟩
    have R1 := RA.out.below b1 RA.out.lt
    have y4 := R1.cell 4
    simp at y4
    have KB1 : Hid (Below w0.heap.size w0 w1) := b1
    clear b1 R1
    go_wp2_with fail
    refine Calls.mono (K2'.out _ KB1.out) ?_
    rintro e' w2 ⟨rfl, b2⟩
    have KB2 : Hid (Below w.heap.size w w2) := below2 KB0.out (below2 KB1.out b2)
    clear b2
    go_wp2
    go_ret
    exact ⟨rfl, KB2.out⟩
  obtain ⟨l2, HL2⟩ : ∃ q, Hid (l1 - x2 = q) := ⟨_, rfl⟩
  simp only [szN_yes h2, HL2.out] at K2'
  have hl2 := HL2.out
  have n2 : ¬ ((l2 : Int) < 0) := by omega
  have K3' : Hid _ := fun W => K3.out l2 W (by omega)
  by_cases h3 : nm ≤ l2
  · obtain ⟨l3, HL3⟩ : ∃ q, Hid (l2 - nm = q) := ⟨_, rfl⟩
    simp only [szN_yes h3, HL3.out] at K3'
    have HF : Hid (szN lf (x1 + x2 + nm) = (l3 : Int)) := by
      show _ = _
      have := HL3.out
      rw [szN_yes (by omega)]; congr 1; omega
    rw [HF.out]
    have n3 : ¬ ((l3 : Int) < 0) := by omega
    clear K2 K3 h1 h2 h3 hl1 hl2
    go_enter Tryd.func4, Tryd.ntmps4
    go_wp2_with fail
    rw [← HW0.out, ← HA.out]
    refine Calls.mono K1.out ?_
    rintro e' w1 ⟨rfl, b1⟩
    have R1 := RA.out.below b1 RA.out.lt
    have y4 := R1.cell 4
    simp at y4
    have KB1 : Hid (Below w0.heap.size w0 w1) := b1
    have HR1 : Hid (Row w1 A 30 #[.int .i64 f, v1, v2, v3, .slice x ne cx, .slice y nm cy]) := R1
    clear b1 R1
    go_wp2_with fail
    refine Calls.mono (K2'.out _ KB1.out) ?_
    rintro e' w2 ⟨rfl, b2⟩
    have R2 := HR1.out.below b2 HR1.out.lt
    have y5 := R2.cell 5
    simp at y5
    have KB2 : Hid (Below w.heap.size w w2) := below2 KB0.out (below2 KB1.out b2)
    clear b2 R2 y4
    go_wp2_with fail
    refine Calls.mono (K3'.out _) ?_
    rintro e' w3 ⟨rfl, hw⟩
    obtain rfl := hw.symm
    clear hw
    go_wp2
    go_ret
    exact ⟨rfl, KB2.out⟩
  · simp only [szN_no h3] at K3'
    rw [szN_no (by omega)]
    clear K2 K3 h1 h2 h3 hl1 hl2
    go_enter Tryd.func4, Tryd.ntmps4
    go_wp2_with fail
    rw [← HW0.out, ← HA.out]
    refine Calls.mono K1.out ?_
    rintro e' w1 ⟨rfl, b1⟩
    have R1 := RA.out.below b1 RA.out.lt
    have y4 := R1.cell 4
    simp at y4
    have KB1 : Hid (Below w0.heap.size w0 w1) := b1
    have HR1 : Hid (Row w1 A 30 #[.int .i64 f, v1, v2, v3, .slice x ne cx, .slice y nm cy]) := R1
    clear b1 R1
    go_wp2_with fail
    refine Calls.mono (K2'.out _ KB1.out) ?_
    rintro e' w2 ⟨rfl, b2⟩
    have R2 := HR1.out.below b2 HR1.out.lt
    have y5 := R2.cell 5
    simp at y5
    have KB2 : Hid (Below w.heap.size w w2) := below2 KB0.out (below2 KB1.out b2)
    clear b2 R2 y4
    go_wp2_with fail
    refine Calls.mono (K3'.out _) ?_
    rintro e' w3 ⟨rfl, hw⟩
    obtain rfl := hw.symm
    clear hw
    go_wp2
    go_ret
    exact ⟨rfl, KB2.out⟩
end Go.Proofs.YtkcnpkkihbpnmaaDoor
