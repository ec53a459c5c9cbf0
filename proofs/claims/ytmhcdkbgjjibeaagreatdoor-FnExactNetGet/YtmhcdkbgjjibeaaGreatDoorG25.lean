import Derived.Test.YtmhcdkbgjjibeaaGreatDoorG23
import Derived.Test.YtmhcdkbgjjibeaaGreatDoorG19
import Derived.Test.YtmhcdkbgjjibeaaGreatDoorG21
import Derived.Test.YtmhcdkbgjjibeaaGreatDoorG6
import Derived.RegionTactic
set_option maxHeartbeats 8000000
set_option maxRecDepth 2000
open Go.ChangeShapes Go.WideShapes Go.ChangeAt Go.RowKit
namespace Go.Proofs.YtmhcdkbgjjibeaaGreatDoor
structure NetA (w : World) (a : Option Addr) (n c : Nat) (l : Option Addr) (zs : List Int) (e : Option Addr) (m g : Nat) (N : Nat → Nd) (Y : Nat → Sy) : Prop where
 rn : Rd w (ndsD n N) (.slice a n c)
 rl : IntsAt w l zs.length zs
 ry : Rd w (sysD m Y) (.slice e m g)
 hn : n ≤ maxLen
 hl : zs.length ≤ maxLen
 hm : m ≤ maxLen
 bn : ∀ i, i < n → NdB (N i)
 by' : ∀ i, i < m → SyB (Y i)
abbrev ntV (f : Int) (v1 v2 v3 : Value) : Value := .agg #[.int .i64 f, v1, v2, v3]
theorem list4' {α : Type} (l : List α) (h : l.length = 4) : ∃ c0 c1 c2 c3, l = [c0, c1, c2, c3] := by
 match l, h with
 | [c0, c1, c2, c3], _ => exact ⟨c0, c1, c2, c3, rfl⟩
theorem list5 {α : Type} (l : List α) (h : l.length = 5) : ∃ c0 c1 c2 c3 c4, l = [c0, c1, c2, c3, c4] := by
 match l, h with
 | [c0, c1, c2, c3, c4], _ => exact ⟨c0, c1, c2, c3, c4, rfl⟩
theorem list10 {α : Type} (l : List α) (h : l.length = 10) : ∃ c0 c1 c2 c3 c4 c5 c6 c7 c8 c9, l = [c0, c1, c2, c3, c4, c5, c6, c7, c8, c9] := by
 match l, h with
 | [c0, c1, c2, c3, c4, c5, c6, c7, c8, c9], _ => exact ⟨c0, c1, c2, c3, c4, c5, c6, c7, c8, c9, rfl⟩
section
variable {H : Type} {enc : TypeId × Value → H} {w : World} {base : Nat} {spare : Nat → Bool} {held : Bool}
theorem open_say {fuel : Nat} {cs : List Value} {x : DataW H × List MemPlace} (h : DataW.trod enc Tryz.prog w base spare held fuel 67 cs = some x) :
  ∃ s : Sy, cs.length = 10 ∧ (∀ q, q < 10 → Rd w (syD s q) (cs.getD q undef)) ∧ SyB s := by
 have c10 : Tryz.prog.cellsOf 67 = 10 := by kernel_rfl
 have cp6 : Tryz.prog.cellsOf 48 = 6 := by kernel_rfl
 have cs1 : Tryz.prog.cellsOf 9 = 1 := by kernel_rfl
 have ci1 : Tryz.prog.cellsOf 3 = 1 := by kernel_rfl
 obtain ⟨xs, f, _, _, hl, hlen, hf⟩ := DataW.trod_struct Tryz.underlying67 h
 rw [c10] at hl
 obtain ⟨c0, c1, c2, c3, c4, c5, c6, c7, c8, c9, rfl⟩ := list10 cs hl
 obtain ⟨y0, y1, y2, y3, y4, rfl⟩ := list5 xs hlen
 have g0 := hf 0 _ rfl
 have g1 := hf 1 _ rfl
 have g2 := hf 2 _ rfl
 have g3 := hf 3 _ rfl
 have g4 := hf 4 _ rfl
 simp [cs1, cp6, ci1] at g0 g1 g2 g3 g4
 obtain ⟨k, e0, _, _⟩ := DataW.trod_int Tryz.underlying3 g0
 obtain ⟨ff, e1, _, _⟩ := DataW.trod_int Tryz.underlying3 g1
 obtain ⟨tt, e2, _, _⟩ := DataW.trod_int Tryz.underlying3 g2
 obtain ⟨r, e3, _, hr⟩ := DataW.trod_string Tryz.underlying9 g3
 obtain ⟨pr, pk, pn, pi, pb, pa, pm, pc, pS, e4, _, hpr, hpb, ht⟩ := open_piece g4
 simp at e0 e1 e2 e3 e4
 obtain ⟨rfl, rfl, rfl, rfl, rfl, rfl⟩ := e4
 subst e0 e1 e2 e3
 refine ⟨⟨k, ff, tt, r, ⟨pr, pk, pn, pi, pb, pm, pS⟩⟩, rfl, fun q hq => ?_, ⟨hr, hpr, hpb, ht.2.1, ht.2.2⟩⟩
 match q, hq with
 | 0, _ | 1, _ | 2, _ | 3, _ | 4, _ | 5, _ | 6, _ | 7, _ | 8, _ => rfl
 | 9, _ => exact rd_txt.2 ht.1
theorem open_nodeD {fuel : Nat} {cs : List Value} {x : DataW H × List MemPlace} (h : DataW.trod enc Tryz.prog w base spare held fuel 64 cs = some x) :
  ∃ d : Nd, cs.length = 3 ∧ (∀ q, q < 3 → Rd w (ndD d q) (cs.getD q undef)) ∧ NdB d := by
 obtain ⟨id, f, a, n, c, S, rfl, h1, h2, h3⟩ := open_node h
 refine ⟨⟨id, f, n, S⟩, rfl, fun q hq => ?_, ⟨h2, h3⟩⟩
 match q, hq with
 | 0, _ | 1, _ => rfl
 | 2, _ => exact h1
theorem slice_of {T e : Nat} {fuel : Nat} {v : Value} {x : DataW H × List MemPlace} (hu : Tryz.prog.underlying T = some (.slice e)) (h : DataW.trod enc Tryz.prog w base spare held fuel T [v] = some x) : ∃ a n c, v = .slice a n c := by
 rcases Go.Deep.open_slice hu h with ⟨hcs, _⟩ | ⟨ad, len, cap, m, n', D', Pl, hcs, _⟩
 ·simp at hcs
  exact ⟨none, 0, 0, hcs⟩
 ·simp at hcs
  exact ⟨some ad, len, cap, hcs⟩
theorem open_net {fuel : Nat} {cs : List Value} {x : DataW H × List MemPlace} (h : DataW.trod enc Tryz.prog w base spare held fuel 26 cs = some x) :
  ∃ (f : Int) (a : Option Addr) (n c : Nat) (l : Option Addr) (zs : List Int) (d : Nat) (e : Option Addr) (m g : Nat) (N : Nat → Nd) (Y : Nat → Sy), cs = [.int .i64 f, .slice a n c, .slice l zs.length d, .slice e m g] ∧ NetA w a n c l zs e m g N Y := by
 have c4 : Tryz.prog.cellsOf 26 = 4 := by kernel_rfl
 have ci1 : Tryz.prog.cellsOf 3 = 1 := by kernel_rfl
 have cn1 : Tryz.prog.cellsOf 22 = 1 := by kernel_rfl
 have cl1 : Tryz.prog.cellsOf 23 = 1 := by kernel_rfl
 have cy1 : Tryz.prog.cellsOf 24 = 1 := by kernel_rfl
 obtain ⟨xs, ff, _, _, hl, hlen, hf⟩ := DataW.trod_struct Tryz.underlying26 h
 rw [c4] at hl
 obtain ⟨c0, c1, c2, c3, rfl⟩ := list4' cs hl
 obtain ⟨y0, y1, y2, y3, rfl⟩ := list4' xs hlen
 have g0 := hf 0 _ rfl
 have g1 := hf 1 _ rfl
 have g2 := hf 2 _ rfl
 have g3 := hf 3 _ rfl
 simp [ci1, cn1, cl1, cy1] at g0 g1 g2 g3
 obtain ⟨f, e0, _, _⟩ := DataW.trod_int Tryz.underlying3 g0
 simp at e0
 subst e0
 obtain ⟨a, n, c, rfl⟩ := slice_of Tryz.underlying22 g1
 obtain ⟨l, zs, d, rfl, i1, i2⟩ := open_ints_at g2
 obtain ⟨e, m, g, rfl⟩ := slice_of Tryz.underlying24 g3
 obtain ⟨N, n1, n2, n3⟩ := open_list ndN 81 ndD NdB Tryz.underlying22 (by kernel_rfl) (by omega) open_nodeD g1
 obtain ⟨Y, m1, m2, m3⟩ := open_list syN 85 syD SyB Tryz.underlying24 (by kernel_rfl) (by omega) open_say g3
 exact ⟨f, a, n, c, l, zs, d, e, m, g, N, Y, rfl, ⟨n1, i1, m1, n2, i2, m2, n3, m3⟩⟩
end
def wtT (n : Nat) (N : Nat → Nd) (zs : List Int) (m : Nat) (Y : Nat → Sy) : Nat := wtNs n N + zs.length + wtYs m Y
theorem szNt_any (f : Int) (a : Option Addr) (n c : Nat) (l : Option Addr) (zs : List Int) (d : Nat) (e : Option Addr) (m g : Nat) (N : Nat → Nd) (Y : Nat → Sy) (lf : Nat) (w : World) (h : NetA w a n c l zs e m g N Y) (hlf : lf ≤ 1048576) :
  Calls Tryz.prog 4 #[.agg #[.int .i64 f, .slice a n c, .slice l zs.length d, .slice e m g], .int .i64 (lf : Int)] w fun e w' => e = .returned (.int .i64 (szN lf (wtT n N zs m Y))) ∧ Below w.heap.size w w' := by
 obtain ⟨A, HA⟩ : ∃ x, Hid (x = w.heap.size) := ⟨_, rfl⟩
 obtain ⟨w0, HW0⟩ : ∃ x, Hid (x = w.alloc (.cells #[.int .i64 f, .slice a n c, .slice l zs.length d, .slice e m g] 26)) := ⟨_, rfl⟩
 have RA : Hid (Row w0 A 26 #[.int .i64 f, .slice a n c, .slice l zs.length d, .slice e m g]) := by show Row _ _ _ _; rw [HW0.out, HA.out]; exact Row.new w _ _
 have hb0 : Below w.heap.size w w0 := by rw [HW0.out]; exact (Below.refl _ _).alloc (Nat.le_refl _) _
 have KB0 : Hid (Below w.heap.size w w0) := hb0
 have K1 : Hid (Calls Tryz.prog 12 #[.slice a n c, .int .i64 (lf : Int)] w0 _) := szNds_any a n c N lf w0 (h.rn.below hb0) hlf h.hn h.bn
 have K2 : Hid (∀ (q : Nat) W, q ≤ 1048576 → Calls Tryz.prog 13 #[.slice l zs.length d, .int .i64 (q : Int)] W fun e w' => e = .returned (.int .i64 (szN q zs.length)) ∧ w' = W) := fun q W hq => szI_any l _ d q W h.hl hq
 have K3 : Hid (∀ (q : Nat) W, q ≤ 1048576 → Below w0.heap.size w0 W → Calls Tryz.prog 14 #[.slice e m g, .int .i64 (q : Int)] W fun e w' => e = .returned (.int .i64 (szN q (wtYs m Y))) ∧ Below W.heap.size W w') := fun q W hq hW => szSys_any e m g Y q W ((h.ry.below hb0).below hW) hq h.hm h.by'
 obtain ⟨x1, HX1⟩ : ∃ x, Hid (wtNs n N = x) := ⟨_, rfl⟩
 obtain ⟨x2, HX2⟩ : ∃ x, Hid (zs.length = x) := ⟨_, rfl⟩
 obtain ⟨x3, HX3⟩ : ∃ x, Hid (wtYs m Y = x) := ⟨_, rfl⟩
 have HWT : Hid (wtT n N zs m Y = x1 + x2 + x3) := by show _ = _; unfold wtT; rw [HX1.out, HX2.out, HX3.out]
 rw [HWT.out]
 rw [HX1.out] at K1
 rw [HX2.out] at K2 RA
 rw [HX3.out] at K3
 rw [HX2.out]
 rw [HX2.out] at HW0
 clear h hb0 HWT
 by_cases h1 : x1 ≤ lf
 case neg =>
  rw [szN_no h1] at K1
  rw [szN_no (by omega)]
  go_enter Tryz.func4, Tryz.ntmps4
  go_wp2_with fail
  rw [← HW0.out, ← HA.out]
  refine Calls.mono K1.out ?_
  rintro e' w1 ⟨rfl, b1⟩
  go_wp2
  go_ret
  exact ⟨rfl, below2 KB0.out b1⟩
 obtain ⟨l1, HL1⟩ : ∃ q, Hid (lf - x1 = q) := ⟨_, rfl⟩
 rw [szN_yes h1, HL1.out] at K1
 have hl1 := HL1.out
 have n1 : ¬ ((l1 : Int) < 0) := by omega
 have K2' : Hid _ := fun W => K2.out l1 W (by omega)
 by_cases h2 : x2 ≤ l1
 case neg =>
  rw [szN_no (by omega)]
  simp only [szN_no h2] at K2'
  go_enter Tryz.func4, Tryz.ntmps4
  go_wp2_with fail
  rw [← HW0.out, ← HA.out]
  refine Calls.mono K1.out ?_
  rintro e' w1 ⟨rfl, b1⟩
  have R1 := RA.out.below b1 RA.out.lt
  have y2 := R1.cell 2
  simp at y2
  have KB1 : Hid (Below w.heap.size w w1) := below2 KB0.out b1
  clear b1 R1
  go_wp2_with fail
  refine Calls.mono (K2'.out _) ?_
  rintro e' w2 ⟨rfl, hw⟩
  obtain rfl := hw.symm
  clear hw
  go_wp2
  go_ret
  exact ⟨rfl, KB1.out⟩
 obtain ⟨l2, HL2⟩ : ∃ q, Hid (l1 - x2 = q) := ⟨_, rfl⟩
 simp only [szN_yes h2, HL2.out] at K2'
 have hl2 := HL2.out
 have n2 : ¬ ((l2 : Int) < 0) := by omega
 obtain ⟨r3, HR3⟩ : ∃ q, Hid (szN l2 x3 = q) := ⟨_, rfl⟩
 have HF : Hid (szN lf (x1 + x2 + x3) = r3) := by
  show _ = _
  rw [← HR3.out]
  by_cases h3 : x3 ≤ l2
  ·rw [szN_yes h3, szN_yes (by omega)]; congr 1; omega
  ·rw [szN_no h3, szN_no (by omega)]
 have K3' : Hid (∀ W, Below w0.heap.size w0 W → Calls Tryz.prog 14 #[.slice e m g, .int .i64 (l2 : Int)] W fun e w' => e = .returned (.int .i64 r3) ∧ Below W.heap.size W w') := fun W hW => by have := K3.out l2 W (by omega) hW; rw [HR3.out] at this; exact this
 rw [HF.out]
 have HS3 : Hid (r3 < 0 → r3 = -1) := by
  show r3 < 0 → _
  rw [← HR3.out]
  by_cases h3 : x3 ≤ l2
  ·rw [szN_yes h3]; intro hh; omega
  ·rw [szN_no h3]; intro _; rfl
 clear K2 K3 h1 h2 hl1 hl2
 by_cases h3 : r3 < 0
 ·have e3 := HS3.out h3
  subst e3
  go_enter Tryz.func4, Tryz.ntmps4
  go_wp2_with fail
  rw [← HW0.out, ← HA.out]
  refine Calls.mono K1.out ?_
  rintro e' w1 ⟨rfl, b1⟩
  have R1 := RA.out.below b1 RA.out.lt
  have y2 := R1.cell 2
  have y3 := R1.cell 3
  simp at y2 y3
  have KB1 : Hid (Below w0.heap.size w0 w1) := b1
  clear b1 R1
  go_wp2_with fail
  refine Calls.mono (K2'.out _) ?_
  rintro e' w2 ⟨rfl, hw⟩
  obtain rfl := hw.symm
  clear hw
  go_wp2_with fail
  refine Calls.mono (K3'.out _ KB1.out) ?_
  rintro e' w3 ⟨rfl, b3⟩
  go_wp2
  go_ret
  exact ⟨rfl, below2 KB0.out (below2 KB1.out b3)⟩
 ·go_enter Tryz.func4, Tryz.ntmps4
  go_wp2_with fail
  rw [← HW0.out, ← HA.out]
  refine Calls.mono K1.out ?_
  rintro e' w1 ⟨rfl, b1⟩
  have R1 := RA.out.below b1 RA.out.lt
  have y2 := R1.cell 2
  have y3 := R1.cell 3
  simp at y2 y3
  have KB1 : Hid (Below w0.heap.size w0 w1) := b1
  clear b1 R1
  go_wp2_with fail
  refine Calls.mono (K2'.out _) ?_
  rintro e' w2 ⟨rfl, hw⟩
  obtain rfl := hw.symm
  clear hw
  go_wp2_with fail
  refine Calls.mono (K3'.out _ KB1.out) ?_
  rintro e' w3 ⟨rfl, b3⟩
  go_wp2
  go_ret
  exact ⟨rfl, below2 KB0.out (below2 KB1.out b3)⟩
theorem eqNt_same (f : Int) (a b : Option Addr) (n ca cb : Nat) (l k : Option Addr) (zs : List Int) (cl ck : Nat) (e q : Option Addr) (m ce cq : Nat) (N : Nat → Nd) (Y : Nat → Sy) (w : World) (h1 : Rd w (ndsD n N) (.slice a n ca)) (h2 : Rd w (ndsD n N) (.slice b n cb)) (h3 : IntsAt w l zs.length zs) (h4 : IntsAt w k zs.length zs) (h5 : Rd w (sysD m Y) (.slice e m ce)) (h6 : Rd w (sysD m Y) (.slice q m cq)) (hn : n ≤ 1048576) (hN : ∀ i, i < n → NdS (N i)) (hz : zs.length ≤ 1048576) (hm : m ≤ 1048576) (hY : ∀ i, i < m → (Y i).p.m ≤ 1048576) :
  Calls Tryz.prog 10 #[ntV f (.slice a n ca) (.slice l zs.length cl) (.slice e m ce), ntV f (.slice b n cb) (.slice k zs.length ck) (.slice q m cq)] w fun e w' => e = .returned (.bool true) ∧ Below w.heap.size w w' := by
 obtain ⟨A, HA⟩ : ∃ x, Hid (x = w.heap.size) := ⟨_, rfl⟩
 obtain ⟨D, HD⟩ : ∃ x, Hid (x = w.heap.size + 1) := ⟨_, rfl⟩
 obtain ⟨w0, HW0⟩ : ∃ x, Hid (x = (w.alloc (.cells #[.int .i64 f, .slice a n ca, .slice l zs.length cl, .slice e m ce] 35)).alloc (.cells #[.int .i64 f, .slice b n cb, .slice k zs.length ck, .slice q m cq] 35)) := ⟨_, rfl⟩
 have RA : Hid (Row w0 A 35 #[.int .i64 f, .slice a n ca, .slice l zs.length cl, .slice e m ce]) := by show Row _ _ _ _; rw [HW0.out, HA.out]; exact Row.alloc (Row.new w _ _) _
 have RD : Hid (Row w0 D 35 #[.int .i64 f, .slice b n cb, .slice k zs.length ck, .slice q m cq]) := by
  show Row _ _ _ _
  rw [HW0.out, HD.out]
  have := Row.new (w.alloc (.cells #[.int .i64 f, .slice a n ca, .slice l zs.length cl, .slice e m ce] 35)) #[.int .i64 f, .slice b n cb, .slice k zs.length ck, .slice q m cq] 35
  simpa using this
 have hb0 : Below w.heap.size w w0 := by rw [HW0.out]; exact ((Below.refl _ _).alloc (Nat.le_refl _) _).alloc (by simp) _
 have KB0 : Hid (Below w.heap.size w w0) := hb0
 have K1 : Hid _ := eqNds_same a b n ca cb N w0 (h1.below hb0) (h2.below hb0) hn hN
 have K2 : Hid (∀ W, Below w0.heap.size w0 W → Calls Tryz.prog 28 #[.slice l zs.length cl, .slice k zs.length ck] W _) := fun W hW => eqIntS_same l k zs.length cl ck zs W ((h3.below hb0).below hW) ((h4.below hb0).below hW) hz
 have K3 : Hid (∀ W, Below w0.heap.size w0 W → Calls Tryz.prog 29 #[.slice e m ce, .slice q m cq] W _) := fun W hW => eqSys_same e q m ce cq Y W ((h5.below hb0).below hW) ((h6.below hb0).below hW) hm hY
 have hff : (f != f) = false := by simp
 clear h1 h2 h3 h4 h5 h6 hb0 hN hY
 go_enter Tryz.func10, Tryz.ntmps10
 go_wp2_with fail
 rw [← HW0.out, ← HD.out, ← HA.out]
 refine Calls.mono K1.out ?_
 rintro e' w1 ⟨rfl, b1⟩
 have R1 := RA.out.below b1 RA.out.lt
 have S1 := RD.out.below b1 RD.out.lt
 have x2 := R1.cell 2
 have x3 := R1.cell 3
 have y2 := S1.cell 2
 have y3 := S1.cell 3
 simp at x2 x3 y2 y3
 have KB1 : Hid (Below w0.heap.size w0 w1) := b1
 clear b1 R1 S1
 go_wp2_with fail
 refine Calls.mono (K2.out _ KB1.out) ?_
 rintro e' w2 ⟨rfl, b2⟩
 replace x3 := (b2.cell (p := ⟨A, 3, none⟩) (block_lt_of_cell x3)).trans x3
 replace y3 := (b2.cell (p := ⟨D, 3, none⟩) (block_lt_of_cell y3)).trans y3
 have KB2 : Hid (Below w0.heap.size w0 w2) := below2 KB1.out b2
 clear b2 x2 y2 KB1
 go_wp2_with fail
 refine Calls.mono (K3.out _ KB2.out) ?_
 rintro e' w3 ⟨rfl, b3⟩
 go_wp2
 go_ret
 exact ⟨rfl, below2 KB0.out (below2 KB2.out b3)⟩
theorem Ow.apart {w : World} {B : Nat} {d : Dt} {v : Value} {F : Nat → Prop} (h : Ow w B d v F) {g : Nat} (o : Nat) (x : Value) (hn : ¬ F g) : Ow (w.setCell ⟨g, o, none⟩ x) B d v F :=
 h.turned (Trn.set w o x (F := fun y => y = g) rfl) (fun _ hy e => hn (e ▸ hy))
theorem Tryz.infoNt : (Tryz.prog.info? 35).map (·.size) = some 4 := by kernel_rfl
theorem toI_own (a : Option Addr) (cap : Nat) (zs : List Int) (w : World) (h : IntsAt w a zs.length zs) (hn : zs.length ≤ 1048576) :
  Calls Tryz.prog 20 #[.slice a zs.length cap] w fun e w' => ∃ g, e = .returned (.slice (some ⟨g, 0, none⟩) zs.length zs.length) ∧ Ow w' w.heap.size (inD zs) (.slice (some ⟨g, 0, none⟩) zs.length zs.length) (rng w.heap.size w'.heap.size) ∧ Below w.heap.size w w' := by
 refine (toIntS_any a zs.length cap zs w h hn).mono ?_
 rintro e w' ⟨rfl, ho, hb⟩
 have l := World.ownsRow.lt ho w.heap.size rfl
 exact ⟨_, rfl, ow_ints ho (fun x e => by cases e; exact l), hb⟩
theorem toNt_any (f : Int) (a : Option Addr) (n c : Nat) (l : Option Addr) (zs : List Int) (d : Nat) (e : Option Addr) (m g : Nat) (N : Nat → Nd) (Y : Nat → Sy) (w : World) (h : NetA w a n c l zs e m g N Y) (hn : n ≤ 1048576) (hN : ∀ i, i < n → NdS (N i)) (hz : zs.length ≤ 1048576) (hm : m ≤ 1048576) (hY : ∀ i, i < m → (Y i).p.m ≤ 1048576) :
  Calls Tryz.prog 7 #[.agg #[.int .i64 f, .slice a n c, .slice l zs.length d, .slice e m g]] w fun r w' => ∃ g1 g2 g3, r = .returned (ntV f (.slice (some ⟨g1, 0, none⟩) n n) (.slice (some ⟨g2, 0, none⟩) zs.length zs.length) (.slice (some ⟨g3, 0, none⟩) m m)) ∧ ∃ (F1 F2 F3 : Nat → Prop), Ow w' w.heap.size (ndsD n N) (.slice (some ⟨g1, 0, none⟩) n n) F1 ∧ Ow w' w.heap.size (inD zs) (.slice (some ⟨g2, 0, none⟩) zs.length zs.length) F2 ∧ Ow w' w.heap.size (sysD m Y) (.slice (some ⟨g3, 0, none⟩) m m) F3 ∧ (∀ x, F1 x → ¬ F2 x) ∧ (∀ x, F1 x → ¬ F3 x) ∧ (∀ x, F2 x → ¬ F3 x) ∧ Below w.heap.size w w' := by
 obtain ⟨A, HA⟩ : ∃ x, Hid (x = w.heap.size) := ⟨_, rfl⟩
 obtain ⟨D, HD⟩ : ∃ x, Hid (x = w.heap.size + 1) := ⟨_, rfl⟩
 obtain ⟨V, HV⟩ : ∃ x, Hid (x = w.heap.size + 1 + 1) := ⟨_, rfl⟩
 obtain ⟨w0, HW0⟩ : ∃ x, Hid (x = ((w.alloc (.cells #[.int .i64 f, .slice a n c, .slice l zs.length d, .slice e m g] 26)).alloc (.cells #[.int .i64 0, .slice none 0 0, .slice none 0 0, .slice none 0 0] 35)).alloc (.cells #[.int .i64 f, .slice none 0 0, .slice none 0 0, .slice none 0 0] 35)) := ⟨_, rfl⟩
 have RA : Hid (Row w0 A 26 #[.int .i64 f, .slice a n c, .slice l zs.length d, .slice e m g]) := by show Row _ _ _ _; rw [HW0.out, HA.out]; exact Row.alloc (Row.alloc (Row.new w _ _) _) _
 have RD : Hid (Row w0 D 35 #[.int .i64 0, .slice none 0 0, .slice none 0 0, .slice none 0 0]) := by
  show Row _ _ _ _
  rw [HW0.out, HD.out]
  have := Row.new (w.alloc (.cells #[.int .i64 f, .slice a n c, .slice l zs.length d, .slice e m g] 26)) #[.int .i64 0, .slice none 0 0, .slice none 0 0, .slice none 0 0] 35
  exact Row.alloc (by simpa using this) _
 have RV : Hid (Row w0 V 35 #[.int .i64 f, .slice none 0 0, .slice none 0 0, .slice none 0 0]) := by
  show Row _ _ _ _
  rw [HW0.out, HV.out]
  have := Row.new ((w.alloc (.cells #[.int .i64 f, .slice a n c, .slice l zs.length d, .slice e m g] 26)).alloc (.cells #[.int .i64 0, .slice none 0 0, .slice none 0 0, .slice none 0 0] 35)) #[.int .i64 f, .slice none 0 0, .slice none 0 0, .slice none 0 0] 35
  simpa using this
 have hb0 : Below w.heap.size w w0 := by rw [HW0.out]; exact (((Below.refl _ _).alloc (Nat.le_refl _) _).alloc (by simp) _).alloc (by simp; omega) _
 have KB0 : Hid (Below w.heap.size w w0) := hb0
 have HL : Hid (V ≠ D ∧ V ≠ A ∧ w.heap.size ≤ D ∧ w.heap.size ≤ V ∧ V < w0.heap.size ∧ D < w0.heap.size) := ⟨by have := HV.out; have := HD.out; omega, by have := HV.out; have := HA.out; omega, by have := HD.out; omega, by have := HV.out; omega, RV.out.lt, RD.out.lt⟩
 have K1 : Hid _ := toNds_any a n c N w0 (h.rn.below hb0) hn hN
 have K2 : Hid (∀ W, Below w.heap.size w W → Calls Tryz.prog 20 #[.slice l zs.length d] W _) := fun W hW => toI_own l d zs W (h.rl.below hW) hz
 have K3 : Hid (∀ W, Below w.heap.size w W → Calls Tryz.prog 21 #[.slice e m g] W _) := fun W hW => toSys_any e m g Y W (h.ry.below hW) hm hY
 clear h hb0 hN hY
 go_enter Tryz.func7, Tryz.ntmps7
 go_wp2_with fail
 rw [← HW0.out, ← HV.out, ← HD.out, ← HA.out]
 refine Calls.mono K1.out ?_
 rintro e' w1 ⟨rfl, O1, b1⟩
 obtain ⟨g1, HG1⟩ : ∃ x, Hid (x = w0.heap.size) := ⟨_, rfl⟩
 rw [← HG1.out]
 obtain ⟨w2, HW2⟩ : ∃ x, Hid (x = w1.setCell ⟨V, 1, none⟩ (.slice (some ⟨g1, 0, none⟩) n n)) := ⟨_, rfl⟩
 have RA1 := RA.out.below b1 RA.out.lt
 have RV1 := RV.out.below b1 RV.out.lt
 have RD1 := RD.out.below b1 RD.out.lt
 have y1 := RV1.cell 1
 have f1 := RV1.free 1
 have q2 := RA1.cell 2
 simp at y1 q2
 have nVA : ¬ V = A := HL.out.2.1
 have nAV : ¬ A = V := fun e => HL.out.2.1 e.symm
 have S2 : w2.heap.size = w1.heap.size := by rw [HW2.out]; simp
 have s01 : w0.heap.size ≤ w1.heap.size := b1.size
 have J2 : Hid (Row w2 A 26 #[.int .i64 f, .slice a n c, .slice l zs.length d, .slice e m g] ∧ Row w2 V 35 #[.int .i64 f, .slice (some ⟨g1, 0, none⟩) n n, .slice none 0 0, .slice none 0 0] ∧ Row w2 D 35 #[.int .i64 0, .slice none 0 0, .slice none 0 0, .slice none 0 0] ∧ Ow w2 w.heap.size (ndsD n N) (.slice (some ⟨g1, 0, none⟩) n n) (rng w0.heap.size w1.heap.size) ∧ Below w.heap.size w w2) := by
  rw [HW2.out]
  refine ⟨RA1.other 1 _ (Ne.symm HL.out.2.1), RV1.set 1 _, RD1.other 1 _ (Ne.symm HL.out.1), ?_, (below2 KB0.out b1).setCell HL.out.2.2.2.1 _⟩
  have := O1.base KB0.out.size
  rw [← HG1.out] at this
  rw [← HG1.out]
  exact this.apart 1 _ (fun k => by have := k.1; have := HL.out.2.2.2.2.1; have := HG1.out; omega)
 have K2' : Hid _ := K2.out w2 J2.out.2.2.2.2
 clear O1 b1 RA1 RV1 RD1 K1 K2
 go_wp2_with (fail)
 rw [← HW2.out]
 refine Calls.mono K2'.out ?_
 rintro e' w3 ⟨g2, rfl, O3, b3⟩
 obtain ⟨w4, HW4⟩ : ∃ x, Hid (x = w3.setCell ⟨V, 2, none⟩ (.slice (some ⟨g2, 0, none⟩) zs.length zs.length)) := ⟨_, rfl⟩
 have RA3 := J2.out.1.below b3 J2.out.1.lt
 have RV3 := J2.out.2.1.below b3 J2.out.2.1.lt
 have RD3 := J2.out.2.2.1.below b3 J2.out.2.2.1.lt
 have y2 := RV3.cell 2
 have f2 := RV3.free 2
 have q3 := RA3.cell 3
 simp at y2 q3
 have lV2 : V < w2.heap.size := J2.out.2.1.lt
 have J4 : Hid (Row w4 A 26 #[.int .i64 f, .slice a n c, .slice l zs.length d, .slice e m g] ∧ Row w4 V 35 #[.int .i64 f, .slice (some ⟨g1, 0, none⟩) n n, .slice (some ⟨g2, 0, none⟩) zs.length zs.length, .slice none 0 0] ∧ Row w4 D 35 #[.int .i64 0, .slice none 0 0, .slice none 0 0, .slice none 0 0] ∧ Ow w4 w.heap.size (ndsD n N) (.slice (some ⟨g1, 0, none⟩) n n) (rng w0.heap.size w1.heap.size) ∧ Ow w4 w.heap.size (inD zs) (.slice (some ⟨g2, 0, none⟩) zs.length zs.length) (rng w2.heap.size w3.heap.size) ∧ Below w.heap.size w w4) := by
  rw [HW4.out]
  exact ⟨RA3.other 2 _ (Ne.symm HL.out.2.1), RV3.set 2 _, RD3.other 2 _ (Ne.symm HL.out.1), (J2.out.2.2.2.1.below b3).apart 2 _ (fun k => by have := k.1; have := HL.out.2.2.2.2.1; omega), (O3.base J2.out.2.2.2.2.size).apart 2 _ (fun k => by have := k.1; omega), (below2 J2.out.2.2.2.2 b3).setCell HL.out.2.2.2.1 _⟩
 have S4 : w4.heap.size = w3.heap.size := by rw [HW4.out]; simp
 have K3' : Hid _ := K3.out w4 J4.out.2.2.2.2.2
 have s23 := b3.size
 clear O3 b3 RA3 RV3 RD3 K3 y1 f1 q2
 go_wp2_with (fail)
 rw [← HW4.out]
 refine Calls.mono K3'.out ?_
 rintro e' w5 ⟨rfl, O5, b5⟩
 obtain ⟨g3, HG3⟩ : ∃ x, Hid (x = w4.heap.size) := ⟨_, rfl⟩
 rw [← HG3.out]
 obtain ⟨w6, HW6⟩ : ∃ x, Hid (x = w5.setCell ⟨V, 3, none⟩ (.slice (some ⟨g3, 0, none⟩) m m)) := ⟨_, rfl⟩
 have RV5 := J4.out.2.1.below b5 J4.out.2.1.lt
 have RD5 := J4.out.2.2.1.below b5 J4.out.2.2.1.lt
 have y3 := RV5.cell 3
 have f3 := RV5.free 3
 simp at y3
 have lV4 : V < w4.heap.size := J4.out.2.1.lt
 have lD4 : D < w4.heap.size := J4.out.2.2.1.lt
 have J6 : Hid (Row w6 V 35 #[.int .i64 f, .slice (some ⟨g1, 0, none⟩) n n, .slice (some ⟨g2, 0, none⟩) zs.length zs.length, .slice (some ⟨g3, 0, none⟩) m m] ∧ Row w6 D 35 #[.int .i64 0, .slice none 0 0, .slice none 0 0, .slice none 0 0] ∧ Ow w6 w.heap.size (ndsD n N) (.slice (some ⟨g1, 0, none⟩) n n) (rng w0.heap.size w1.heap.size) ∧ Ow w6 w.heap.size (inD zs) (.slice (some ⟨g2, 0, none⟩) zs.length zs.length) (rng w2.heap.size w3.heap.size) ∧ Ow w6 w.heap.size (sysD m Y) (.slice (some ⟨g3, 0, none⟩) m m) (rng w4.heap.size w5.heap.size) ∧ Below w.heap.size w w6) := by
  rw [HW6.out]
  refine ⟨RV5.set 3 _, RD5.other 3 _ (Ne.symm HL.out.1), (J4.out.2.2.2.1.below b5).apart 3 _ (fun k => by have := k.1; have := HL.out.2.2.2.2.1; omega), (J4.out.2.2.2.2.1.below b5).apart 3 _ (fun k => by have := k.1; omega), ?_, (below2 J4.out.2.2.2.2.2 b5).setCell HL.out.2.2.2.1 _⟩
  have := O5.base J4.out.2.2.2.2.2.size
  rw [← HG3.out] at this
  rw [← HG3.out]
  exact this.apart 3 _ (fun k => by have := k.1; have := HG3.out; omega)
 obtain ⟨w7, HW7⟩ : ∃ x, Hid (x = w6.setRow D #[.int .i64 f, .slice (some ⟨g1, 0, none⟩) n n, .slice (some ⟨g2, 0, none⟩) zs.length zs.length, .slice (some ⟨g3, 0, none⟩) m m]) := ⟨_, rfl⟩
 have ZR : Hid (Row w7 D 35 #[.int .i64 f, .slice (some ⟨g1, 0, none⟩) n n, .slice (some ⟨g2, 0, none⟩) zs.length zs.length, .slice (some ⟨g3, 0, none⟩) m m]) := by show Row _ _ _ _; rw [HW7.out]; exact J6.out.2.1.row
 have ZF : Hid (∃ (F1 F2 F3 : Nat → Prop), Ow w7 w.heap.size (ndsD n N) (.slice (some ⟨g1, 0, none⟩) n n) F1 ∧ Ow w7 w.heap.size (inD zs) (.slice (some ⟨g2, 0, none⟩) zs.length zs.length) F2 ∧ Ow w7 w.heap.size (sysD m Y) (.slice (some ⟨g3, 0, none⟩) m m) F3 ∧ (∀ x, F1 x → ¬ F2 x) ∧ (∀ x, F1 x → ¬ F3 x) ∧ (∀ x, F2 x → ¬ F3 x) ∧ Below w.heap.size w w7) := by
  rw [HW7.out]
  have hD := HL.out.2.2.2.2.2
  refine ⟨_, _, _, J6.out.2.2.1.frame fun x hx _ => setRow_other _ _ _ _ (fun e => by have := hx.1; omega), J6.out.2.2.2.1.frame fun x hx _ => setRow_other _ _ _ _ (fun e => by have := hx.1; omega), J6.out.2.2.2.2.1.frame fun x hx _ => setRow_other _ _ _ _ (fun e => by have := hx.1; omega), fun x hx hy => ?_, fun x hx hy => ?_, fun x hx hy => ?_, belowSetRow J6.out.2.2.2.2.2 HL.out.2.2.1 _⟩
  ·have := hx.2; have := hy.1; omega
  ·have := hx.2; have := hy.1; omega
  ·have := hx.2; have := hy.1; omega
 clear O5 b5 RV5 RD5 S2 S4 s23 lV2 lV4 lD4 y2 f2 q3
 go_wp2_with (first | (rw [← HW6.out]; refine wpList_load_row (by rfl) 35 _ (by rfl) V (by rfl) 35 #[.int .i64 f, .slice (some ⟨g1, 0, none⟩) n n, .slice (some ⟨g2, 0, none⟩) zs.length zs.length, .slice (some ⟨g3, 0, none⟩) m m] (0, 0) _ ?_ Tryz.underlying35 (by rfl) Tryz.infoNt ?_; exact J6.out.1; clear y3 f3) | (refine wpList_store_row (by rfl) 35 _ _ (by rfl) D #[.int .i64 f, .slice (some ⟨g1, 0, none⟩) n n, .slice (some ⟨g2, 0, none⟩) zs.length zs.length, .slice (some ⟨g3, 0, none⟩) m m] (by rfl) (by rfl) 35 #[.int .i64 0, .slice none 0 0, .slice none 0 0, .slice none 0 0] ?_ Tryz.infoNt rfl (by simp [Value.oneCell']) ?_; exact J6.out.2.1; rw [← HW7.out]))
 exact bodyPost_ret (v := ntV f (.slice (some ⟨g1, 0, none⟩) n n) (.slice (some ⟨g2, 0, none⟩) zs.length zs.length) (.slice (some ⟨g3, 0, none⟩) m m)) (results_cell_row Tryz.results7 _ _ D 35 _ (0, 0) _ (by rfl) ZR.out Tryz.underlying35 (by rfl) Tryz.infoNt) rfl ⟨g1, g2, g3, rfl, ZF.out⟩
end Go.Proofs.YtmhcdkbgjjibeaaGreatDoor
namespace Go.Proofs.YtmhcdkbgjjibeaaGreatDoor
end Go.Proofs.YtmhcdkbgjjibeaaGreatDoor
