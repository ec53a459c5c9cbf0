import Derived.Test.YtaenoiffamgcfaaGreatDoorM21
import Derived.Test.YtaenoiffamgcfaaGreatDoorM18
import Derived.Deep.CutRange
set_option maxHeartbeats 8000000
set_option maxRecDepth 2000
open Go.ChangeShapes Go.WideShapes Go.ChangeAt Go.RowKit
namespace Go.Proofs.YtaenoiffamgcfaaGreatDoor
theorem copiedP_any (r : ByteArray) (k n i : Int) (b : ByteArray) (a : Option Addr) (m c : Nat) (S : Nat → ByteArray) (w : World) (h : TxtAt w a m S) (hm : m ≤ 1048576) (hr : r.size ≤ 1048576) (hb : b.size ≤ 1048576) (hS : ∀ i, i < m → (S i).size ≤ 1048576) :
  Calls Tryz.prog 104 #[pcV r k n i b (.slice a m c)] w fun e w' => ∃ g, e = .returned (pcV r k n i b (.slice (some ⟨g, 0, none⟩) m m)) ∧ OwnT w' w.heap.size (some ⟨g, 0, none⟩) m m S ∧ Below w.heap.size w w' := by
 obtain ⟨i0, hi, hz0, hz1, hz2⟩ := info_parts Tryz.infoStr
 obtain ⟨A, HA⟩ : ∃ x, Hid (x = w.heap.size) := ⟨_, rfl⟩
 obtain ⟨D, HD⟩ : ∃ x, Hid (x = w.heap.size + 1) := ⟨_, rfl⟩
 obtain ⟨w0, HW0⟩ : ∃ x, Hid (x = (w.alloc (.cells (pcC r k n i b (.slice a m c)) 32)).alloc (.cells #[.string ⟨#[]⟩, .int .i64 0, .int .i64 0, .int .i64 0, .string ⟨#[]⟩, .slice none 0 0] 32)) := ⟨_, rfl⟩
 have RA : Hid (Row w0 A 32 (pcC r k n i b (.slice a m c))) := by show Row _ _ _ _; rw [HW0.out, HA.out]; exact Row.alloc (Row.new w _ _) _
 have RD : Hid (Row w0 D 32 #[.string ⟨#[]⟩, .int .i64 0, .int .i64 0, .int .i64 0, .string ⟨#[]⟩, .slice none 0 0]) := by
  show Row _ _ _ _
  rw [HW0.out, HD.out]
  have := Row.new (w.alloc (.cells (pcC r k n i b (.slice a m c)) 32)) #[.string ⟨#[]⟩, .int .i64 0, .int .i64 0, .int .i64 0, .string ⟨#[]⟩, .slice none 0 0] 32
  simpa using this
 have hb0 : Below w.heap.size w w0 := by rw [HW0.out]; exact ((Below.refl _ _).alloc (Nat.le_refl _) _).alloc (by simp) _
 have KB0 : Hid (Below w.heap.size w w0) := hb0
 have hAD : Hid (A ≠ D ∧ w.heap.size ≤ A ∧ w.heap.size ≤ D) := ⟨by have := HA.out; have := HD.out; omega, by have := HA.out; omega, by have := HD.out; omega⟩
 have KH : Hid (TxtAt w a m S) := h
 have KCr : Hid (∀ W, Calls Tryz.prog 103 #[.string r] W fun e w' => e = .returned (.string r) ∧ Below W.heap.size W w') := fun W => clone_any r W hr
 have KCb : Hid (∀ W, Calls Tryz.prog 103 #[.string b] W fun e w' => e = .returned (.string b) ∧ Below W.heap.size W w') := fun W => clone_any b W hb
 have KCS : Hid (∀ i, i < m → ∀ W, Calls Tryz.prog 103 #[.string (S i)] W fun e w' => e = .returned (.string (S i)) ∧ Below W.heap.size W w') := fun i hi W => clone_any (S i) W (hS i hi)
 clear h hb0 hr hb hS
 go_enter Tryz.func104, Tryz.ntmps104
 go_wp2_with fail
 rw [← HW0.out, ← HD.out, ← HA.out]
 go_cut [] from 6 to 13 (fun wx => Hid (Row wx A 32 (pcC r k n i b (.slice a m c)) ∧ Row wx D 32 #[.string ⟨#[]⟩, .int .i64 0, .int .i64 0, .int .i64 0, .string ⟨#[]⟩, .slice none 0 0] ∧ Below w.heap.size w wx))
 case first =>
  have lA := RA.out.lt
  have lD := RD.out.lt
  have q0 := RA.out.cell 0
  have q1 := RA.out.cell 1
  have q2 := RA.out.cell 2
  have q3 := RA.out.cell 3
  have q4 := RA.out.cell 4
  have q5 := RA.out.cell 5
  have f0 := RA.out.free 0
  have f4 := RA.out.free 4
  simp at q0 q1 q2 q3 q4 q5
  have KTW : Hid (∀ W, Below w0.heap.size w0 W → Row W A 32 (pcC r k n i b (.slice a m c)) ∧ Row W D 32 #[.string ⟨#[]⟩, .int .i64 0, .int .i64 0, .int .i64 0, .string ⟨#[]⟩, .slice none 0 0] ∧ Below w.heap.size w W) := fun W hW => ⟨RA.out.below hW lA, RD.out.below hW lD, below2 KB0.out hW⟩
  have KQ : Hid (∀ W, Below w0.heap.size w0 W → W.cell? ⟨A, 0, none⟩ = some (.string r) ∧ W.cell? ⟨A, 1, none⟩ = some (.int .i64 k) ∧ W.cell? ⟨A, 2, none⟩ = some (.int .i64 n) ∧ W.cell? ⟨A, 3, none⟩ = some (.int .i64 i) ∧ W.cell? ⟨A, 4, none⟩ = some (.string b) ∧ W.cell? ⟨A, 5, none⟩ = some (.slice a m c)) := fun W hW => by
   have := (KTW.out W hW).1
   have z0 := this.cell 0
   have z1 := this.cell 1
   have z2 := this.cell 2
   have z3 := this.cell 3
   have z4 := this.cell 4
   have z5 := this.cell 5
   simp at z0 z1 z2 z3 z4 z5
   exact ⟨z0, z1, z2, z3, z4, z5⟩
  have KF : Hid (∀ W, Below w0.heap.size w0 W → W.frozen? ⟨A, 0, none⟩ = false ∧ W.frozen? ⟨A, 4, none⟩ = false) := fun W hW => ⟨(KTW.out W hW).1.free 0, (KTW.out W hW).1.free 4⟩
  go_region_held3 (fun w' => w'.cell? ⟨A, 0, none⟩ = some (.string r) ∧ w'.cell? ⟨A, 1, none⟩ = some (.int .i64 k) ∧ w'.cell? ⟨A, 2, none⟩ = some (.int .i64 n) ∧ w'.cell? ⟨A, 3, none⟩ = some (.int .i64 i) ∧ w'.cell? ⟨A, 4, none⟩ = some (.string b) ∧ w'.cell? ⟨A, 5, none⟩ = some (.slice a m c)) (go_keep) ((first | (guard_hyp d1; go_at_call 103; refine Calls.mono (KCb.out _) ?_; rintro e w8 ⟨rfl, b8⟩; have b08 := below2 b07 b8; obtain ⟨t0, t1, t2, t3, t4, t5⟩ := KQ.out _ b08; have g0 := (KF.out _ b08).1; have g4 := (KF.out _ b08).2; have RB8 := (KTW.out _ b08).1.set 0 (.string r); have RC8 := RB8.set 4 (.string b); have s0 := RB8.cell 0; have v0 := RC8.cell 0; have s1 := RB8.cell 1; have v1 := RC8.cell 1; have s2 := RB8.cell 2; have v2 := RC8.cell 2; have s3 := RB8.cell 3; have v3 := RC8.cell 3; have s4 := RB8.cell 4; have v4 := RC8.cell 4; have s5 := RB8.cell 5; have v5 := RC8.cell 5; simp at s0 v0 s1 v1 s2 v2 s3 v3 s4 v4 s5 v5; clear RB8 RC8) | (go_at_call 103; refine Calls.mono (KCr.out _) ?_; rintro e w7 ⟨rfl, b7'⟩; have b07 := below_of_drew b7'; clear b7'; have d1 : Hid True := trivial; obtain ⟨p0, p1, p2, p3, p4, p5⟩ := KQ.out _ b07)))
  all_goals
   obtain ⟨RA8, RD8, B8⟩ := KTW.out _ b08
   go_wp2_with fail
   go_meet
   exact ⟨(RA8.set 0 _).set 4 _, (RD8.other 0 _ (Ne.symm hAD.out.1)).other 4 _ (Ne.symm hAD.out.1), (B8.setCell hAD.out.2.1 _).setCell hAD.out.2.1 _⟩
 obtain ⟨RAc, RDc, Bc⟩ := hcut.out
 clear hcut RA RD KB0 HW0 KCr KCb
 have RA : Hid (Row wc A 32 (pcC r k n i b (.slice a m c))) := RAc
 have RD : Hid (Row wc D 32 #[.string ⟨#[]⟩, .int .i64 0, .int .i64 0, .int .i64 0, .string ⟨#[]⟩, .slice none 0 0]) := RDc
 have KBc : Hid (Below w.heap.size w wc) := Bc
 have x5 := RAc.cell 5
 simp at x5
 obtain ⟨g, HG⟩ : ∃ x, Hid (x = wc.heap.size) := ⟨_, rfl⟩
 clear RAc RDc Bc
 go_wp2_with (at_make; refine wpList_make_full _ rfl _ _ 30 rfl wc.heap.size 9 i0 (.string ByteArray.empty) 1 Tryz.underlying30 hi hz0 hz1 .i64 .i64 _ _ m rfl rfl rfl rfl (by rw [hz2]; omega) (by unfold maxLen; omega) (Nat.le_refl _) ?_; intro w1 hown hgrow; have ho1 : OwnT w1 wc.heap.size (some ⟨wc.heap.size, 0, none⟩) m m (fun i => if i < 0 then S i else ByteArray.empty) := (by have e : sL (fun i => if i < 0 then S i else ByteArray.empty) m = List.replicate m (Value.string ByteArray.empty) := (by rw [← sL_empty]; exact sL_congr (fun i _ => by simp)); unfold OwnT; rw [e]; simpa [Value.cells, toList_madeCells_one] using hown); have hb1 : Below wc.heap.size wc w1 := (Below.refl _ _).grown hgrow (Nat.le_refl _) (by simp); have y5 := (hb1.cell (p := ⟨A, 5, none⟩) RA.out.lt).trans x5)
 rw [← HG.out] at ho1
 rw [← HG.out]
 clear hown hgrow
 go_loopw [21] (fun vi wr => ∃ q : Nat, q ≤ m ∧ vi = .int .i64 (q : Int) ∧ Hid (OwnT wr g (some ⟨g, 0, none⟩) m m (fun i => if i < q then S i else ByteArray.empty)) ∧ Below wc.heap.size wc wr) (fun vi _ => m - (intOf vi).toNat)
 case atStart => exact ⟨0, Nat.zero_le _, rfl, ho1, hb1⟩
 case round =>
  obtain ⟨q, hq, rfl, hown, hbel⟩ := hrel
  clear ho1 hb1 y5 x5
  by_cases hlt : q < m
  ·obtain ⟨b', off', rfl, hc⟩ := (KH.out.below KBc.out).below hbel q hlt
   have hlti : (q : Int) < (m : Int) := by omega
   have KC1 : Hid _ := KCS.out q hlt
   obtain ⟨s, HS⟩ : ∃ x, Hid (S q = x) := ⟨_, rfl⟩
   rw [HS.out] at hc KC1
   have KB1 : Hid (Below wc.heap.size wc wr) := hbel
   clear hbel
   go_wp2_with fail
   refine Calls.mono (KC1.out _) ?_
   rintro e w2 ⟨rfl, b2⟩
   have hown2 : OwnT w2 g (some ⟨g, 0, none⟩) m m (fun i => if i < q then S i else ByteArray.empty) := hown.out.below b2
   obtain ⟨old, hold⟩ : ∃ v, w2.cell? ⟨g, q, none⟩ = some v := by
    rw [World.ownsRow.cellAt hown2 q (by omega)]
    exact ⟨_, sL_get _ _ _ hlt⟩
   have hfr := World.ownsRow.frozenAt hown2 q
   have hst := World.ownsRow.stored hown2 q (.string s)
   rw [sL_set _ _ _ _ hlt] at hst
   have HO : Hid (OwnT (w2.setCell ⟨g, q, none⟩ (.string s)) g (some ⟨g, 0, none⟩) m m (fun i => if i < q + 1 then S i else ByteArray.empty)) := OwnT.congr hst.1 (fun i _ => by
    by_cases e : i = q
    ·simp [e, HS.out]
    ·by_cases e2 : i < q
     ·simp [e, e2, show i < q + 1 by omega]
     ·simp [e, e2, show ¬ i < q + 1 by omega])
   have hne : Below wc.heap.size wc (w2.setCell ⟨g, q, none⟩ (.string s)) := (below2 KB1.out b2).setCell (by rw [HG.out]; exact Nat.le_refl _) _
   have KNE : Hid _ := hne
   clear hst hown2 hown b2 hne hc
   go_wp2
   go_roundw
   case rel => exact ⟨q + 1, by omega, by go_num, HO, KNE.out⟩
   case measure => simp [intOf]; omega
  ·obtain rfl : q = m := by omega
   have HO : OwnT wr g (some ⟨g, 0, none⟩) q q S := hown.out.congr (fun i hi => if_pos hi)
   have RAr := RA.out.below hbel RA.out.lt
   have RDr := RD.out.below hbel RD.out.lt
   have hgA : A < g ∧ D < g := by rw [HG.out]; exact ⟨RA.out.lt, RD.out.lt⟩
   have HR3 : Hid (Row (((((((wr.setCell ⟨A, 5, none⟩ (.slice (some ⟨g, 0, none⟩) q q)).setCell ⟨D, 0, none⟩ (.string r)).setCell ⟨D, 1, none⟩ (.int .i64 k)).setCell ⟨D, 2, none⟩ (.int .i64 n)).setCell ⟨D, 3, none⟩ (.int .i64 i)).setCell ⟨D, 4, none⟩ (.string b)).setCell ⟨D, 5, none⟩ (.slice (some ⟨g, 0, none⟩) q q)) D 32 (pcC r k n i b (.slice (some ⟨g, 0, none⟩) q q))) := ((((((RDr.other 5 _ (Ne.symm hAD.out.1)).set 0 _).set 1 _).set 2 _).set 3 _).set 4 _).set 5 _
   have HO3 : Hid (OwnT (((((((wr.setCell ⟨A, 5, none⟩ (.slice (some ⟨g, 0, none⟩) q q)).setCell ⟨D, 0, none⟩ (.string r)).setCell ⟨D, 1, none⟩ (.int .i64 k)).setCell ⟨D, 2, none⟩ (.int .i64 n)).setCell ⟨D, 3, none⟩ (.int .i64 i)).setCell ⟨D, 4, none⟩ (.string b)).setCell ⟨D, 5, none⟩ (.slice (some ⟨g, 0, none⟩) q q)) w.heap.size (some ⟨g, 0, none⟩) q q S) := OwnT.base ((((((((HO.setFar hgA.1).setFar hgA.2).setFar hgA.2).setFar hgA.2).setFar hgA.2).setFar hgA.2).setFar hgA.2)) (by rw [HG.out]; exact KBc.out.size)
   have HB3 : Hid (Below w.heap.size w (((((((wr.setCell ⟨A, 5, none⟩ (.slice (some ⟨g, 0, none⟩) q q)).setCell ⟨D, 0, none⟩ (.string r)).setCell ⟨D, 1, none⟩ (.int .i64 k)).setCell ⟨D, 2, none⟩ (.int .i64 n)).setCell ⟨D, 3, none⟩ (.int .i64 i)).setCell ⟨D, 4, none⟩ (.string b)).setCell ⟨D, 5, none⟩ (.slice (some ⟨g, 0, none⟩) q q))) := (((((((below2 KBc.out hbel).setCell hAD.out.2.1 _).setCell hAD.out.2.2 _).setCell hAD.out.2.2 _).setCell hAD.out.2.2 _).setCell hAD.out.2.2 _).setCell hAD.out.2.2 _).setCell hAD.out.2.2 _
   have x0 := RAr.cell 0
   have x1 := RAr.cell 1
   have x2 := RAr.cell 2
   have x3 := RAr.cell 3
   have x4 := RAr.cell 4
   have x5 := RAr.cell 5
   have y0 := RDr.cell 0
   have y1 := RDr.cell 1
   have y2 := RDr.cell 2
   have y3 := RDr.cell 3
   have y4 := RDr.cell 4
   have y5 := RDr.cell 5
   have fA := RAr.free 5
   have f0 := RDr.free 0
   have f1 := RDr.free 1
   have f2 := RDr.free 2
   have f3 := RDr.free 3
   have f4 := RDr.free 4
   have f5 := RDr.free 5
   simp at x0 x1 x2 x3 x4 x5 y0 y1 y2 y3 y4 y5
   have hDA : ¬ D = A := fun e => hAD.out.1 e.symm
   have hAD' : ¬ A = D := hAD.out.1
   clear RAr RDr HO hbel hown
   go_wp2
   refine bodyPost_ret (v := pcV r k n i b (.slice (some ⟨g, 0, none⟩) q q)) (by
    have p0 := HR3.out.cell 0
    have p1 := HR3.out.cell 1
    have p2 := HR3.out.cell 2
    have p3 := HR3.out.cell 3
    have p4 := HR3.out.cell 4
    have p5 := HR3.out.cell 5
    simp at p0 p1 p2 p3 p4 p5
    simp [results, Tryz.results104, go_sem, p0, p1, p2, p3, p4, p5]) rfl ⟨g, rfl, HO3.out, HB3.out⟩
theorem Ow.far {w : World} {B : Nat} {d : Dt} {v : Value} {F : Nat → Prop} (h : Ow w B d v F) {g : Nat} (o : Nat) (x : Value) (hn : ¬ F g) : Ow (w.setCell ⟨g, o, none⟩ x) B d v F :=
 h.turned (Trn.set w o x (F := fun y => y = g) rfl) (fun _ hy e => hn (e ▸ hy))
structure SlO (w : World) (B : Nat) (s : Sl) (v6 v11 v12 : Value) (F6 F11 F12 : Nat → Prop) : Prop where
 t : Ow w B (txD s.p.m s.p.S) v6 F6
 e : Ow w B (inD s.ze) v11 F11
 z : Ow w B (inD s.zr) v12 F12
 d1 : ∀ g, F6 g → ¬ F11 g
 d2 : ∀ g, F6 g → ¬ F12 g
 d3 : ∀ g, F11 g → ¬ F12 g
structure SlK (s : Sl) : Prop where
 r : s.r.size ≤ 1048576
 pr : s.p.r.size ≤ 1048576
 pb : s.p.b.size ≤ 1048576
 m : s.p.m ≤ 1048576
 tx : ∀ i, i < s.p.m → (s.p.S i).size ≤ 1048576
 ne : s.ze.length ≤ 1048576
 nr : s.zr.length ≤ 1048576
def CpB (w0 wc w : World) (s : Sl) (A D g6 : Nat) (wx : World) : Prop := ∃ (e11 e12 : Option Addr) (h11 h12 : Nat) (F11 F12 : Nat → Prop), Row wx A 65 (slC s (.slice (some ⟨g6, 0, none⟩) s.p.m s.p.m) (.slice e11 s.ze.length h11) (.slice e12 s.zr.length h12)) ∧ Row wx D 65 #[.string ⟨#[]⟩, .string ⟨#[]⟩, .int .i64 0, .int .i64 0, .int .i64 0, .string ⟨#[]⟩, .slice none 0 0, .bool false, .bool false, .bool false, .bool false, .slice none 0 0, .slice none 0 0] ∧ OwnT wx w0.heap.size (some ⟨g6, 0, none⟩) s.p.m s.p.m s.p.S ∧ Ow wx wc.heap.size (inD s.ze) (.slice e11 s.ze.length h11) F11 ∧ Ow wx wc.heap.size (inD s.zr) (.slice e12 s.zr.length h12) F12 ∧ (∀ x, F11 x → ¬ F12 x) ∧ (∀ x, F11 x → wc.heap.size ≤ x) ∧ (∀ x, F12 x → wc.heap.size ≤ x) ∧ Below w.heap.size w wx
theorem cpB_a {w0 wc w w7 w8 : World} {s : Sl} {A D g6 h11 h12 c11 c12 : Nat} {e11 e12 a11 a12 : Option Addr} (RA : Row wc A 65 (slC s (.slice (some ⟨g6, 0, none⟩) s.p.m s.p.m) (.slice a11 s.ze.length c11) (.slice a12 s.zr.length c12))) (RD : Row wc D 65 #[.string ⟨#[]⟩, .string ⟨#[]⟩, .int .i64 0, .int .i64 0, .int .i64 0, .string ⟨#[]⟩, .slice none 0 0, .bool false, .bool false, .bool false, .bool false, .slice none 0 0, .slice none 0 0]) (O6 : OwnT wc w0.heap.size (some ⟨g6, 0, none⟩) s.p.m s.p.m s.p.S) (hA : A < w0.heap.size) (hAD : A ≠ D ∧ w.heap.size ≤ A) (B : Below w.heap.size w wc) (b7 : Below wc.heap.size wc w7) (O7 : Ow w7 wc.heap.size (inD s.ze) (.slice e11 s.ze.length h11) (rng wc.heap.size w7.heap.size)) (b8 : Below w7.heap.size w7 w8) (O8 : Ow w8 w7.heap.size (inD s.zr) (.slice e12 s.zr.length h12) (rng w7.heap.size w8.heap.size)) :
  CpB w0 wc w s A D g6 ((w8.setCell ⟨A, 11, none⟩ (.slice e11 s.ze.length h11)).setCell ⟨A, 12, none⟩ (.slice e12 s.zr.length h12)) := by
 have lA := RA.lt
 have n7 := b7.size
 have b78 := below2 b7 b8
 have h1 : ¬ rng wc.heap.size w7.heap.size A := fun h => by have := h.1; omega
 have h2 : ¬ rng w7.heap.size w8.heap.size A := fun h => by have := h.1; omega
 exact ⟨e11, e12, h11, h12, _, _, ((RA.below b78 lA).set 11 _).set 12 _, ((RD.below b78 RD.lt).other 11 _ (Ne.symm hAD.1)).other 12 _ (Ne.symm hAD.1), ((O6.below b78).setFar hA).setFar hA, ((O7.below b8).far 11 _ h1).far 12 _ h1, ((O8.base n7).far 11 _ h2).far 12 _ h2, fun x hx hy => by have := hx.2; have := hy.1; omega, fun x hx => hx.1, fun x hx => by have := hx.1; omega, ((below2 B b78).setCell hAD.2 _).setCell hAD.2 _⟩
theorem copiedS_any (s : Sl) (a6 a11 a12 : Option Addr) (c6 c11 c12 : Nat) (w : World) (h6 : TxtAt w a6 s.p.m s.p.S) (h11 : IntsAt w a11 s.ze.length s.ze) (h12 : IntsAt w a12 s.zr.length s.zr) (hs : SlK s) :
  Calls Tryz.prog 70 #[slV s (.slice a6 s.p.m c6) (.slice a11 s.ze.length c11) (.slice a12 s.zr.length c12)] w fun e w' => ∃ (g6 : Nat) (e11 e12 : Option Addr) (h11 h12 : Nat) (F6 F11 F12 : Nat → Prop), e = .returned (slV s (.slice (some ⟨g6, 0, none⟩) s.p.m s.p.m) (.slice e11 s.ze.length h11) (.slice e12 s.zr.length h12)) ∧ SlO w' w.heap.size s (.slice (some ⟨g6, 0, none⟩) s.p.m s.p.m) (.slice e11 s.ze.length h11) (.slice e12 s.zr.length h12) F6 F11 F12 ∧ Below w.heap.size w w' := by
 obtain ⟨A, HA⟩ : ∃ x, Hid (x = w.heap.size) := ⟨_, rfl⟩
 obtain ⟨D, HD⟩ : ∃ x, Hid (x = w.heap.size + 1) := ⟨_, rfl⟩
 obtain ⟨w0, HW0⟩ : ∃ x, Hid (x = (w.alloc (.cells (slC s (.slice a6 s.p.m c6) (.slice a11 s.ze.length c11) (.slice a12 s.zr.length c12)) 65)).alloc (.cells #[.string ⟨#[]⟩, .string ⟨#[]⟩, .int .i64 0, .int .i64 0, .int .i64 0, .string ⟨#[]⟩, .slice none 0 0, .bool false, .bool false, .bool false, .bool false, .slice none 0 0, .slice none 0 0] 65)) := ⟨_, rfl⟩
 have RA : Hid (Row w0 A 65 (slC s (.slice a6 s.p.m c6) (.slice a11 s.ze.length c11) (.slice a12 s.zr.length c12))) := by show Row _ _ _ _; rw [HW0.out, HA.out]; exact Row.alloc (Row.new w _ _) _
 have RD : Hid (Row w0 D 65 #[.string ⟨#[]⟩, .string ⟨#[]⟩, .int .i64 0, .int .i64 0, .int .i64 0, .string ⟨#[]⟩, .slice none 0 0, .bool false, .bool false, .bool false, .bool false, .slice none 0 0, .slice none 0 0]) := by
  show Row _ _ _ _
  rw [HW0.out, HD.out]
  have := Row.new (w.alloc (.cells (slC s (.slice a6 s.p.m c6) (.slice a11 s.ze.length c11) (.slice a12 s.zr.length c12)) 65)) #[.string ⟨#[]⟩, .string ⟨#[]⟩, .int .i64 0, .int .i64 0, .int .i64 0, .string ⟨#[]⟩, .slice none 0 0, .bool false, .bool false, .bool false, .bool false, .slice none 0 0, .slice none 0 0] 65
  simpa using this
 have hb0 : Below w.heap.size w w0 := by rw [HW0.out]; exact ((Below.refl _ _).alloc (Nat.le_refl _) _).alloc (by simp) _
 have KB0 : Hid (Below w.heap.size w w0) := hb0
 have hAD : Hid (A ≠ D ∧ w.heap.size ≤ A ∧ w.heap.size ≤ D) := ⟨by have := HA.out; have := HD.out; omega, by have := HA.out; omega, by have := HD.out; omega⟩
 have KCr : Hid (∀ W, Calls Tryz.prog 103 #[.string s.r] W fun e w' => e = .returned (.string s.r) ∧ Below W.heap.size W w') := fun W => clone_any s.r W hs.r
 have KCP : Hid (∀ W, Below w.heap.size w W → Calls Tryz.prog 104 #[pcV s.p.r s.p.k s.p.n s.p.i s.p.b (.slice a6 s.p.m c6)] W fun e w' => ∃ g, e = .returned (pcV s.p.r s.p.k s.p.n s.p.i s.p.b (.slice (some ⟨g, 0, none⟩) s.p.m s.p.m)) ∧ OwnT w' W.heap.size (some ⟨g, 0, none⟩) s.p.m s.p.m s.p.S ∧ Below W.heap.size W w') := fun W hW => copiedP_any _ _ _ _ _ a6 _ c6 _ W (h6.below hW) hs.m hs.pr hs.pb hs.tx
 have KC1 : Hid (∀ W, Below w.heap.size w W → Calls Tryz.prog 105 #[.slice a11 s.ze.length c11] W _) := fun W hW => cloneI_any a11 c11 s.ze W (h11.below hW) hs.ne
 have KC2 : Hid (∀ W, Below w.heap.size w W → Calls Tryz.prog 105 #[.slice a12 s.zr.length c12] W _) := fun W hW => cloneI_any a12 c12 s.zr W (h12.below hW) hs.nr
 clear h6 h11 h12 hb0 hs
 go_enter Tryz.func70, Tryz.ntmps70
 go_wp2_with fail
 rw [← HW0.out, ← HD.out, ← HA.out]
 go_cut [] from 3 to 10 (fun wx => Hid (∃ g6, Row wx A 65 (slC s (.slice (some ⟨g6, 0, none⟩) s.p.m s.p.m) (.slice a11 s.ze.length c11) (.slice a12 s.zr.length c12)) ∧ Row wx D 65 #[.string ⟨#[]⟩, .string ⟨#[]⟩, .int .i64 0, .int .i64 0, .int .i64 0, .string ⟨#[]⟩, .slice none 0 0, .bool false, .bool false, .bool false, .bool false, .slice none 0 0, .slice none 0 0] ∧ OwnT wx w0.heap.size (some ⟨g6, 0, none⟩) s.p.m s.p.m s.p.S ∧ Below w.heap.size w wx))
 case first =>
  have lA := RA.out.lt
  have lD := RD.out.lt
  have q0 := RA.out.cell 0
  have q1 := RA.out.cell 1
  have q2 := RA.out.cell 2
  have q3 := RA.out.cell 3
  have q4 := RA.out.cell 4
  have q5 := RA.out.cell 5
  have q6 := RA.out.cell 6
  have q7 := RA.out.cell 7
  have q8 := RA.out.cell 8
  have q9 := RA.out.cell 9
  have q10 := RA.out.cell 10
  have q11 := RA.out.cell 11
  have q12 := RA.out.cell 12
  simp at q0 q1 q2 q3 q4 q5 q6 q7 q8 q9 q10 q11 q12
  have KTW : Hid (∀ W, Below w0.heap.size w0 W → Row W A 65 (slC s (.slice a6 s.p.m c6) (.slice a11 s.ze.length c11) (.slice a12 s.zr.length c12)) ∧ Row W D 65 #[.string ⟨#[]⟩, .string ⟨#[]⟩, .int .i64 0, .int .i64 0, .int .i64 0, .string ⟨#[]⟩, .slice none 0 0, .bool false, .bool false, .bool false, .bool false, .slice none 0 0, .slice none 0 0] ∧ Below w.heap.size w W ∧ w0.heap.size ≤ W.heap.size) := fun W hW => ⟨RA.out.below hW lA, RD.out.below hW lD, below2 KB0.out hW, hW.size⟩
  have KST : Hid (∀ W, Row W A 65 (slC s (.slice a6 s.p.m c6) (.slice a11 s.ze.length c11) (.slice a12 s.zr.length c12)) ∧ Row W D 65 #[.string ⟨#[]⟩, .string ⟨#[]⟩, .int .i64 0, .int .i64 0, .int .i64 0, .string ⟨#[]⟩, .slice none 0 0, .bool false, .bool false, .bool false, .bool false, .slice none 0 0, .slice none 0 0] ∧ Below w.heap.size w W ∧ w0.heap.size ≤ W.heap.size → Row (W.setCell ⟨A, 0, none⟩ (.string s.r)) A 65 (slC s (.slice a6 s.p.m c6) (.slice a11 s.ze.length c11) (.slice a12 s.zr.length c12)) ∧ Row (W.setCell ⟨A, 0, none⟩ (.string s.r)) D 65 #[.string ⟨#[]⟩, .string ⟨#[]⟩, .int .i64 0, .int .i64 0, .int .i64 0, .string ⟨#[]⟩, .slice none 0 0, .bool false, .bool false, .bool false, .bool false, .slice none 0 0, .slice none 0 0] ∧ Below w.heap.size w (W.setCell ⟨A, 0, none⟩ (.string s.r)) ∧ w0.heap.size ≤ (W.setCell ⟨A, 0, none⟩ (.string s.r)).heap.size) := fun W hW => ⟨hW.1.set 0 _, hW.2.1.other 0 _ (Ne.symm hAD.out.1), hW.2.2.1.setCell hAD.out.2.1 _, by simpa using hW.2.2.2⟩
  have KNX : Hid (∀ W W' g, Row W A 65 (slC s (.slice a6 s.p.m c6) (.slice a11 s.ze.length c11) (.slice a12 s.zr.length c12)) ∧ Row W D 65 #[.string ⟨#[]⟩, .string ⟨#[]⟩, .int .i64 0, .int .i64 0, .int .i64 0, .string ⟨#[]⟩, .slice none 0 0, .bool false, .bool false, .bool false, .bool false, .slice none 0 0, .slice none 0 0] ∧ Below w.heap.size w W ∧ w0.heap.size ≤ W.heap.size → OwnT W' W.heap.size (some ⟨g, 0, none⟩) s.p.m s.p.m s.p.S → Below W.heap.size W W' → Row W' A 65 (slC s (.slice a6 s.p.m c6) (.slice a11 s.ze.length c11) (.slice a12 s.zr.length c12)) ∧ Row W' D 65 #[.string ⟨#[]⟩, .string ⟨#[]⟩, .int .i64 0, .int .i64 0, .int .i64 0, .string ⟨#[]⟩, .slice none 0 0, .bool false, .bool false, .bool false, .bool false, .slice none 0 0, .slice none 0 0] ∧ OwnT W' w0.heap.size (some ⟨g, 0, none⟩) s.p.m s.p.m s.p.S ∧ Below w.heap.size w W') := fun W W' g hW hO hB => ⟨hW.1.below hB hW.1.lt, hW.2.1.below hB hW.2.1.lt, OwnT.base hO hW.2.2.2, below2 hW.2.2.1 hB⟩
  have KQ : Hid (∀ W, Row W A 65 (slC s (.slice a6 s.p.m c6) (.slice a11 s.ze.length c11) (.slice a12 s.zr.length c12)) → W.cell? ⟨A, 0, none⟩ = some (.string s.r) ∧ W.cell? ⟨A, 1, none⟩ = some (.string s.p.r) ∧ W.cell? ⟨A, 2, none⟩ = some (.int .i64 s.p.k) ∧ W.cell? ⟨A, 3, none⟩ = some (.int .i64 s.p.n) ∧ W.cell? ⟨A, 4, none⟩ = some (.int .i64 s.p.i) ∧ W.cell? ⟨A, 5, none⟩ = some (.string s.p.b) ∧ W.cell? ⟨A, 6, none⟩ = some (.slice a6 s.p.m c6) ∧ W.cell? ⟨A, 7, none⟩ = some (.bool s.h) ∧ W.cell? ⟨A, 8, none⟩ = some (.bool s.e) ∧ W.cell? ⟨A, 9, none⟩ = some (.bool s.d) ∧ W.cell? ⟨A, 10, none⟩ = some (.bool s.o) ∧ W.cell? ⟨A, 11, none⟩ = some (.slice a11 s.ze.length c11) ∧ W.cell? ⟨A, 12, none⟩ = some (.slice a12 s.zr.length c12)) := fun W hW => by
   have z0 := hW.cell 0
   have z1 := hW.cell 1
   have z2 := hW.cell 2
   have z3 := hW.cell 3
   have z4 := hW.cell 4
   have z5 := hW.cell 5
   have z6 := hW.cell 6
   have z7 := hW.cell 7
   have z8 := hW.cell 8
   have z9 := hW.cell 9
   have z10 := hW.cell 10
   have z11 := hW.cell 11
   have z12 := hW.cell 12
   simp at z0 z1 z2 z3 z4 z5 z6 z7 z8 z9 z10 z11 z12
   exact ⟨z0, z1, z2, z3, z4, z5, z6, z7, z8, z9, z10, z11, z12⟩
  have KF : Hid (∀ W, Row W A 65 (slC s (.slice a6 s.p.m c6) (.slice a11 s.ze.length c11) (.slice a12 s.zr.length c12)) → W.frozen? ⟨A, 0, none⟩ = false ∧ W.frozen? ⟨A, 1, none⟩ = false ∧ W.frozen? ⟨A, 2, none⟩ = false ∧ W.frozen? ⟨A, 3, none⟩ = false ∧ W.frozen? ⟨A, 4, none⟩ = false ∧ W.frozen? ⟨A, 5, none⟩ = false ∧ W.frozen? ⟨A, 6, none⟩ = false) := fun W hW => ⟨hW.free 0, hW.free 1, hW.free 2, hW.free 3, hW.free 4, hW.free 5, hW.free 6⟩
  go_region_with ((first | (go_at_call 104; refine Calls.mono (KCP.out _ (by first | exact K7.out.2.2.1 | exact (KST.out _ K7.out).2.2.1)) ?_; rintro e w8 ⟨g6, rfl, O8, b8⟩; have K8 : Hid (Row w8 A 65 (slC s (.slice a6 s.p.m c6) (.slice a11 s.ze.length c11) (.slice a12 s.zr.length c12)) ∧ Row w8 D 65 #[.string ⟨#[]⟩, .string ⟨#[]⟩, .int .i64 0, .int .i64 0, .int .i64 0, .string ⟨#[]⟩, .slice none 0 0, .bool false, .bool false, .bool false, .bool false, .slice none 0 0, .slice none 0 0] ∧ OwnT w8 w0.heap.size (some ⟨g6, 0, none⟩) s.p.m s.p.m s.p.S ∧ Below w.heap.size w w8) := (by first | exact KNX.out _ _ _ K7.out O8 b8 | exact KNX.out _ _ _ (KST.out _ K7.out) O8 b8); clear O8 b8; obtain ⟨t0, t1, t2, t3, t4, t5, t6, t7, t8, t9, t10, t11, t12⟩ := KQ.out _ K8.out.1; obtain ⟨gf0, gf1, gf2, gf3, gf4, gf5, gf6⟩ := KF.out _ K8.out.1) | (go_at_call 103; refine Calls.mono (KCr.out _) ?_; rintro e w7 ⟨rfl, b7'⟩; have b07 := below_of_drew b7'; clear b7'; have K7 : Hid _ := KTW.out _ b07; clear b07; obtain ⟨p0, p1, p2, p3, p4, p5, p6, p7, p8, p9, p10, p11, p12⟩ := KQ.out _ K7.out.1; obtain ⟨pf0, pf1, pf2, pf3, pf4, pf5, pf6⟩ := KF.out _ K7.out.1)))
  all_goals
   have lA8 := lA
   go_wp2_with fail
   go_meet
   first
    | exact ⟨g6, (((((((K8.out.1.set 0 _).set 1 _).set 2 _).set 3 _).set 4 _).set 5 _).set 6 _), (((((((K8.out.2.1.other 0 _ (Ne.symm hAD.out.1)).other 1 _ (Ne.symm hAD.out.1)).other 2 _ (Ne.symm hAD.out.1)).other 3 _ (Ne.symm hAD.out.1)).other 4 _ (Ne.symm hAD.out.1)).other 5 _ (Ne.symm hAD.out.1)).other 6 _ (Ne.symm hAD.out.1)), (((((((K8.out.2.2.1.setFar lA8).setFar lA8).setFar lA8).setFar lA8).setFar lA8).setFar lA8).setFar lA8), (((((((K8.out.2.2.2.setCell hAD.out.2.1 _).setCell hAD.out.2.1 _).setCell hAD.out.2.1 _).setCell hAD.out.2.1 _).setCell hAD.out.2.1 _).setCell hAD.out.2.1 _).setCell hAD.out.2.1 _)⟩
    | exact ⟨g6, ((((((K8.out.1.set 1 _).set 2 _).set 3 _).set 4 _).set 5 _).set 6 _), ((((((K8.out.2.1.other 1 _ (Ne.symm hAD.out.1)).other 2 _ (Ne.symm hAD.out.1)).other 3 _ (Ne.symm hAD.out.1)).other 4 _ (Ne.symm hAD.out.1)).other 5 _ (Ne.symm hAD.out.1)).other 6 _ (Ne.symm hAD.out.1)), ((((((K8.out.2.2.1.setFar lA8).setFar lA8).setFar lA8).setFar lA8).setFar lA8).setFar lA8), ((((((K8.out.2.2.2.setCell hAD.out.2.1 _).setCell hAD.out.2.1 _).setCell hAD.out.2.1 _).setCell hAD.out.2.1 _).setCell hAD.out.2.1 _).setCell hAD.out.2.1 _)⟩
 obtain ⟨g6, RAc, RDc, Oc, Bc⟩ := hcut.out
 clear hcut RA RD KCr KCP
 have RA : Hid (Row wc A 65 (slC s (.slice (some ⟨g6, 0, none⟩) s.p.m s.p.m) (.slice a11 s.ze.length c11) (.slice a12 s.zr.length c12))) := RAc
 have RD : Hid (Row wc D 65 #[.string ⟨#[]⟩, .string ⟨#[]⟩, .int .i64 0, .int .i64 0, .int .i64 0, .string ⟨#[]⟩, .slice none 0 0, .bool false, .bool false, .bool false, .bool false, .slice none 0 0, .slice none 0 0]) := RDc
 have KO6 : Hid (OwnT wc w0.heap.size (some ⟨g6, 0, none⟩) s.p.m s.p.m s.p.S) := Oc
 have KBc : Hid (Below w.heap.size w wc) := Bc
 have HL0 : Hid (A < w0.heap.size ∧ D < w0.heap.size) := by
  have h1 := HA.out
  have h2 := HD.out
  rw [HW0.out]
  show A < _ ∧ D < _
  simp
  omega
 clear RAc RDc Oc Bc KB0 HW0
 go_upto_region 2 with fail
 obtain ⟨wb, HWB⟩ : ∃ x, x = wc := ⟨wc, rfl⟩
 subst HWB
 go_cut [] from 11 to 18 (fun wx => Hid (CpB w0 wb w s A D g6 wx))
 case first =>
  have lA := RA.out.lt
  have lD := RD.out.lt
  have q11 := RA.out.cell 11
  have q12 := RA.out.cell 12
  simp at q11 q12
  have KTW : Hid (∀ W, Below wb.heap.size wb W → (W.cell? ⟨A, 11, none⟩ = some (.slice a11 s.ze.length c11) ∧ W.cell? ⟨A, 12, none⟩ = some (.slice a12 s.zr.length c12)) ∧ W.frozen? ⟨A, 11, none⟩ = false ∧ W.frozen? ⟨A, 12, none⟩ = false) := fun W hW => by
   have R := RA.out.below hW lA
   have z11 := R.cell 11
   have z12 := R.cell 12
   simp at z11 z12
   exact ⟨⟨z11, z12⟩, R.free 11, R.free 12⟩
  have KTX : Hid (∀ W v W', Below wb.heap.size wb W → Below (W.setCell ⟨A, 11, none⟩ v).heap.size (W.setCell ⟨A, 11, none⟩ v) W' → W'.cell? ⟨A, 12, none⟩ = some (.slice a12 s.zr.length c12) ∧ W'.frozen? ⟨A, 12, none⟩ = false) := fun W v W' hW hW' => by
   have R := ((RA.out.below hW lA).set 11 v).below hW' (by simp; exact Nat.lt_of_lt_of_le lA hW.size)
   have z12 := R.cell 12
   simp at z12
   exact ⟨z12, R.free 12⟩
  go_region_with ((first | (guard_hyp d1; go_at_call 105; refine Calls.mono (KC2.out _ (by first | exact below2 KBc.out K7.out.1 | exact (below2 KBc.out K7.out.1).setCell hAD.out.2.1 _)) ?_; rintro e w8 ⟨e12, h12, rfl, O8, b8⟩; have KO8 : Hid _ := O8; have KB8 : Hid _ := b8; first | (obtain ⟨⟨t11, t12⟩, tf11, tf12⟩ := KTW.out _ (below2 K7.out.1 b8); clear O8 b8) | (obtain ⟨t12, tf12⟩ := KTX.out _ _ _ K7.out.1 b8; clear O8 b8)) | (go_at_call 105; refine Calls.mono (KC1.out _ (below_drewN KBc.out 1)) ?_; rintro e w7 ⟨e11, h11, rfl, O7, b7'⟩; have b07 := below_of_drew b7'; have K7 : Hid (Below wb.heap.size wb w7 ∧ Ow w7 wb.heap.size (inD s.ze) (.slice e11 s.ze.length h11) (rng wb.heap.size w7.heap.size)) := ⟨b07, O7⟩; have d1 : Hid True := trivial; clear b7' O7; obtain ⟨⟨p11, p12⟩, pf11, pf12⟩ := KTW.out _ b07; clear b07)))
  all_goals
   go_wp2_with fail
   go_meet
   first
    | exact cpB_a RA.out RD.out KO6.out HL0.out.1 ⟨hAD.out.1, hAD.out.2.1⟩ KBc.out K7.out.1 K7.out.2 KB8.out KO8.out
    | exact cpB_b RA.out RD.out KO6.out HL0.out.1 ⟨hAD.out.1, hAD.out.2.1⟩ KBc.out K7.out.1 K7.out.2 KB8.out KO8.out
 obtain ⟨e11, e12, h11, h12, F11, F12, RAd, RDd, O6, O11, O12, hd, hg1, hg2, Bd⟩ := hcut.out
 clear hcut KC1 KC2
 have LC : Hid (A < wb.heap.size ∧ D < wb.heap.size ∧ w.heap.size ≤ wb.heap.size) := ⟨RA.out.lt, RD.out.lt, KBc.out.size⟩
 have l6 := World.ownsRow.lt KO6.out g6 rfl
 have w0w : w.heap.size ≤ w0.heap.size := by have := HA.out; have := HL0.out.1; omega
 have HA6 : Hid (Row wc A 65 (slC s (.slice (some ⟨g6, 0, none⟩) s.p.m s.p.m) (.slice e11 s.ze.length h11) (.slice e12 s.zr.length h12))) := RAd
 have HD6 : Hid (Row wc D 65 #[.string ⟨#[]⟩, .string ⟨#[]⟩, .int .i64 0, .int .i64 0, .int .i64 0, .string ⟨#[]⟩, .slice none 0 0, .bool false, .bool false, .bool false, .bool false, .slice none 0 0, .slice none 0 0]) := RDd
 obtain ⟨w7, HW7⟩ : ∃ x, Hid (x = wc.setRow D (slC s (.slice (some ⟨g6, 0, none⟩) s.p.m s.p.m) (.slice e11 s.ze.length h11) (.slice e12 s.zr.length h12))) := ⟨_, rfl⟩
 have ZR : Hid (Row w7 D 65 (slC s (.slice (some ⟨g6, 0, none⟩) s.p.m s.p.m) (.slice e11 s.ze.length h11) (.slice e12 s.zr.length h12))) := by show Row _ _ _ _; rw [HW7.out]; exact RDd.row
 have ZB : Hid (Below w.heap.size w w7) := by show Below _ _ _; rw [HW7.out]; exact belowSetRow Bd hAD.out.2.2 _
 have Z6 : Hid (Ow w7 w.heap.size (txD s.p.m s.p.S) (.slice (some ⟨g6, 0, none⟩) s.p.m s.p.m) (fun x => x = g6)) := by
  show Ow _ _ _ _ _
  rw [HW7.out]
  refine ow_txt (own_kept (OwnT.base O6 w0w) (grown_row _ _ _) (fun x e => ?_)) (fun x e => by cases e; rfl)
  cases e
  show g6 ≠ D
  have := l6.1
  have := HL0.out.2
  omega
 have Z11 : Hid (Ow w7 w.heap.size (inD s.ze) (.slice e11 s.ze.length h11) F11) := by
  show Ow _ _ _ _ _
  rw [HW7.out]
  exact (O11.base LC.out.2.2).frame fun x hx _ => setRow_other _ _ _ _ (fun e => by have := hg1 x hx; have := LC.out.2.1; omega)
 have Z12 : Hid (Ow w7 w.heap.size (inD s.zr) (.slice e12 s.zr.length h12) F12) := by
  show Ow _ _ _ _ _
  rw [HW7.out]
  exact (O12.base LC.out.2.2).frame fun x hx _ => setRow_other _ _ _ _ (fun e => by have := hg2 x hx; have := LC.out.2.1; omega)
 have HSO : Hid (SlO w7 w.heap.size s (.slice (some ⟨g6, 0, none⟩) s.p.m s.p.m) (.slice e11 s.ze.length h11) (.slice e12 s.zr.length h12) (fun x => x = g6) F11 F12) := ⟨Z6.out, Z11.out, Z12.out, fun x e h => by have := hg1 x h; have := l6.2; omega, fun x e h => by have := hg2 x h; have := l6.2; omega, hd⟩
 clear RAd RDd O6 O11 O12 hd hg1 hg2 Bd l6 w0w Z6 Z11 Z12 RA RD KO6 KBc
 go_wp2_with (first | (refine wpList_load_row (by rfl) 65 _ (by rfl) A (by rfl) 65 (slC s (.slice (some ⟨g6, 0, none⟩) s.p.m s.p.m) (.slice e11 s.ze.length h11) (.slice e12 s.zr.length h12)) (0, 0) _ ?_ Tryz.underlying65 (by rfl) Tryz.infoSl ?_; exact HA6.out) | (refine wpList_store_row (by rfl) 65 _ _ (by rfl) D (slC s (.slice (some ⟨g6, 0, none⟩) s.p.m s.p.m) (.slice e11 s.ze.length h11) (.slice e12 s.zr.length h12)) (by rfl) (by rfl) 65 #[.string ⟨#[]⟩, .string ⟨#[]⟩, .int .i64 0, .int .i64 0, .int .i64 0, .string ⟨#[]⟩, .slice none 0 0, .bool false, .bool false, .bool false, .bool false, .slice none 0 0, .slice none 0 0] ?_ Tryz.infoSl rfl (by simp [Value.oneCell']) ?_; exact HD6.out; rw [← HW7.out]))
 exact bodyPost_ret (v := slV s (.slice (some ⟨g6, 0, none⟩) s.p.m s.p.m) (.slice e11 s.ze.length h11) (.slice e12 s.zr.length h12)) (results_cell_row Tryz.results70 _ _ D 65 _ (0, 0) _ (by rfl) ZR.out Tryz.underlying65 (by rfl) Tryz.infoSl) rfl ⟨g6, e11, e12, h11, h12, _, _, _, rfl, HSO.out, ZB.out⟩
end Go.Proofs.YtaenoiffamgcfaaGreatDoor
