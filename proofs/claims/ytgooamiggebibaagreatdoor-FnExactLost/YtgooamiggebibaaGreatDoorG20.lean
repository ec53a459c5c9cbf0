import Derived.Test.YtgooamiggebibaaGreatDoorG16
import Derived.Deep.CutRange
set_option maxHeartbeats 8000000
set_option maxRecDepth 2000
open Go.ChangeShapes Go.WideShapes Go.ChangeAt Go.RowKit
namespace Go.Proofs.YtgooamiggebibaaGreatDoor
theorem Ow.far {w : World} {B : Nat} {d : Dt} {v : Value} {F : Nat → Prop} (h : Ow w B d v F) {g : Nat} (o : Nat) (x : Value) (hn : ¬ F g) : Ow (w.setCell ⟨g, o, none⟩ x) B d v F :=
 h.turned (Trn.set w o x (F := fun y => y = g) rfl) (fun _ hy e => hn (e ▸ hy))
structure SlO (w : World) (B : Nat) (s : Sl) (v6 v11 v12 : Value) (F6 F11 F12 : Nat → Prop) : Prop where
 t : Ow w B (txD s.p.m s.p.S) v6 F6
 e : Ow w B (inD s.ze) v11 F11
 z : Ow w B (inD s.zr) v12 F12
 d1 : ∀ g, F6 g → ¬ F11 g
 d2 : ∀ g, F6 g → ¬ F12 g
 d3 : ∀ g, F11 g → ¬ F12 g
structure SlK (s : Sl) : Prop where
 r : s.r.size ≤ 1048576
 pr : s.p.r.size ≤ 1048576
 pb : s.p.b.size ≤ 1048576
 m : s.p.m ≤ 1048576
 tx : ∀ i, i < s.p.m → (s.p.S i).size ≤ 1048576
 ne : s.ze.length ≤ 1048576
 nr : s.zr.length ≤ 1048576
def CpB (w0 wc w : World) (s : Sl) (A D g6 : Nat) (wx : World) : Prop := ∃ (e11 e12 : Option Addr) (h11 h12 : Nat) (F11 F12 : Nat → Prop), Row wx A 90 (slC s (.slice (some ⟨g6, 0, none⟩) s.p.m s.p.m) (.slice e11 s.ze.length h11) (.slice e12 s.zr.length h12)) ∧ Row wx D 90 #[.string ⟨#[]⟩, .string ⟨#[]⟩, .int .i64 0, .int .i64 0, .int .i64 0, .string ⟨#[]⟩, .slice none 0 0, .bool false, .bool false, .bool false, .bool false, .slice none 0 0, .slice none 0 0] ∧ OwnT wx w0.heap.size (some ⟨g6, 0, none⟩) s.p.m s.p.m s.p.S ∧ Ow wx wc.heap.size (inD s.ze) (.slice e11 s.ze.length h11) F11 ∧ Ow wx wc.heap.size (inD s.zr) (.slice e12 s.zr.length h12) F12 ∧ (∀ x, F11 x → ¬ F12 x) ∧ (∀ x, F11 x → wc.heap.size ≤ x) ∧ (∀ x, F12 x → wc.heap.size ≤ x) ∧ Below w.heap.size w wx
theorem cpB_a {w0 wc w w7 w8 : World} {s : Sl} {A D g6 h11 h12 c11 c12 : Nat} {e11 e12 a11 a12 : Option Addr} (RA : Row wc A 90 (slC s (.slice (some ⟨g6, 0, none⟩) s.p.m s.p.m) (.slice a11 s.ze.length c11) (.slice a12 s.zr.length c12))) (RD : Row wc D 90 #[.string ⟨#[]⟩, .string ⟨#[]⟩, .int .i64 0, .int .i64 0, .int .i64 0, .string ⟨#[]⟩, .slice none 0 0, .bool false, .bool false, .bool false, .bool false, .slice none 0 0, .slice none 0 0]) (O6 : OwnT wc w0.heap.size (some ⟨g6, 0, none⟩) s.p.m s.p.m s.p.S) (hA : A < w0.heap.size) (hAD : A ≠ D ∧ w.heap.size ≤ A) (B : Below w.heap.size w wc) (b7 : Below wc.heap.size wc w7) (O7 : Ow w7 wc.heap.size (inD s.ze) (.slice e11 s.ze.length h11) (rng wc.heap.size w7.heap.size)) (b8 : Below w7.heap.size w7 w8) (O8 : Ow w8 w7.heap.size (inD s.zr) (.slice e12 s.zr.length h12) (rng w7.heap.size w8.heap.size)) :
  CpB w0 wc w s A D g6 ((w8.setCell ⟨A, 11, none⟩ (.slice e11 s.ze.length h11)).setCell ⟨A, 12, none⟩ (.slice e12 s.zr.length h12)) := by
 have lA := RA.lt
 have n7 := b7.size
 have b78 := below2 b7 b8
 have h1 : ¬ rng wc.heap.size w7.heap.size A := fun h => by have := h.1; omega
 have h2 : ¬ rng w7.heap.size w8.heap.size A := fun h => by have := h.1; omega
 exact ⟨e11, e12, h11, h12, _, _, ((RA.below b78 lA).set 11 _).set 12 _, ((RD.below b78 RD.lt).other 11 _ (Ne.symm hAD.1)).other 12 _ (Ne.symm hAD.1), ((O6.below b78).setFar hA).setFar hA, ((O7.below b8).far 11 _ h1).far 12 _ h1, ((O8.base n7).far 11 _ h2).far 12 _ h2, fun x hx hy => by have := hx.2; have := hy.1; omega, fun x hx => hx.1, fun x hx => by have := hx.1; omega, ((below2 B b78).setCell hAD.2 _).setCell hAD.2 _⟩
theorem copiedS_any (s : Sl) (a6 a11 a12 : Option Addr) (c6 c11 c12 : Nat) (w : World) (h6 : TxtAt w a6 s.p.m s.p.S) (h11 : IntsAt w a11 s.ze.length s.ze) (h12 : IntsAt w a12 s.zr.length s.zr) (hs : SlK s) :
  Calls Tryz.prog 91 #[slV s (.slice a6 s.p.m c6) (.slice a11 s.ze.length c11) (.slice a12 s.zr.length c12)] w fun e w' => ∃ (g6 : Nat) (e11 e12 : Option Addr) (h11 h12 : Nat) (F6 F11 F12 : Nat → Prop), e = .returned (slV s (.slice (some ⟨g6, 0, none⟩) s.p.m s.p.m) (.slice e11 s.ze.length h11) (.slice e12 s.zr.length h12)) ∧ SlO w' w.heap.size s (.slice (some ⟨g6, 0, none⟩) s.p.m s.p.m) (.slice e11 s.ze.length h11) (.slice e12 s.zr.length h12) F6 F11 F12 ∧ Below w.heap.size w w' := by
 obtain ⟨A, HA⟩ : ∃ x, Hid (x = w.heap.size) := ⟨_, rfl⟩
 obtain ⟨D, HD⟩ : ∃ x, Hid (x = w.heap.size + 1) := ⟨_, rfl⟩
 obtain ⟨w0, HW0⟩ : ∃ x, Hid (x = (w.alloc (.cells (slC s (.slice a6 s.p.m c6) (.slice a11 s.ze.length c11) (.slice a12 s.zr.length c12)) 90)).alloc (.cells #[.string ⟨#[]⟩, .string ⟨#[]⟩, .int .i64 0, .int .i64 0, .int .i64 0, .string ⟨#[]⟩, .slice none 0 0, .bool false, .bool false, .bool false, .bool false, .slice none 0 0, .slice none 0 0] 90)) := ⟨_, rfl⟩
 have RA : Hid (Row w0 A 90 (slC s (.slice a6 s.p.m c6) (.slice a11 s.ze.length c11) (.slice a12 s.zr.length c12))) := by show Row _ _ _ _; rw [HW0.out, HA.out]; exact Row.alloc (Row.new w _ _) _
 have RD : Hid (Row w0 D 90 #[.string ⟨#[]⟩, .string ⟨#[]⟩, .int .i64 0, .int .i64 0, .int .i64 0, .string ⟨#[]⟩, .slice none 0 0, .bool false, .bool false, .bool false, .bool false, .slice none 0 0, .slice none 0 0]) := by
  show Row _ _ _ _
  rw [HW0.out, HD.out]
  have := Row.new (w.alloc (.cells (slC s (.slice a6 s.p.m c6) (.slice a11 s.ze.length c11) (.slice a12 s.zr.length c12)) 90)) #[.string ⟨#[]⟩, .string ⟨#[]⟩, .int .i64 0, .int .i64 0, .int .i64 0, .string ⟨#[]⟩, .slice none 0 0, .bool false, .bool false, .bool false, .bool false, .slice none 0 0, .slice none 0 0] 90
  simpa using this
 have hb0 : Below w.heap.size w w0 := by rw [HW0.out]; exact ((Below.refl _ _).alloc (Nat.le_refl _) _).alloc (by simp) _
 have KB0 : Hid (Below w.heap.size w w0) := hb0
 have hAD : Hid (A ≠ D ∧ w.heap.size ≤ A ∧ w.heap.size ≤ D) := ⟨by have := HA.out; have := HD.out; omega, by have := HA.out; omega, by have := HD.out; omega⟩
 have KCr : Hid (∀ W, Calls Tryz.prog 23 #[.string s.r] W fun e w' => e = .returned (.string s.r) ∧ Below W.heap.size W w') := fun W => clone_any s.r W hs.r
 have KCP : Hid (∀ W, Below w.heap.size w W → Calls Tryz.prog 126 #[pcV s.p.r s.p.k s.p.n s.p.i s.p.b (.slice a6 s.p.m c6)] W fun e w' => ∃ g, e = .returned (pcV s.p.r s.p.k s.p.n s.p.i s.p.b (.slice (some ⟨g, 0, none⟩) s.p.m s.p.m)) ∧ OwnT w' W.heap.size (some ⟨g, 0, none⟩) s.p.m s.p.m s.p.S ∧ Below W.heap.size W w') := fun W hW => copiedP_any _ _ _ _ _ a6 _ c6 _ W (h6.below hW) hs.m hs.pr hs.pb hs.tx
 have KC1 : Hid (∀ W, Below w.heap.size w W → Calls Tryz.prog 127 #[.slice a11 s.ze.length c11] W _) := fun W hW => cloneI_any a11 c11 s.ze W (h11.below hW) hs.ne
 have KC2 : Hid (∀ W, Below w.heap.size w W → Calls Tryz.prog 127 #[.slice a12 s.zr.length c12] W _) := fun W hW => cloneI_any a12 c12 s.zr W (h12.below hW) hs.nr
 clear h6 h11 h12 hb0 hs
 go_enter Tryz.func91, Tryz.ntmps91
 go_wp2_with fail
 rw [← HW0.out, ← HD.out, ← HA.out]
 go_cut [] from 3 to 10 (fun wx => Hid (∃ g6, Row wx A 90 (slC s (.slice (some ⟨g6, 0, none⟩) s.p.m s.p.m) (.slice a11 s.ze.length c11) (.slice a12 s.zr.length c12)) ∧ Row wx D 90 #[.string ⟨#[]⟩, .string ⟨#[]⟩, .int .i64 0, .int .i64 0, .int .i64 0, .string ⟨#[]⟩, .slice none 0 0, .bool false, .bool false, .bool false, .bool false, .slice none 0 0, .slice none 0 0] ∧ OwnT wx w0.heap.size (some ⟨g6, 0, none⟩) s.p.m s.p.m s.p.S ∧ Below w.heap.size w wx))
 case first =>
  have lA := RA.out.lt
  have lD := RD.out.lt
  have q0 := RA.out.cell 0
  have q1 := RA.out.cell 1
  have q2 := RA.out.cell 2
  have q3 := RA.out.cell 3
  have q4 := RA.out.cell 4
  have q5 := RA.out.cell 5
  have q6 := RA.out.cell 6
  have q7 := RA.out.cell 7
  have q8 := RA.out.cell 8
  have q9 := RA.out.cell 9
  have q10 := RA.out.cell 10
  have q11 := RA.out.cell 11
  have q12 := RA.out.cell 12
  simp at q0 q1 q2 q3 q4 q5 q6 q7 q8 q9 q10 q11 q12
  have KTW : Hid (∀ W, Below w0.heap.size w0 W → Row W A 90 (slC s (.slice a6 s.p.m c6) (.slice a11 s.ze.length c11) (.slice a12 s.zr.length c12)) ∧ Row W D 90 #[.string ⟨#[]⟩, .string ⟨#[]⟩, .int .i64 0, .int .i64 0, .int .i64 0, .string ⟨#[]⟩, .slice none 0 0, .bool false, .bool false, .bool false, .bool false, .slice none 0 0, .slice none 0 0] ∧ Below w.heap.size w W ∧ w0.heap.size ≤ W.heap.size) := fun W hW => ⟨RA.out.below hW lA, RD.out.below hW lD, below2 KB0.out hW, hW.size⟩
  have KST : Hid (∀ W, Row W A 90 (slC s (.slice a6 s.p.m c6) (.slice a11 s.ze.length c11) (.slice a12 s.zr.length c12)) ∧ Row W D 90 #[.string ⟨#[]⟩, .string ⟨#[]⟩, .int .i64 0, .int .i64 0, .int .i64 0, .string ⟨#[]⟩, .slice none 0 0, .bool false, .bool false, .bool false, .bool false, .slice none 0 0, .slice none 0 0] ∧ Below w.heap.size w W ∧ w0.heap.size ≤ W.heap.size → Row (W.setCell ⟨A, 0, none⟩ (.string s.r)) A 90 (slC s (.slice a6 s.p.m c6) (.slice a11 s.ze.length c11) (.slice a12 s.zr.length c12)) ∧ Row (W.setCell ⟨A, 0, none⟩ (.string s.r)) D 90 #[.string ⟨#[]⟩, .string ⟨#[]⟩, .int .i64 0, .int .i64 0, .int .i64 0, .string ⟨#[]⟩, .slice none 0 0, .bool false, .bool false, .bool false, .bool false, .slice none 0 0, .slice none 0 0] ∧ Below w.heap.size w (W.setCell ⟨A, 0, none⟩ (.string s.r)) ∧ w0.heap.size ≤ (W.setCell ⟨A, 0, none⟩ (.string s.r)).heap.size) := fun W hW => ⟨hW.1.set 0 _, hW.2.1.other 0 _ (Ne.symm hAD.out.1), hW.2.2.1.setCell hAD.out.2.1 _, by simpa using hW.2.2.2⟩
  have KNX : Hid (∀ W W' g, Row W A 90 (slC s (.slice a6 s.p.m c6) (.slice a11 s.ze.length c11) (.slice a12 s.zr.length c12)) ∧ Row W D 90 #[.string ⟨#[]⟩, .string ⟨#[]⟩, .int .i64 0, .int .i64 0, .int .i64 0, .string ⟨#[]⟩, .slice none 0 0, .bool false, .bool false, .bool false, .bool false, .slice none 0 0, .slice none 0 0] ∧ Below w.heap.size w W ∧ w0.heap.size ≤ W.heap.size → OwnT W' W.heap.size (some ⟨g, 0, none⟩) s.p.m s.p.m s.p.S → Below W.heap.size W W' → Row W' A 90 (slC s (.slice a6 s.p.m c6) (.slice a11 s.ze.length c11) (.slice a12 s.zr.length c12)) ∧ Row W' D 90 #[.string ⟨#[]⟩, .string ⟨#[]⟩, .int .i64 0, .int .i64 0, .int .i64 0, .string ⟨#[]⟩, .slice none 0 0, .bool false, .bool false, .bool false, .bool false, .slice none 0 0, .slice none 0 0] ∧ OwnT W' w0.heap.size (some ⟨g, 0, none⟩) s.p.m s.p.m s.p.S ∧ Below w.heap.size w W') := fun W W' g hW hO hB => ⟨hW.1.below hB hW.1.lt, hW.2.1.below hB hW.2.1.lt, OwnT.base hO hW.2.2.2, below2 hW.2.2.1 hB⟩
  have KQ : Hid (∀ W, Row W A 90 (slC s (.slice a6 s.p.m c6) (.slice a11 s.ze.length c11) (.slice a12 s.zr.length c12)) → W.cell? ⟨A, 0, none⟩ = some (.string s.r) ∧ W.cell? ⟨A, 1, none⟩ = some (.string s.p.r) ∧ W.cell? ⟨A, 2, none⟩ = some (.int .i64 s.p.k) ∧ W.cell? ⟨A, 3, none⟩ = some (.int .i64 s.p.n) ∧ W.cell? ⟨A, 4, none⟩ = some (.int .i64 s.p.i) ∧ W.cell? ⟨A, 5, none⟩ = some (.string s.p.b) ∧ W.cell? ⟨A, 6, none⟩ = some (.slice a6 s.p.m c6) ∧ W.cell? ⟨A, 7, none⟩ = some (.bool s.h) ∧ W.cell? ⟨A, 8, none⟩ = some (.bool s.e) ∧ W.cell? ⟨A, 9, none⟩ = some (.bool s.d) ∧ W.cell? ⟨A, 10, none⟩ = some (.bool s.o) ∧ W.cell? ⟨A, 11, none⟩ = some (.slice a11 s.ze.length c11) ∧ W.cell? ⟨A, 12, none⟩ = some (.slice a12 s.zr.length c12)) := fun W hW => by
   have z0 := hW.cell 0
   have z1 := hW.cell 1
   have z2 := hW.cell 2
   have z3 := hW.cell 3
   have z4 := hW.cell 4
   have z5 := hW.cell 5
   have z6 := hW.cell 6
   have z7 := hW.cell 7
   have z8 := hW.cell 8
   have z9 := hW.cell 9
   have z10 := hW.cell 10
   have z11 := hW.cell 11
   have z12 := hW.cell 12
   simp at z0 z1 z2 z3 z4 z5 z6 z7 z8 z9 z10 z11 z12
   exact ⟨z0, z1, z2, z3, z4, z5, z6, z7, z8, z9, z10, z11, z12⟩
  have KF : Hid (∀ W, Row W A 90 (slC s (.slice a6 s.p.m c6) (.slice a11 s.ze.length c11) (.slice a12 s.zr.length c12)) → W.frozen? ⟨A, 0, none⟩ = false ∧ W.frozen? ⟨A, 1, none⟩ = false ∧ W.frozen? ⟨A, 2, none⟩ = false ∧ W.frozen? ⟨A, 3, none⟩ = false ∧ W.frozen? ⟨A, 4, none⟩ = false ∧ W.frozen? ⟨A, 5, none⟩ = false ∧ W.frozen? ⟨A, 6, none⟩ = false) := fun W hW => ⟨hW.free 0, hW.free 1, hW.free 2, hW.free 3, hW.free 4, hW.free 5, hW.free 6⟩
  go_region_with ((first | (go_at_call 126; refine Calls.mono (KCP.out _ (by first | exact K7.out.2.2.1 | exact (KST.out _ K7.out).2.2.1)) ?_; rintro e w8 ⟨g6, rfl, O8, b8⟩; have K8 : Hid (Row w8 A 90 (slC s (.slice a6 s.p.m c6) (.slice a11 s.ze.length c11) (.slice a12 s.zr.length c12)) ∧ Row w8 D 90 #[.string ⟨#[]⟩, .string ⟨#[]⟩, .int .i64 0, .int .i64 0, .int .i64 0, .string ⟨#[]⟩, .slice none 0 0, .bool false, .bool false, .bool false, .bool false, .slice none 0 0, .slice none 0 0] ∧ OwnT w8 w0.heap.size (some ⟨g6, 0, none⟩) s.p.m s.p.m s.p.S ∧ Below w.heap.size w w8) := (by first | exact KNX.out _ _ _ K7.out O8 b8 | exact KNX.out _ _ _ (KST.out _ K7.out) O8 b8); clear O8 b8; obtain ⟨t0, t1, t2, t3, t4, t5, t6, t7, t8, t9, t10, t11, t12⟩ := KQ.out _ K8.out.1; obtain ⟨gf0, gf1, gf2, gf3, gf4, gf5, gf6⟩ := KF.out _ K8.out.1) | (go_at_call 23; refine Calls.mono (KCr.out _) ?_; rintro e w7 ⟨rfl, b7'⟩; have b07 := below_of_drew b7'; clear b7'; have K7 : Hid _ := KTW.out _ b07; clear b07; obtain ⟨p0, p1, p2, p3, p4, p5, p6, p7, p8, p9, p10, p11, p12⟩ := KQ.out _ K7.out.1; obtain ⟨pf0, pf1, pf2, pf3, pf4, pf5, pf6⟩ := KF.out _ K7.out.1)))
  all_goals
   have lA8 := lA
   go_wp2_with fail
   go_meet
   first
    | exact ⟨g6, (((((((K8.out.1.set 0 _).set 1 _).set 2 _).set 3 _).set 4 _).set 5 _).set 6 _), (((((((K8.out.2.1.other 0 _ (Ne.symm hAD.out.1)).other 1 _ (Ne.symm hAD.out.1)).other 2 _ (Ne.symm hAD.out.1)).other 3 _ (Ne.symm hAD.out.1)).other 4 _ (Ne.symm hAD.out.1)).other 5 _ (Ne.symm hAD.out.1)).other 6 _ (Ne.symm hAD.out.1)), (((((((K8.out.2.2.1.setFar lA8).setFar lA8).setFar lA8).setFar lA8).setFar lA8).setFar lA8).setFar lA8), (((((((K8.out.2.2.2.setCell hAD.out.2.1 _).setCell hAD.out.2.1 _).setCell hAD.out.2.1 _).setCell hAD.out.2.1 _).setCell hAD.out.2.1 _).setCell hAD.out.2.1 _).setCell hAD.out.2.1 _)⟩
    | exact ⟨g6, ((((((K8.out.1.set 1 _).set 2 _).set 3 _).set 4 _).set 5 _).set 6 _), ((((((K8.out.2.1.other 1 _ (Ne.symm hAD.out.1)).other 2 _ (Ne.symm hAD.out.1)).other 3 _ (Ne.symm hAD.out.1)).other 4 _ (Ne.symm hAD.out.1)).other 5 _ (Ne.symm hAD.out.1)).other 6 _ (Ne.symm hAD.out.1)), ((((((K8.out.2.2.1.setFar lA8).setFar lA8).setFar lA8).setFar lA8).setFar lA8).setFar lA8), ((((((K8.out.2.2.2.setCell hAD.out.2.1 _).setCell hAD.out.2.1 _).setCell hAD.out.2.1 _).setCell hAD.out.2.1 _).setCell hAD.out.2.1 _).setCell hAD.out.2.1 _)⟩
 obtain ⟨g6, RAc, RDc, Oc, Bc⟩ := hcut.out
 clear hcut RA RD KCr KCP
 have RA : Hid (Row wc A 90 (slC s (.slice (some ⟨g6, 0, none⟩) s.p.m s.p.m) (.slice a11 s.ze.length c11) (.slice a12 s.zr.length c12))) := RAc
 have RD : Hid (Row wc D 90 #[.string ⟨#[]⟩, .string ⟨#[]⟩, .int .i64 0, .int .i64 0, .int .i64 0, .string ⟨#[]⟩, .slice none 0 0, .bool false, .bool false, .bool false, .bool false, .slice none 0 0, .slice none 0 0]) := RDc
 have KO6 : Hid (OwnT wc w0.heap.size (some ⟨g6, 0, none⟩) s.p.m s.p.m s.p.S) := Oc
 have KBc : Hid (Below w.heap.size w wc) := Bc
 have HL0 : Hid (A < w0.heap.size ∧ D < w0.heap.size) := by
  have h1 := HA.out
  have h2 := HD.out
  rw [HW0.out]
  show A < _ ∧ D < _
  simp
  omega
 clear RAc RDc Oc Bc KB0 HW0
 go_upto_region 2 with fail
 obtain ⟨wb, HWB⟩ : ∃ x, x = wc := ⟨wc, rfl⟩
 subst HWB
 go_cut [] from 11 to 18 (fun wx => Hid (CpB w0 wb w s A D g6 wx))
 case first =>
  have lA := RA.out.lt
  have lD := RD.out.lt
  have q11 := RA.out.cell 11
  have q12 := RA.out.cell 12
  simp at q11 q12
  have KTW : Hid (∀ W, Below wb.heap.size wb W → (W.cell? ⟨A, 11, none⟩ = some (.slice a11 s.ze.length c11) ∧ W.cell? ⟨A, 12, none⟩ = some (.slice a12 s.zr.length c12)) ∧ W.frozen? ⟨A, 11, none⟩ = false ∧ W.frozen? ⟨A, 12, none⟩ = false) := fun W hW => by
   have R := RA.out.below hW lA
   have z11 := R.cell 11
   have z12 := R.cell 12
   simp at z11 z12
   exact ⟨⟨z11, z12⟩, R.free 11, R.free 12⟩
  have KTX : Hid (∀ W v W', Below wb.heap.size wb W → Below (W.setCell ⟨A, 11, none⟩ v).heap.size (W.setCell ⟨A, 11, none⟩ v) W' → W'.cell? ⟨A, 12, none⟩ = some (.slice a12 s.zr.length c12) ∧ W'.frozen? ⟨A, 12, none⟩ = false) := fun W v W' hW hW' => by
   have R := ((RA.out.below hW lA).set 11 v).below hW' (by simp; exact Nat.lt_of_lt_of_le lA hW.size)
   have z12 := R.cell 12
   simp at z12
   exact ⟨z12, R.free 12⟩
  go_region_with ((first | (guard_hyp d1; go_at_call 127; refine Calls.mono (KC2.out _ (by first | exact below2 KBc.out K7.out.1 | exact (below2 KBc.out K7.out.1).setCell hAD.out.2.1 _)) ?_; rintro e w8 ⟨e12, h12, rfl, O8, b8⟩; have KO8 : Hid _ := O8; have KB8 : Hid _ := b8; first | (obtain ⟨⟨t11, t12⟩, tf11, tf12⟩ := KTW.out _ (below2 K7.out.1 b8); clear O8 b8) | (obtain ⟨t12, tf12⟩ := KTX.out _ _ _ K7.out.1 b8; clear O8 b8)) | (go_at_call 127; refine Calls.mono (KC1.out _ (below_drewN KBc.out 1)) ?_; rintro e w7 ⟨e11, h11, rfl, O7, b7'⟩; have b07 := below_of_drew b7'; have K7 : Hid (Below wb.heap.size wb w7 ∧ Ow w7 wb.heap.size (inD s.ze) (.slice e11 s.ze.length h11) (rng wb.heap.size w7.heap.size)) := ⟨b07, O7⟩; have d1 : Hid True := trivial; clear b7' O7; obtain ⟨⟨p11, p12⟩, pf11, pf12⟩ := KTW.out _ b07; clear b07)))
  all_goals
   go_wp2_with fail
   go_meet
   first
    | exact cpB_a RA.out RD.out KO6.out HL0.out.1 ⟨hAD.out.1, hAD.out.2.1⟩ KBc.out K7.out.1 K7.out.2 KB8.out KO8.out
    | exact cpB_b RA.out RD.out KO6.out HL0.out.1 ⟨hAD.out.1, hAD.out.2.1⟩ KBc.out K7.out.1 K7.out.2 KB8.out KO8.out
 obtain ⟨e11, e12, h11, h12, F11, F12, RAd, RDd, O6, O11, O12, hd, hg1, hg2, Bd⟩ := hcut.out
 clear hcut KC1 KC2
 have LC : Hid (A < wb.heap.size ∧ D < wb.heap.size ∧ w.heap.size ≤ wb.heap.size) := ⟨RA.out.lt, RD.out.lt, KBc.out.size⟩
 have l6 := World.ownsRow.lt KO6.out g6 rfl
 have w0w : w.heap.size ≤ w0.heap.size := by have := HA.out; have := HL0.out.1; omega
 have HA6 : Hid (Row wc A 90 (slC s (.slice (some ⟨g6, 0, none⟩) s.p.m s.p.m) (.slice e11 s.ze.length h11) (.slice e12 s.zr.length h12))) := RAd
 have HD6 : Hid (Row wc D 90 #[.string ⟨#[]⟩, .string ⟨#[]⟩, .int .i64 0, .int .i64 0, .int .i64 0, .string ⟨#[]⟩, .slice none 0 0, .bool false, .bool false, .bool false, .bool false, .slice none 0 0, .slice none 0 0]) := RDd
 obtain ⟨w7, HW7⟩ : ∃ x, Hid (x = wc.setRow D (slC s (.slice (some ⟨g6, 0, none⟩) s.p.m s.p.m) (.slice e11 s.ze.length h11) (.slice e12 s.zr.length h12))) := ⟨_, rfl⟩
 have ZR : Hid (Row w7 D 90 (slC s (.slice (some ⟨g6, 0, none⟩) s.p.m s.p.m) (.slice e11 s.ze.length h11) (.slice e12 s.zr.length h12))) := by show Row _ _ _ _; rw [HW7.out]; exact RDd.row
 have ZB : Hid (Below w.heap.size w w7) := by show Below _ _ _; rw [HW7.out]; exact belowSetRow Bd hAD.out.2.2 _
 have Z6 : Hid (Ow w7 w.heap.size (txD s.p.m s.p.S) (.slice (some ⟨g6, 0, none⟩) s.p.m s.p.m) (fun x => x = g6)) := by
  show Ow _ _ _ _ _
  rw [HW7.out]
  refine ow_txt (own_kept (OwnT.base O6 w0w) (grown_row _ _ _) (fun x e => ?_)) (fun x e => by cases e; rfl)
  cases e
  show g6 ≠ D
  have := l6.1
  have := HL0.out.2
  omega
 have Z11 : Hid (Ow w7 w.heap.size (inD s.ze) (.slice e11 s.ze.length h11) F11) := by
  show Ow _ _ _ _ _
  rw [HW7.out]
  exact (O11.base LC.out.2.2).frame fun x hx _ => setRow_other _ _ _ _ (fun e => by have := hg1 x hx; have := LC.out.2.1; omega)
 have Z12 : Hid (Ow w7 w.heap.size (inD s.zr) (.slice e12 s.zr.length h12) F12) := by
  show Ow _ _ _ _ _
  rw [HW7.out]
  exact (O12.base LC.out.2.2).frame fun x hx _ => setRow_other _ _ _ _ (fun e => by have := hg2 x hx; have := LC.out.2.1; omega)
 have HSO : Hid (SlO w7 w.heap.size s (.slice (some ⟨g6, 0, none⟩) s.p.m s.p.m) (.slice e11 s.ze.length h11) (.slice e12 s.zr.length h12) (fun x => x = g6) F11 F12) := ⟨Z6.out, Z11.out, Z12.out, fun x e h => by have := hg1 x h; have := l6.2; omega, fun x e h => by have := hg2 x h; have := l6.2; omega, hd⟩
 clear RAd RDd O6 O11 O12 hd hg1 hg2 Bd l6 w0w Z6 Z11 Z12 RA RD KO6 KBc
 go_wp2_with (first | (refine wpList_load_row (by rfl) 90 _ (by rfl) A (by rfl) 90 (slC s (.slice (some ⟨g6, 0, none⟩) s.p.m s.p.m) (.slice e11 s.ze.length h11) (.slice e12 s.zr.length h12)) (0, 0) _ ?_ Tryz.underlying90 (by rfl) Tryz.infoSl ?_; exact HA6.out) | (refine wpList_store_row (by rfl) 90 _ _ (by rfl) D (slC s (.slice (some ⟨g6, 0, none⟩) s.p.m s.p.m) (.slice e11 s.ze.length h11) (.slice e12 s.zr.length h12)) (by rfl) (by rfl) 90 #[.string ⟨#[]⟩, .string ⟨#[]⟩, .int .i64 0, .int .i64 0, .int .i64 0, .string ⟨#[]⟩, .slice none 0 0, .bool false, .bool false, .bool false, .bool false, .slice none 0 0, .slice none 0 0] ?_ Tryz.infoSl rfl (by simp [Value.oneCell']) ?_; exact HD6.out; rw [← HW7.out]))
 exact bodyPost_ret (v := slV s (.slice (some ⟨g6, 0, none⟩) s.p.m s.p.m) (.slice e11 s.ze.length h11) (.slice e12 s.zr.length h12)) (results_cell_row Tryz.results91 _ _ D 90 _ (0, 0) _ (by rfl) ZR.out Tryz.underlying90 (by rfl) Tryz.infoSl) rfl ⟨g6, e11, e12, h11, h12, _, _, _, rfl, HSO.out, ZB.out⟩
theorem txt_news {w : World} {ad : Addr} {m : Nat} {S : Nat → ByteArray} (h : TxtAt w (some ad) m S) : ∀ (j : Nat) (u : Value), (sL S m)[j]? = some u → w.cell? (ad.add j) = some u := fun j u hu => by
 have hj : j < m := by
  have := (List.getElem?_eq_some_iff.1 hu).1
  rw [sL_len] at this
  exact this
 obtain ⟨b, off, e, hc⟩ := h j hj
 cases e
 have ea : (⟨b, off, none⟩ : Addr).add j = ⟨b, off + j, none⟩ := by unfold Addr.add; split <;> simp_all
 rw [ea, hc, ← hu, sL_get _ _ _ hj]
theorem wpList_app_none {ops : Array Oper} {rest : List Oper} {o : Oper} {a : Act} {Q : Exit → Act → World → Prop} (w : World) (hgd : o.guard = none) (s x : Nat) (ho : o.op = .call { callee := .builtin .append, args := #[.tmp s, .tmp x], argTypes := #[23, 23] }) (G c : Nat) (hs : a.eval (.tmp s) = .slice (some ⟨G, 0, none⟩) 0 0) (hx : a.eval (.tmp x) = .slice none 0 c) (h : wpList Tryz.prog ops Q rest (a.put o.dst (.slice (some ⟨G, 0, none⟩) 0 0)) w) : wpList Tryz.prog ops Q (o :: rest) a w := by
 refine wpList_plain hgd fun K hK => ?_
 obtain ⟨dst, op, ty, pos, aft, gd⟩ := o
 simp only at ho hgd
 subst ho hgd
 have hk := hK _ _ h
 have hs' : a.tmps[s]?.getD undef = .slice (some ⟨G, 0, none⟩) 0 0 := by simpa [Act.eval] using hs
 have hx' : a.tmps[x]?.getD undef = .slice none 0 c := by simpa [Act.eval] using hx
 clear hs hx h hK
 go_simp
 exact hk
theorem wpList_app_ints {ops : Array Oper} {rest : List Oper} {o : Oper} {a : Act} {Q : Exit → Act → World → Prop} (w : World) (hgd : o.guard = none) (s x : Nat) (ho : o.op = .call { callee := .builtin .append, args := #[.tmp s, .tmp x], argTypes := #[23, 23] }) (base G : Nat) (hs : a.eval (.tmp s) = .slice (some ⟨G, 0, none⟩) 0 0) (hown : w.ownsRow base 3 1 (.slice (some ⟨G, 0, none⟩) 0 0) 0 []) (ad : Option Addr) (zs : List Int) (c : Nat) (hx : a.eval (.tmp x) = .slice ad zs.length c) (hI : IntsAt w ad zs.length zs) (hn : zs.length ≤ 1048576) (hbase : base ≤ w.heap.size)
  (h : ∀ g cap w', w'.ownsRow base 3 1 (.slice (some ⟨g, 0, none⟩) zs.length cap) zs.length (zs.map (Value.int .i64)) → w.grownBy w' (some G) → wpList Tryz.prog ops Q rest (a.put o.dst (.slice (some ⟨g, 0, none⟩) zs.length cap)) w') : wpList Tryz.prog ops Q (o :: rest) a w := by
 obtain ⟨i0, hi, hz0, hz1, hz2⟩ : ∃ i0, Tryz.prog.info? 3 = some i0 ∧ i0.zero = some (.int .i64 0) ∧ i0.size = 1 ∧ i0.bytes = 8 := ⟨_, rfl, rfl, rfl, rfl⟩
 match ad, hx, hI with
 | none, hx, hI =>
  have e0 : zs.length = 0 := by
   by_cases h0 : zs.length = 0
   ·exact h0
   ·obtain ⟨b, off, e, _⟩ := hI.2 0 (by omega)
    cases e
  have ez : zs = [] := List.length_eq_zero_iff.1 e0
  subst ez
  exact wpList_app_none w hgd s x ho G c hs hx (h G 0 w hown ⟨rfl, rfl, rfl, Nat.le_refl _, fun _ _ _ => rfl⟩)
 | some ⟨b, off, sp⟩, hx, hI =>
  refine wpList_append_all w hgd (.tmp s) (.tmp x) 23 ho base 3 i0 (.int .i64 0) 1 8 Tryz.underlying23 hi hz0 hz1 hz2 rfl (by decide) G 0 0 [] hs hown ⟨b, off, sp⟩ zs.length c (zs.map (Value.int .i64)) hx (by simp) (fun j u hu => ?_) (by simp [Value.oneCell']) (by unfold maxLen; omega) (by omega) hbase fun g cap w' h1 h2 => ?_
  ·have hj : 0 < zs.length := by
    have := (List.getElem?_eq_some_iff.1 hu).1
    simp at this
    omega
   have e := ints_spot hI hj
   simp at e
   subst e
   exact ints_news hI j u hu
  ·have := h g cap w' (by simpa using h1) h2
   simpa using this
theorem sCopyP_any (r : ByteArray) (k n i : Int) (b : ByteArray) (a : Option Addr) (m c : Nat) (S : Nat → ByteArray) (w : World) (h : TxtAt w a m S) (hm : m ≤ 1048576) :
  Calls Tryz.prog 104 #[pcV r k n i b (.slice a m c)] w fun e w' => ∃ g c', e = .returned (pcV r k n i b (.slice (some ⟨g, 0, none⟩) m c')) ∧ OwnT w' w.heap.size (some ⟨g, 0, none⟩) m c' S ∧ Below w.heap.size w w' := by
 obtain ⟨i0, hi, hz0, hz1, hz2⟩ := info_parts Tryz.infoStr
 obtain ⟨A, HA⟩ : ∃ x, Hid (x = w.heap.size) := ⟨_, rfl⟩
 obtain ⟨D, HD⟩ : ∃ x, Hid (x = w.heap.size + 1) := ⟨_, rfl⟩
 obtain ⟨G, HG⟩ : ∃ x, Hid (x = w.heap.size + 1 + 1) := ⟨_, rfl⟩
 obtain ⟨w0, HW0⟩ : ∃ x, Hid (x = ((w.alloc (.cells (pcC r k n i b (.slice a m c)) 66)).alloc (.cells #[.string ⟨#[]⟩, .int .i64 0, .int .i64 0, .int .i64 0, .string ⟨#[]⟩, .slice none 0 0] 66)).alloc (.cells #[] 9)) := ⟨_, rfl⟩
 have RA : Hid (Row w0 A 66 (pcC r k n i b (.slice a m c))) := by show Row _ _ _ _; rw [HW0.out, HA.out]; exact Row.alloc (Row.alloc (Row.new w _ _) _) _
 have RD : Hid (Row w0 D 66 #[.string ⟨#[]⟩, .int .i64 0, .int .i64 0, .int .i64 0, .string ⟨#[]⟩, .slice none 0 0]) := by
  show Row _ _ _ _
  rw [HW0.out, HD.out]
  have := Row.new (w.alloc (.cells (pcC r k n i b (.slice a m c)) 66)) #[.string ⟨#[]⟩, .int .i64 0, .int .i64 0, .int .i64 0, .string ⟨#[]⟩, .slice none 0 0] 66
  exact Row.alloc (by simpa using this) _
 have hb0 : Below w.heap.size w w0 := by rw [HW0.out]; exact (((Below.refl _ _).alloc (Nat.le_refl _) _).alloc (by simp) _).alloc (by simp; omega) _
 have KB0 : Hid (Below w.heap.size w w0) := hb0
 have HO : Hid (w0.ownsRow G 9 1 (.slice (some ⟨G, 0, none⟩) 0 0) 0 []) := by
  show World.ownsRow _ _ _ _ _ _ _
  rw [HW0.out, HG.out]
  have := World.ownsRow_lit (e := 9) (size := 1) (base := ((w.alloc (.cells (pcC r k n i b (.slice a m c)) 66)).alloc (.cells #[.string ⟨#[]⟩, .int .i64 0, .int .i64 0, .int .i64 0, .string ⟨#[]⟩, .slice none 0 0] 66)).heap.size) ((w.alloc (.cells (pcC r k n i b (.slice a m c)) 66)).alloc (.cells #[.string ⟨#[]⟩, .int .i64 0, .int .i64 0, .int .i64 0, .string ⟨#[]⟩, .slice none 0 0] 66)) #[] 0 (by simp) (by unfold maxLen; omega) (by simp)
  simpa using this
 have HL : Hid (A ≠ D ∧ w.heap.size ≤ A ∧ w.heap.size ≤ D ∧ A < G ∧ D < G ∧ w.heap.size ≤ G ∧ G ≤ w0.heap.size) := by
  have h1 := HA.out; have h2 := HD.out; have h3 := HG.out
  have h4 := (World.ownsRow.lt HO.out G rfl).2
  exact ⟨by omega, by omega, by omega, by omega, by omega, by omega, by omega⟩
 have FIN : Hid (∀ (W : World) (g c' : Nat), Row W A 66 (pcC r k n i b (.slice a m c)) → Row W D 66 #[.string ⟨#[]⟩, .int .i64 0, .int .i64 0, .int .i64 0, .string ⟨#[]⟩, .slice none 0 0] → OwnT W G (some ⟨g, 0, none⟩) m c' S → Below w.heap.size w W → Row (W.setCell ⟨A, 5, none⟩ (.slice (some ⟨g, 0, none⟩) m c')) A 66 (pcC r k n i b (.slice (some ⟨g, 0, none⟩) m c')) ∧ Row (W.setCell ⟨A, 5, none⟩ (.slice (some ⟨g, 0, none⟩) m c')) D 66 #[.string ⟨#[]⟩, .int .i64 0, .int .i64 0, .int .i64 0, .string ⟨#[]⟩, .slice none 0 0] ∧ Row ((W.setCell ⟨A, 5, none⟩ (.slice (some ⟨g, 0, none⟩) m c')).setRow D (pcC r k n i b (.slice (some ⟨g, 0, none⟩) m c'))) D 66 (pcC r k n i b (.slice (some ⟨g, 0, none⟩) m c')) ∧ OwnT ((W.setCell ⟨A, 5, none⟩ (.slice (some ⟨g, 0, none⟩) m c')).setRow D (pcC r k n i b (.slice (some ⟨g, 0, none⟩) m c'))) w.heap.size (some ⟨g, 0, none⟩) m c' S ∧ Below w.heap.size w ((W.setCell ⟨A, 5, none⟩ (.slice (some ⟨g, 0, none⟩) m c')).setRow D (pcC r k n i b (.slice (some ⟨g, 0, none⟩) m c')))) := fun W g c' h1 h2 h3 h4 => by
  have l := World.ownsRow.lt h3 g rfl
  refine ⟨h1.set 5 _, h2.other 5 _ (Ne.symm HL.out.1), (h2.other 5 _ (Ne.symm HL.out.1)).row, ?_, belowSetRow (h4.setCell HL.out.2.1 _) HL.out.2.2.1 _⟩
  refine own_kept (OwnT.base (h3.setFar HL.out.2.2.2.1) HL.out.2.2.2.2.2.1) (grown_row _ _ _) (fun x e => ?_)
  cases e
  show g ≠ D
  have := HL.out.2.2.2.2.1
  omega
 have x5 := RA.out.cell 5
 have f5 := RA.out.free 5
 have lA := RA.out.lt
 simp at x5
 match a, h with
 | none, h =>
  have e0 : m = 0 := by
   by_cases h0 : m = 0
   ·exact h0
   ·obtain ⟨b', off, e, _⟩ := h 0 (by omega)
    cases e
  subst e0
  clear h hb0
  go_enter Tryz.func104, Tryz.ntmps104
  go_wp2_with fail
  refine bodyPost_ret (v := pcV r k n i b (.slice (some ⟨w.heap.size + 1 + 1, 0, none⟩) 0 0)) (by simp [results, Tryz.results104, go_sem]) rfl ⟨w.heap.size + 1 + 1, 0, rfl, ?_, (((Below.refl _ _).alloc (Nat.le_refl _) _).alloc (by simp) _).alloc (by simp; omega) _⟩
  have := World.ownsRow_lit (e := 9) (size := 1) (base := w.heap.size) ((w.alloc (.cells (pcC r k n i b (.slice (some ⟨w.heap.size + 1 + 1, 0, none⟩) 0 0)) 66)).alloc (.cells (pcC r k n i b (.slice (some ⟨w.heap.size + 1 + 1, 0, none⟩) 0 0)) 66)) #[] 0 (by simp; omega) (by unfold maxLen; omega) (by simp)
  unfold OwnT
  simpa [sL] using this
 | some ad, h =>
  have HNW : Hid (∀ (j : Nat) (u : Value), (sL S m)[j]? = some u → w0.cell? (ad.add j) = some u) := fun j u hu => by
   have := txt_news h j u hu
   rw [hb0.cell (block_lt_of_cell this)]
   exact this
  have HLL : Hid ((sL S m).length = m * 1) := by show _ = _; rw [sL_len]; omega
  have HONE : Hid (∀ u ∈ sL S m, u.oneCell' = true) := by
   show ∀ u ∈ sL S m, _
   intro u hu
   obtain ⟨j, hj⟩ := List.getElem?_of_mem hu
   have hjm : j < m := by have := (List.getElem?_eq_some_iff.1 hj).1; rw [sL_len] at this; exact this
   rw [sL_get _ _ _ hjm] at hj
   cases hj
   rfl
  clear h hb0
  go_enter Tryz.func104, Tryz.ntmps104
  go_wp2_with (first | (at_builtin; rw [← HW0.out, ← HG.out, ← HD.out, ← HA.out]; refine wpList_append_all _ (by rfl) _ _ 27 (by rfl) G 9 i0 (.string ByteArray.empty) 1 16 Tryz.underlying27 hi hz0 hz1 hz2 rfl (by decide) G 0 0 [] (by rfl) ?_ ad m c (sL S m) (by rfl) ?_ ?_ ?_ (by unfold maxLen; omega) (by omega) ?_ ?_; exact HO.out; exact HLL.out; exact HNW.out; exact HONE.out; exact HL.out.2.2.2.2.2.2; intro g3 cap3 w3 hown3 hgrow3; have bG : Below G w0 w3 := (Below.refl _ _).grown hgrow3 HL.out.2.2.2.2.2.2 (fun x hx => by cases hx; exact Nat.le_refl _); have KK3 : Row w3 A 66 (pcC r k n i b (.slice (some ad) m c)) ∧ Row w3 D 66 #[.string ⟨#[]⟩, .int .i64 0, .int .i64 0, .int .i64 0, .string ⟨#[]⟩, .slice none 0 0] ∧ OwnT w3 G (some ⟨g3, 0, none⟩) m cap3 S ∧ Below w.heap.size w w3 := ⟨RA.out.below bG HL.out.2.2.2.1, RD.out.below bG HL.out.2.2.2.2.1, (by have := hown3; unfold OwnT; simpa using this), KB0.out.grown hgrow3 KB0.out.size (fun x hx => by cases hx; exact HL.out.2.2.2.2.2.1)⟩; have y5 := KK3.1.cell 5; have g5 := KK3.1.free 5; simp at y5; have KD3 : Hid _ := KK3; clear hown3 hgrow3 bG KK3 x5 f5) | (refine wpList_load_row (by rfl) 66 _ (by rfl) A (by rfl) 66 (pcC r k n i b (.slice (some ⟨g3, 0, none⟩) m cap3)) (0, 0) _ ?_ Tryz.underlying66 (by rfl) Tryz.infoPc ?_; exact (FIN.out w3 g3 cap3 KD3.out.1 KD3.out.2.1 KD3.out.2.2.1 KD3.out.2.2.2).1) | (refine wpList_store_row (by rfl) 66 _ _ (by rfl) D (pcC r k n i b (.slice (some ⟨g3, 0, none⟩) m cap3)) (by rfl) (by rfl) 66 #[.string ⟨#[]⟩, .int .i64 0, .int .i64 0, .int .i64 0, .string ⟨#[]⟩, .slice none 0 0] ?_ Tryz.infoPc rfl (by simp [Value.oneCell']) ?_; exact (FIN.out w3 g3 cap3 KD3.out.1 KD3.out.2.1 KD3.out.2.2.1 KD3.out.2.2.2).2.1))
  have KF := FIN.out w3 g3 cap3 KD3.out.1 KD3.out.2.1 KD3.out.2.2.1 KD3.out.2.2.2
  exact bodyPost_ret (v := pcV r k n i b (.slice (some ⟨g3, 0, none⟩) m cap3)) (results_cell_row Tryz.results104 _ _ D 66 _ (0, 0) _ (by rfl) KF.2.2.1 Tryz.underlying66 (by rfl) Tryz.infoPc) rfl ⟨g3, cap3, rfl, KF.2.2.2.1, KF.2.2.2.2⟩
theorem sCopyS_any (s : Sl) (a6 a11 a12 : Option Addr) (c6 c11 c12 : Nat) (w : World) (h6 : TxtAt w a6 s.p.m s.p.S) (h11 : IntsAt w a11 s.ze.length s.ze) (h12 : IntsAt w a12 s.zr.length s.zr) (hs : SlS s) :
  Calls Tryz.prog 74 #[slV s (.slice a6 s.p.m c6) (.slice a11 s.ze.length c11) (.slice a12 s.zr.length c12)] w fun e w' => ∃ (g6 g11 g12 h6 h11 h12 : Nat) (F6 F11 F12 : Nat → Prop), e = .returned (slV s (.slice (some ⟨g6, 0, none⟩) s.p.m h6) (.slice (some ⟨g11, 0, none⟩) s.ze.length h11) (.slice (some ⟨g12, 0, none⟩) s.zr.length h12)) ∧ SlO w' w.heap.size s (.slice (some ⟨g6, 0, none⟩) s.p.m h6) (.slice (some ⟨g11, 0, none⟩) s.ze.length h11) (.slice (some ⟨g12, 0, none⟩) s.zr.length h12) F6 F11 F12 ∧ Below w.heap.size w w' := by
 obtain ⟨A, HA⟩ : ∃ x, Hid (x = w.heap.size) := ⟨_, rfl⟩
 obtain ⟨D, HD⟩ : ∃ x, Hid (x = w.heap.size + 1) := ⟨_, rfl⟩
 obtain ⟨w0, HW0⟩ : ∃ x, Hid (x = (w.alloc (.cells (slC s (.slice a6 s.p.m c6) (.slice a11 s.ze.length c11) (.slice a12 s.zr.length c12)) 90)).alloc (.cells #[.string ⟨#[]⟩, .string ⟨#[]⟩, .int .i64 0, .int .i64 0, .int .i64 0, .string ⟨#[]⟩, .slice none 0 0, .bool false, .bool false, .bool false, .bool false, .slice none 0 0, .slice none 0 0] 90)) := ⟨_, rfl⟩
 have RA : Hid (Row w0 A 90 (slC s (.slice a6 s.p.m c6) (.slice a11 s.ze.length c11) (.slice a12 s.zr.length c12))) := by show Row _ _ _ _; rw [HW0.out, HA.out]; exact Row.alloc (Row.new w _ _) _
 have RD : Hid (Row w0 D 90 #[.string ⟨#[]⟩, .string ⟨#[]⟩, .int .i64 0, .int .i64 0, .int .i64 0, .string ⟨#[]⟩, .slice none 0 0, .bool false, .bool false, .bool false, .bool false, .slice none 0 0, .slice none 0 0]) := by
  show Row _ _ _ _
  rw [HW0.out, HD.out]
  have := Row.new (w.alloc (.cells (slC s (.slice a6 s.p.m c6) (.slice a11 s.ze.length c11) (.slice a12 s.zr.length c12)) 90)) #[.string ⟨#[]⟩, .string ⟨#[]⟩, .int .i64 0, .int .i64 0, .int .i64 0, .string ⟨#[]⟩, .slice none 0 0, .bool false, .bool false, .bool false, .bool false, .slice none 0 0, .slice none 0 0] 90
  simpa using this
 have hb0 : Below w.heap.size w w0 := by rw [HW0.out]; exact ((Below.refl _ _).alloc (Nat.le_refl _) _).alloc (by simp) _
 have KB0 : Hid (Below w.heap.size w w0) := hb0
 have HL : Hid (A ≠ D ∧ w.heap.size ≤ A ∧ w.heap.size ≤ D ∧ A < w0.heap.size ∧ D < w0.heap.size) := ⟨by have := HA.out; have := HD.out; omega, by have := HA.out; omega, by have := HD.out; omega, RA.out.lt, RD.out.lt⟩
 have KC : Hid _ := sCopyP_any s.p.r s.p.k s.p.n s.p.i s.p.b a6 s.p.m c6 s.p.S w0 (h6.below hb0) hs.1
 have KI1 : Hid (IntsAt w a11 s.ze.length s.ze) := h11
 have KI2 : Hid (IntsAt w a12 s.zr.length s.zr) := h12
 have KS : Hid (SlS s) := hs
 clear h6 h11 h12 hs hb0
 go_enter Tryz.func74, Tryz.ntmps74
 go_wp2_with fail
 rw [← HW0.out, ← HD.out, ← HA.out]
 refine Calls.mono KC.out ?_
 rintro e w1 ⟨g6, h6, rfl, O1, b1⟩
 have RA1 := RA.out.below b1 RA.out.lt
 have RD1 := RD.out.below b1 RD.out.lt
 have y1 := RA1.cell 1
 have f1 := RA1.free 1
 have y2 := RA1.cell 2
 have f2 := RA1.free 2
 have y3 := RA1.cell 3
 have f3 := RA1.free 3
 have y4 := RA1.cell 4
 have f4 := RA1.free 4
 have y5 := RA1.cell 5
 have f5 := RA1.free 5
 have y6 := RA1.cell 6
 have f6 := RA1.free 6
 simp at y1 y2 y3 y4 y5 y6
 obtain ⟨w2, HW2⟩ : ∃ x, Hid (x = ((((((w1.setCell ⟨A, 1, none⟩ (.string s.p.r)).setCell ⟨A, 2, none⟩ (.int .i64 s.p.k)).setCell ⟨A, 3, none⟩ (.int .i64 s.p.n)).setCell ⟨A, 4, none⟩ (.int .i64 s.p.i)).setCell ⟨A, 5, none⟩ (.string s.p.b)).setCell ⟨A, 6, none⟩ (.slice (some ⟨g6, 0, none⟩) s.p.m h6))) := ⟨_, rfl⟩
 obtain ⟨G1, HGW⟩ : ∃ x, Hid (x = w1.heap.size) := ⟨_, rfl⟩
 have sz2 : w2.heap.size = w1.heap.size := by rw [HW2.out]; simp
 have HG1 : Hid (G1 = w2.heap.size) := by show _ = _; rw [sz2]; exact HGW.out
 have l6 := World.ownsRow.lt O1 g6 rfl
 have K2 : Hid (Row w2 A 90 (slC s (.slice (some ⟨g6, 0, none⟩) s.p.m h6) (.slice a11 s.ze.length c11) (.slice a12 s.zr.length c12)) ∧ Row w2 D 90 #[.string ⟨#[]⟩, .string ⟨#[]⟩, .int .i64 0, .int .i64 0, .int .i64 0, .string ⟨#[]⟩, .slice none 0 0, .bool false, .bool false, .bool false, .bool false, .slice none 0 0, .slice none 0 0] ∧ OwnT w2 w0.heap.size (some ⟨g6, 0, none⟩) s.p.m h6 s.p.S ∧ Below w.heap.size w w2) := by
  rw [HW2.out]
  exact ⟨(((((RA1.set 1 _).set 2 _).set 3 _).set 4 _).set 5 _).set 6 _, (((((RD1.other 1 _ (Ne.symm HL.out.1)).other 2 _ (Ne.symm HL.out.1)).other 3 _ (Ne.symm HL.out.1)).other 4 _ (Ne.symm HL.out.1)).other 5 _ (Ne.symm HL.out.1)).other 6 _ (Ne.symm HL.out.1), (((((O1.setFar HL.out.2.2.2.1).setFar HL.out.2.2.2.1).setFar HL.out.2.2.2.1).setFar HL.out.2.2.2.1).setFar HL.out.2.2.2.1).setFar HL.out.2.2.2.1, ((((((below2 KB0.out b1).setCell HL.out.2.1 _).setCell HL.out.2.1 _).setCell HL.out.2.1 _).setCell HL.out.2.1 _).setCell HL.out.2.1 _).setCell HL.out.2.1 _⟩
 have HQ1 : Hid (g6 < G1 ∧ w0.heap.size ≤ g6 ∧ w0.heap.size ≤ G1) := by have := HG1.out; have := l6.1; have := l6.2; exact ⟨by omega, by omega, by omega⟩
 have lA2 := K2.out.1.lt
 clear O1 b1 RA1 RD1 l6
 go_upto_region 2 with fail
 rw [← HW2.out]
 clear y1 f1 y2 f2 y3 f3 y4 f4 y5 f5 y6 f6 sz2
 go_cut [] from 7 to 11 (fun wx => Hid (∃ g11 h11, Row wx A 90 (slC s (.slice (some ⟨g6, 0, none⟩) s.p.m h6) (.slice (some ⟨g11, 0, none⟩) s.ze.length h11) (.slice a12 s.zr.length c12)) ∧ Row wx D 90 #[.string ⟨#[]⟩, .string ⟨#[]⟩, .int .i64 0, .int .i64 0, .int .i64 0, .string ⟨#[]⟩, .slice none 0 0, .bool false, .bool false, .bool false, .bool false, .slice none 0 0, .slice none 0 0] ∧ OwnT wx w0.heap.size (some ⟨g6, 0, none⟩) s.p.m h6 s.p.S ∧ wx.ownsRow G1 3 1 (.slice (some ⟨g11, 0, none⟩) s.ze.length h11) s.ze.length (s.ze.map (Value.int .i64)) ∧ Below w.heap.size w wx))
 case first =>
  have HOa : Hid ((w2.alloc (.cells #[] 3)).ownsRow G1 3 1 (.slice (some ⟨G1, 0, none⟩) 0 0) 0 []) := by
   show World.ownsRow _ _ _ _ _ _ _
   rw [HG1.out]
   have := World.ownsRow_lit (e := 3) (size := 1) (base := w2.heap.size) w2 #[] 0 (by simp) (by unfold maxLen; omega) (by simp)
   exact this
  have HIa : Hid (IntsAt (w2.alloc (.cells #[] 3)) a11 s.ze.length s.ze) := (KI1.out.below K2.out.2.2.2).below ((Below.refl _ _).alloc (Nat.le_refl _) _)
  have z11 := K2.out.1.cell 11
  simp at z11
  have HLe : Hid (G1 ≤ (w2.alloc (.cells #[] 3)).heap.size) := by rw [HG1.out]; show _ ≤ _; simp
  have hG1' := HG1.out
  rw [hG1'] at HOa HLe
  go_wp2_with (at_builtin; refine wpList_app_ints _ (by rfl) _ _ (by rfl) w2.heap.size w2.heap.size (by rfl) ?_ a11 s.ze c11 (by rfl) ?_ KS.out.2.1 ?_ ?_; exact HOa.out; exact HIa.out; exact HLe.out; intro g11 h11 w4 hown4 hgrow4; have b24 : Below w2.heap.size w2 w4 := ((Below.refl _ _).alloc (Nat.le_refl _) _).grown hgrow4 (by simp) (fun x hx => by cases hx; exact Nat.le_refl _); have R4 := K2.out.1.below b24 lA2; have v11 := R4.cell 11; have u11 := R4.free 11; simp at v11; have KB24 : Hid _ := b24; have KO4 : Hid _ := hown4; clear hown4 hgrow4 z11 b24 R4)
  go_meet
  have l11 := World.ownsRow.lt KO4.out g11 rfl
  refine ⟨g11, h11, (K2.out.1.below KB24.out lA2).set 11 _, (K2.out.2.1.below KB24.out K2.out.2.1.lt).other 11 _ (Ne.symm HL.out.1), (K2.out.2.2.1.below KB24.out).setFar HL.out.2.2.2.1, ?_, (below2 K2.out.2.2.2 KB24.out).setCell HL.out.2.1 _⟩
  rw [hG1']
  exact own_kept KO4.out (grown_set _ _ _ _) (fun x e => by cases e; show g11 ≠ A; have := l11.1; omega)
 obtain ⟨g11, h11, RAc, RDc, O6c, O11c, Bc⟩ := hcut.out
 clear hcut
 have lAc := RAc.lt
 have KC2 : Hid (Row wc A 90 (slC s (.slice (some ⟨g6, 0, none⟩) s.p.m h6) (.slice (some ⟨g11, 0, none⟩) s.ze.length h11) (.slice a12 s.zr.length c12)) ∧ Row wc D 90 #[.string ⟨#[]⟩, .string ⟨#[]⟩, .int .i64 0, .int .i64 0, .int .i64 0, .string ⟨#[]⟩, .slice none 0 0, .bool false, .bool false, .bool false, .bool false, .slice none 0 0, .slice none 0 0] ∧ OwnT wc w0.heap.size (some ⟨g6, 0, none⟩) s.p.m h6 s.p.S ∧ wc.ownsRow G1 3 1 (.slice (some ⟨g11, 0, none⟩) s.ze.length h11) s.ze.length (s.ze.map (Value.int .i64)) ∧ Below w.heap.size w wc) := ⟨RAc, RDc, O6c, O11c, Bc⟩
 clear RAc RDc O6c O11c Bc HW2 HGW K2 HG1
 go_upto_region 3 with fail
 obtain ⟨wb, HWB⟩ : ∃ x, x = wc := ⟨wc, rfl⟩
 subst HWB
 go_cut [] from 12 to 16 (fun wx => Hid (∃ g12 h12, Row wx A 90 (slC s (.slice (some ⟨g6, 0, none⟩) s.p.m h6) (.slice (some ⟨g11, 0, none⟩) s.ze.length h11) (.slice (some ⟨g12, 0, none⟩) s.zr.length h12)) ∧ Row wx D 90 #[.string ⟨#[]⟩, .string ⟨#[]⟩, .int .i64 0, .int .i64 0, .int .i64 0, .string ⟨#[]⟩, .slice none 0 0, .bool false, .bool false, .bool false, .bool false, .slice none 0 0, .slice none 0 0] ∧ OwnT wx w0.heap.size (some ⟨g6, 0, none⟩) s.p.m h6 s.p.S ∧ wx.ownsRow G1 3 1 (.slice (some ⟨g11, 0, none⟩) s.ze.length h11) s.ze.length (s.ze.map (Value.int .i64)) ∧ wx.ownsRow wb.heap.size 3 1 (.slice (some ⟨g12, 0, none⟩) s.zr.length h12) s.zr.length (s.zr.map (Value.int .i64)) ∧ Below w.heap.size w wx))
 case first =>
  have HOa : Hid ((wb.alloc (.cells #[] 3)).ownsRow wb.heap.size 3 1 (.slice (some ⟨wb.heap.size, 0, none⟩) 0 0) 0 []) := World.ownsRow_lit (e := 3) (size := 1) (base := wb.heap.size) wb #[] 0 (by simp) (by unfold maxLen; omega) (by simp)
  have HIa : Hid (IntsAt (wb.alloc (.cells #[] 3)) a12 s.zr.length s.zr) := (KI2.out.below KC2.out.2.2.2.2).below ((Below.refl _ _).alloc (Nat.le_refl _) _)
  have z12 := KC2.out.1.cell 12
  simp at z12
  have HLe : Hid (wb.heap.size ≤ (wb.alloc (.cells #[] 3)).heap.size) := by show _ ≤ _; simp
  go_wp2_with (at_builtin; refine wpList_app_ints _ (by rfl) _ _ (by rfl) wb.heap.size wb.heap.size (by rfl) ?_ a12 s.zr c12 (by rfl) ?_ KS.out.2.2 ?_ ?_; exact HOa.out; exact HIa.out; exact HLe.out; intro g12 h12 w4 hown4 hgrow4; have b24 : Below wb.heap.size wb w4 := ((Below.refl _ _).alloc (Nat.le_refl _) _).grown hgrow4 (by simp) (fun x hx => by cases hx; exact Nat.le_refl _); have R4 := KC2.out.1.below b24 lAc; have v12 := R4.cell 12; have u12 := R4.free 12; simp at v12; have KB24 : Hid _ := b24; have KO4 : Hid _ := hown4; clear hown4 hgrow4 z12 b24 R4)
  go_meet
  have l12 := World.ownsRow.lt KO4.out g12 rfl
  have l11 := World.ownsRow.lt KC2.out.2.2.2.1 g11 rfl
  have hw0G := HQ1.out.2.2
  have hA0 := HL.out.2.2.2.1
  exact ⟨g12, h12, (KC2.out.1.below KB24.out lAc).set 12 _, (KC2.out.2.1.below KB24.out KC2.out.2.1.lt).other 12 _ (Ne.symm HL.out.1), (KC2.out.2.2.1.below KB24.out).setFar HL.out.2.2.2.1, own_kept (ownsRow_below KC2.out.2.2.2.1 KB24.out) (grown_set _ _ _ _) (fun x e => by cases e; show g11 ≠ A; have := l11.1; omega), own_kept KO4.out (grown_set _ _ _ _) (fun x e => by cases e; show g12 ≠ A; have := l12.1; omega), (below2 KC2.out.2.2.2.2 KB24.out).setCell HL.out.2.1 _⟩
 obtain ⟨g12, h12, RAd, RDd, O6, O11, O12, Bd⟩ := hcut.out
 clear hcut
 have l11 := World.ownsRow.lt KC2.out.2.2.2.1 g11 rfl
 have l12 := World.ownsRow.lt O12 g12 rfl
 have hq := HQ1.out
 have hl := HL.out
 have w0w : w.heap.size ≤ w0.heap.size := KB0.out.size
 have HA6 : Hid (Row wc A 90 (slC s (.slice (some ⟨g6, 0, none⟩) s.p.m h6) (.slice (some ⟨g11, 0, none⟩) s.ze.length h11) (.slice (some ⟨g12, 0, none⟩) s.zr.length h12))) := RAd
 have HD6 : Hid (Row wc D 90 #[.string ⟨#[]⟩, .string ⟨#[]⟩, .int .i64 0, .int .i64 0, .int .i64 0, .string ⟨#[]⟩, .slice none 0 0, .bool false, .bool false, .bool false, .bool false, .slice none 0 0, .slice none 0 0]) := RDd
 obtain ⟨w7, HW7⟩ : ∃ x, Hid (x = wc.setRow D (slC s (.slice (some ⟨g6, 0, none⟩) s.p.m h6) (.slice (some ⟨g11, 0, none⟩) s.ze.length h11) (.slice (some ⟨g12, 0, none⟩) s.zr.length h12))) := ⟨_, rfl⟩
 have ZR : Hid (Row w7 D 90 (slC s (.slice (some ⟨g6, 0, none⟩) s.p.m h6) (.slice (some ⟨g11, 0, none⟩) s.ze.length h11) (.slice (some ⟨g12, 0, none⟩) s.zr.length h12))) := by show Row _ _ _ _; rw [HW7.out]; exact RDd.row
 have ZB : Hid (Below w.heap.size w w7) := by show Below _ _ _; rw [HW7.out]; exact belowSetRow Bd hl.2.2.1 _
 have HSO : Hid (SlO w7 w.heap.size s (.slice (some ⟨g6, 0, none⟩) s.p.m h6) (.slice (some ⟨g11, 0, none⟩) s.ze.length h11) (.slice (some ⟨g12, 0, none⟩) s.zr.length h12) (fun x => x = g6) (fun x => x = g11) (fun x => x = g12)) := by
  refine ⟨?_, ?_, ?_, fun x e1 e2 => ?_, fun x e1 e2 => ?_, fun x e1 e2 => ?_⟩
  ·rw [HW7.out]
   exact ow_txt (own_kept (OwnT.base O6 w0w) (grown_row _ _ _) (fun x e => by cases e; show g6 ≠ D; omega)) (fun x e => by cases e; rfl)
  ·rw [HW7.out]
   exact ow_ints (own_base (own_kept O11 (grown_row _ _ _) (fun x e => by cases e; show g11 ≠ D; omega)) (by omega)) (fun x e => by cases e; rfl)
  ·rw [HW7.out]
   exact ow_ints (own_base (own_kept O12 (grown_row _ _ _) (fun x e => by cases e; show g12 ≠ D; omega)) (by omega)) (fun x e => by cases e; rfl)
  ·omega
  ·omega
  ·omega
 clear RAd RDd O6 O11 O12 Bd l11 l12 hq hl w0w KC2
 go_wp2_with (first | (refine wpList_load_row (by rfl) 90 _ (by rfl) A (by rfl) 90 (slC s (.slice (some ⟨g6, 0, none⟩) s.p.m h6) (.slice (some ⟨g11, 0, none⟩) s.ze.length h11) (.slice (some ⟨g12, 0, none⟩) s.zr.length h12)) (0, 0) _ ?_ Tryz.underlying90 (by rfl) Tryz.infoSl ?_; exact HA6.out) | (refine wpList_store_row (by rfl) 90 _ _ (by rfl) D (slC s (.slice (some ⟨g6, 0, none⟩) s.p.m h6) (.slice (some ⟨g11, 0, none⟩) s.ze.length h11) (.slice (some ⟨g12, 0, none⟩) s.zr.length h12)) (by rfl) (by rfl) 90 #[.string ⟨#[]⟩, .string ⟨#[]⟩, .int .i64 0, .int .i64 0, .int .i64 0, .string ⟨#[]⟩, .slice none 0 0, .bool false, .bool false, .bool false, .bool false, .slice none 0 0, .slice none 0 0] ?_ Tryz.infoSl rfl (by simp [Value.oneCell']) ?_; exact HD6.out; rw [← HW7.out]))
 exact bodyPost_ret (v := slV s (.slice (some ⟨g6, 0, none⟩) s.p.m h6) (.slice (some ⟨g11, 0, none⟩) s.ze.length h11) (.slice (some ⟨g12, 0, none⟩) s.zr.length h12)) (results_cell_row Tryz.results74 _ _ D 90 _ (0, 0) _ (by rfl) ZR.out Tryz.underlying90 (by rfl) Tryz.infoSl) rfl ⟨g6, g11, g12, h6, h11, h12, _, _, _, rfl, HSO.out, ZB.out⟩
def soS (S : Nat → Sl) (root : ByteArray) (n : Nat) : Sl := match plc S root n with
 | some x => S x
 | none => slZ
def soB (S : Nat → Sl) (root : ByteArray) (n : Nat) : Bool := (plc S root n).isSome
def plN (S : Nat → Sl) (root : ByteArray) (n : Nat) : Nat := match plc S root n with
 | some x => x
 | none => n
theorem SlO.setRow {w : World} {B B' : Nat} {s : Sl} {v6 v11 v12 : Value} {F6 F11 F12 : Nat → Prop} (h : SlO w B s v6 v11 v12 F6 F11 F12) (D : Nat) (cs : Array Value) (hD : D < B) (hB : B' ≤ B) : ∃ F6 F11 F12, SlO (w.setRow D cs) B' s v6 v11 v12 F6 F11 F12 :=
 ⟨_, _, _, ⟨(h.t.cut.base hB).frame fun x hx _ => setRow_other _ _ _ _ (fun e => by have := hx.2.1; omega), (h.e.cut.base hB).frame fun x hx _ => setRow_other _ _ _ _ (fun e => by have := hx.2.1; omega), (h.z.cut.base hB).frame fun x hx _ => setRow_other _ _ _ _ (fun e => by have := hx.2.1; omega), fun x h1 h2 => h.d1 x h1.1 h2.1, fun x h1 h2 => h.d2 x h1.1 h2.1, fun x h1 h2 => h.d3 x h1.1 h2.1⟩⟩
theorem sPlace_any (id f : Int) (a : Option Addr) (n cap : Nat) (S : Nat → Sl) (root : ByteArray) (w : World) (h : Rd w (slsD n S) (.slice a n cap)) (hn : n ≤ 1048576) :
  Calls Tryz.prog 73 #[ndV id f (.slice a n cap), .string root] w fun e w' => e = .returned (.int .i64 (plN S root n : Nat)) ∧ Below w.heap.size w w' := by
 obtain ⟨A, HA⟩ : ∃ x, Hid (x = w.heap.size) := ⟨_, rfl⟩
 obtain ⟨w0, HW0⟩ : ∃ x, Hid (x = w.alloc (.cells #[.int .i64 id, .int .i64 f, .slice a n cap] 72)) := ⟨_, rfl⟩
 have RA : Hid (Row w0 A 72 #[.int .i64 id, .int .i64 f, .slice a n cap]) := by show Row _ _ _ _; rw [HW0.out, HA.out]; exact Row.new w _ _
 have hb0 : Below w.heap.size w w0 := by rw [HW0.out]; exact (Below.refl _ _).alloc (Nat.le_refl _) _
 have KB0 : Hid (Below w.heap.size w w0) := hb0
 have KH : Hid (Rd w0 (slsD n S) (.slice a n cap)) := h.below hb0
 have x2 := RA.out.cell 2
 simp at x2
 clear h hb0
 go_enter Tryz.func73, Tryz.ntmps73
 go_wp2_with fail
 rw [← HW0.out, ← HA.out]
 go_loopw [5] (fun vi wr => ∃ k : Nat, k ≤ n ∧ vi = .int .i64 (k : Int) ∧ Hid (plF S root (n - k) k = plc S root n) ∧ Below w0.heap.size w0 wr) (fun vi _ => n - (intOf vi).toNat)
 case atStart => exact ⟨0, Nat.zero_le _, rfl, rfl, Below.refl _ _⟩
 case round =>
  obtain ⟨k, hk, rfl, HP, hbel⟩ := hrel
  replace x2 := (hbel.cell (p := ⟨A, 2, none⟩) RA.out.lt).trans x2
  have KBr : Hid (Below w.heap.size w wr ∧ Below w0.heap.size w0 wr) := ⟨below2 KB0.out hbel, hbel⟩
  by_cases hlt : k < n
  ·have hki : (k : Int) < (n : Int) := by omega
   obtain ⟨b1, f1, p6, p11, p12, q6, q11, q12, rfl, R1, _, _, _⟩ := slot_at (KH.out.below hbel) hlt
   have v0 : wr.cell? ⟨b1, f1 + k * 13, none⟩ = some (.string (S k).r) := by
    have := R1 0 (.string (S k).r) rfl
    simpa using this
   have e2 : n - k = (n - (k + 1)) + 1 := by omega
   have HP' := HP.out
   rw [e2] at HP'
   unfold plF at HP'
   clear R1 HP e2 hbel
   by_cases hr : (S k).r = root
   ·rw [if_pos hr] at HP'
    have HI : Hid (plN S root n = k) := by show _ = _; unfold plN; rw [← HP']
    rw [hr] at v0
    have hb := ba_beq root
    clear HP' hr
    go_wp2
    go_ret
    exact ⟨ret_int (by rw [HI.out]), KBr.out.1⟩
   ·rw [if_neg hr] at HP'
    have HP2 : Hid (plF S root (n - (k + 1)) (k + 1) = plc S root n) := HP'
    have hb := ba_ne hr
    clear HP' hr
    go_wp2
    go_roundw
    case rel => exact ⟨k + 1, by omega, by go_num, HP2, KBr.out.2⟩
    case measure => simp [intOf]; omega
  ·obtain rfl : k = n := by omega
   have HI : Hid (plN S root k = k) := by
    have := HP.out
    rw [Nat.sub_self] at this
    show _ = _
    unfold plN
    rw [← this]
    rfl
   go_wp2
   go_ret
   exact ⟨ret_int (by rw [HI.out]), KBr.out.1⟩
theorem slotOf_any (id f : Int) (a : Option Addr) (n cap : Nat) (S : Nat → Sl) (root : ByteArray) (w : World) (h : Rd w (slsD n S) (.slice a n cap)) (hn : n ≤ 1048576) (hs : ∀ i, i < n → SlK (S i)) :
  Calls Tryz.prog 63 #[ndV id f (.slice a n cap), .string root] w fun e w' => ∃ (a6 a11 a12 : Option Addr) (c6 c11 c12 : Nat) (F6 F11 F12 : Nat → Prop), e = .returned (.tuple #[slV (soS S root n) (.slice a6 (soS S root n).p.m c6) (.slice a11 (soS S root n).ze.length c11) (.slice a12 (soS S root n).zr.length c12), .bool (soB S root n)]) ∧ SlO w' w.heap.size (soS S root n) (.slice a6 (soS S root n).p.m c6) (.slice a11 (soS S root n).ze.length c11) (.slice a12 (soS S root n).zr.length c12) F6 F11 F12 ∧ Below w.heap.size w w' := by
 obtain ⟨A, HA⟩ : ∃ x, Hid (x = w.heap.size) := ⟨_, rfl⟩
 obtain ⟨D, HD⟩ : ∃ x, Hid (x = w.heap.size + 1) := ⟨_, rfl⟩
 obtain ⟨w0, HW0⟩ : ∃ x, Hid (x = (w.alloc (.cells #[.int .i64 id, .int .i64 f, .slice a n cap] 72)).alloc (.cells #[.string ⟨#[]⟩, .string ⟨#[]⟩, .int .i64 0, .int .i64 0, .int .i64 0, .string ⟨#[]⟩, .slice none 0 0, .bool false, .bool false, .bool false, .bool false, .slice none 0 0, .slice none 0 0] 90)) := ⟨_, rfl⟩
 have RA : Hid (Row w0 A 72 #[.int .i64 id, .int .i64 f, .slice a n cap]) := by show Row _ _ _ _; rw [HW0.out, HA.out]; exact Row.alloc (Row.new w _ _) _
 have RD : Hid (Row w0 D 90 #[.string ⟨#[]⟩, .string ⟨#[]⟩, .int .i64 0, .int .i64 0, .int .i64 0, .string ⟨#[]⟩, .slice none 0 0, .bool false, .bool false, .bool false, .bool false, .slice none 0 0, .slice none 0 0]) := by
  show Row _ _ _ _
  rw [HW0.out, HD.out]
  have := Row.new (w.alloc (.cells #[.int .i64 id, .int .i64 f, .slice a n cap] 72)) #[.string ⟨#[]⟩, .string ⟨#[]⟩, .int .i64 0, .int .i64 0, .int .i64 0, .string ⟨#[]⟩, .slice none 0 0, .bool false, .bool false, .bool false, .bool false, .slice none 0 0, .slice none 0 0] 90
  simpa using this
 have hb0 : Below w.heap.size w w0 := by rw [HW0.out]; exact ((Below.refl _ _).alloc (Nat.le_refl _) _).alloc (by simp) _
 have KB0 : Hid (Below w.heap.size w w0) := hb0
 have HL : Hid (w.heap.size ≤ D ∧ D < w0.heap.size) := ⟨by have := HD.out; omega, RD.out.lt⟩
 have KP : Hid _ := placeOf_any id f a n cap S root w0 (h.below hb0) hn
 have KH : Hid (Rd w0 (slsD n S) (.slice a n cap)) := h.below hb0
 have KN : Hid (∀ i, i < n → SlK (S i)) := hs
 clear h hb0 hs
 cases hp : plc S root n with
 | none =>
  have hpx : plX S root n = -1 := by unfold plX; rw [hp]
  rw [hpx] at KP
  have e1 : soS S root n = slZ := by unfold soS; rw [hp]
  have e2 : soB S root n = false := by unfold soB; rw [hp]; rfl
  rw [e1, e2]
  clear hp hpx e1 e2 KH KN
  go_enter Tryz.func63, Tryz.ntmps63
  go_wp2_with fail
  rw [← HW0.out, ← HD.out, ← HA.out]
  refine Calls.mono KP.out ?_
  rintro e w1 ⟨rfl, b1⟩
  have RA1 := RA.out.below b1 RA.out.lt
  have x2 := RA1.cell 2
  simp at x2
  have HD1 : Hid (Row w1 D 90 #[.string ⟨#[]⟩, .string ⟨#[]⟩, .int .i64 0, .int .i64 0, .int .i64 0, .string ⟨#[]⟩, .slice none 0 0, .bool false, .bool false, .bool false, .bool false, .slice none 0 0, .slice none 0 0]) := RD.out.below b1 RD.out.lt
  have KB1 : Hid (Below w.heap.size w w1) := below2 KB0.out b1
  obtain ⟨w7, HW7⟩ : ∃ x, Hid (x = w1.setRow D #[.string ⟨#[]⟩, .string ⟨#[]⟩, .int .i64 0, .int .i64 0, .int .i64 0, .string ⟨#[]⟩, .slice none 0 0, .bool false, .bool false, .bool false, .bool false, .slice none 0 0, .slice none 0 0]) := ⟨_, rfl⟩
  have ZR : Hid (Row w7 D 90 #[.string ⟨#[]⟩, .string ⟨#[]⟩, .int .i64 0, .int .i64 0, .int .i64 0, .string ⟨#[]⟩, .slice none 0 0, .bool false, .bool false, .bool false, .bool false, .slice none 0 0, .slice none 0 0]) := by show Row _ _ _ _; rw [HW7.out]; exact HD1.out.row
  have ZB : Hid (Below w.heap.size w w7) := by show Below _ _ _; rw [HW7.out]; exact belowSetRow KB1.out HL.out.1 _
  clear b1 RA1
  go_wp2_with (refine wpList_store_row (by rfl) 90 _ _ (by rfl) D #[.string ⟨#[]⟩, .string ⟨#[]⟩, .int .i64 0, .int .i64 0, .int .i64 0, .string ⟨#[]⟩, .slice none 0 0, .bool false, .bool false, .bool false, .bool false, .slice none 0 0, .slice none 0 0] (by rfl) (by rfl) 90 #[.string ⟨#[]⟩, .string ⟨#[]⟩, .int .i64 0, .int .i64 0, .int .i64 0, .string ⟨#[]⟩, .slice none 0 0, .bool false, .bool false, .bool false, .bool false, .slice none 0 0, .slice none 0 0] ?_ Tryz.infoSl rfl (by simp [Value.oneCell']) ?_; exact HD1.out; rw [← HW7.out])
  refine bodyPost_ret (v := .tuple #[slV slZ (.slice none 0 0) (.slice none 0 0) (.slice none 0 0), .bool false]) (by
   have p0 := ZR.out.cell 0
   have p1 := ZR.out.cell 1
   have p2 := ZR.out.cell 2
   have p3 := ZR.out.cell 3
   have p4 := ZR.out.cell 4
   have p5 := ZR.out.cell 5
   have p6 := ZR.out.cell 6
   have p7 := ZR.out.cell 7
   have p8 := ZR.out.cell 8
   have p9 := ZR.out.cell 9
   have p10 := ZR.out.cell 10
   have p11 := ZR.out.cell 11
   have p12 := ZR.out.cell 12
   simp at p0 p1 p2 p3 p4 p5 p6 p7 p8 p9 p10 p11 p12
   simp [results, Tryz.results63, go_sem, p0, p1, p2, p3, p4, p5, p6, p7, p8, p9, p10, p11, p12, slZ]
   try rfl) rfl ⟨none, none, none, 0, 0, 0, fun _ => False, fun _ => False, fun _ => False, rfl, ⟨Ow.nil _ _ _ _ _ _, Ow.nil _ _ _ _ _ _, Ow.nil _ _ _ _ _ _, fun _ h => h.elim, fun _ h => h.elim, fun _ h => h.elim⟩, ZB.out⟩
 | some x =>
  obtain ⟨_, hxn', _, _⟩ := plF_some hp
  have hxn : x < n := by omega
  clear hxn'
  have hpx : plX S root n = (x : Int) := by unfold plX; rw [hp]
  rw [hpx] at KP
  have hneg : ¬ ((x : Int) < 0) := by omega
  have hxi : (x : Int) < (n : Int) := by omega
  have e1 : soS S root n = S x := by unfold soS; rw [hp]
  have e2 : soB S root n = true := by unfold soB; rw [hp]; rfl
  rw [e1, e2]
  clear hp hpx e1 e2
  go_enter Tryz.func63, Tryz.ntmps63
  go_wp2_with fail
  rw [← HW0.out, ← HD.out, ← HA.out]
  refine Calls.mono KP.out ?_
  rintro e w1 ⟨rfl, b1⟩
  obtain ⟨q1, f1, p6, p11, p12, c6, c11, c12, rfl, R1, t6, t11, t12⟩ := slot_at (KH.out.below b1) hxn
  have R1 : Hid _ := R1
  have RA1 := RA.out.below b1 RA.out.lt
  have x2 := RA1.cell 2
  simp at x2
  have HD1 : Hid (Row w1 D 90 #[.string ⟨#[]⟩, .string ⟨#[]⟩, .int .i64 0, .int .i64 0, .int .i64 0, .string ⟨#[]⟩, .slice none 0 0, .bool false, .bool false, .bool false, .bool false, .slice none 0 0, .slice none 0 0]) := RD.out.below b1 RD.out.lt
  have KB1 : Hid (Below w.heap.size w w1) := below2 KB0.out b1
  have KC : Hid _ := copiedS_any (S x) p6 p11 p12 c6 c11 c12 w1 t6 t11 t12 (KN.out x hxn)
  have KSz : Hid (w0.heap.size ≤ w1.heap.size) := b1.size
  clear b1 RA1 t6 t11 t12
  go_wp2_with (refine wpList_load_mid (by rfl) 90 _ (by rfl) q1 (f1 + x * 13) (by rfl) (slL (S x) (.slice p6 (S x).p.m c6) (.slice p11 (S x).ze.length c11) (.slice p12 (S x).zr.length c12)) _ ?_ Tryz.underlying90 (by rfl) Tryz.infoSl ?_; exact R1.out)
  refine Calls.mono KC.out ?_
  rintro e w3 ⟨g6, e11, e12, h11, h12, F6, F11, F12, rfl, HS, b3⟩
  have HD3 : Hid (Row w3 D 90 #[.string ⟨#[]⟩, .string ⟨#[]⟩, .int .i64 0, .int .i64 0, .int .i64 0, .string ⟨#[]⟩, .slice none 0 0, .bool false, .bool false, .bool false, .bool false, .slice none 0 0, .slice none 0 0]) := HD1.out.below b3 HD1.out.lt
  have KB3 : Hid (Below w.heap.size w w3) := below2 KB1.out b3
  obtain ⟨w7, HW7⟩ : ∃ y, Hid (y = w3.setRow D (slC (S x) (.slice (some ⟨g6, 0, none⟩) (S x).p.m (S x).p.m) (.slice e11 (S x).ze.length h11) (.slice e12 (S x).zr.length h12))) := ⟨_, rfl⟩
  have ZR : Hid (Row w7 D 90 (slC (S x) (.slice (some ⟨g6, 0, none⟩) (S x).p.m (S x).p.m) (.slice e11 (S x).ze.length h11) (.slice e12 (S x).zr.length h12))) := by show Row _ _ _ _; rw [HW7.out]; exact HD3.out.row
  have ZB : Hid (Below w.heap.size w w7) := by show Below _ _ _; rw [HW7.out]; exact belowSetRow KB3.out HL.out.1 _
  have HSO : Hid (∃ F6 F11 F12, SlO w7 w.heap.size (S x) (.slice (some ⟨g6, 0, none⟩) (S x).p.m (S x).p.m) (.slice e11 (S x).ze.length h11) (.slice e12 (S x).zr.length h12) F6 F11 F12) := by
   rw [HW7.out]
   exact HS.setRow D _ (by have := KSz.out; have := HL.out.2; omega) KB1.out.size
  clear HS b3
  go_wp2_with (refine wpList_store_row (by rfl) 90 _ _ (by rfl) D (slC (S x) (.slice (some ⟨g6, 0, none⟩) (S x).p.m (S x).p.m) (.slice e11 (S x).ze.length h11) (.slice e12 (S x).zr.length h12)) (by rfl) (by rfl) 90 #[.string ⟨#[]⟩, .string ⟨#[]⟩, .int .i64 0, .int .i64 0, .int .i64 0, .string ⟨#[]⟩, .slice none 0 0, .bool false, .bool false, .bool false, .bool false, .slice none 0 0, .slice none 0 0] ?_ Tryz.infoSl rfl (by simp [Value.oneCell']) ?_; exact HD3.out; rw [← HW7.out])
  obtain ⟨F6', F11', F12', HS'⟩ := HSO.out
  refine bodyPost_ret (v := .tuple #[slV (S x) (.slice (some ⟨g6, 0, none⟩) (S x).p.m (S x).p.m) (.slice e11 (S x).ze.length h11) (.slice e12 (S x).zr.length h12), .bool true]) (by
   have p0 := ZR.out.cell 0
   have p1 := ZR.out.cell 1
   have p2 := ZR.out.cell 2
   have p3 := ZR.out.cell 3
   have p4 := ZR.out.cell 4
   have p5 := ZR.out.cell 5
   have p6 := ZR.out.cell 6
   have p7 := ZR.out.cell 7
   have p8 := ZR.out.cell 8
   have p9 := ZR.out.cell 9
   have p10 := ZR.out.cell 10
   have p11 := ZR.out.cell 11
   have p12 := ZR.out.cell 12
   simp at p0 p1 p2 p3 p4 p5 p6 p7 p8 p9 p10 p11 p12
   simp [results, Tryz.results63, go_sem, p0, p1, p2, p3, p4, p5, p6, p7, p8, p9, p10, p11, p12]) rfl ⟨some ⟨g6, 0, none⟩, e11, e12, (S x).p.m, h11, h12, F6', F11', F12', rfl, HS', ZB.out⟩
theorem sSlotOf_any (id f : Int) (a : Option Addr) (n cap : Nat) (S : Nat → Sl) (root : ByteArray) (w : World) (h : Rd w (slsD n S) (.slice a n cap)) (hn : n ≤ 1048576) (hs : ∀ i, i < n → SlS (S i)) :
  Calls Tryz.prog 51 #[ndV id f (.slice a n cap), .string root] w fun e w' => ∃ (a6 a11 a12 : Option Addr) (c6 c11 c12 : Nat) (F6 F11 F12 : Nat → Prop), e = .returned (.tuple #[slV (soS S root n) (.slice a6 (soS S root n).p.m c6) (.slice a11 (soS S root n).ze.length c11) (.slice a12 (soS S root n).zr.length c12), .bool (soB S root n)]) ∧ SlO w' w.heap.size (soS S root n) (.slice a6 (soS S root n).p.m c6) (.slice a11 (soS S root n).ze.length c11) (.slice a12 (soS S root n).zr.length c12) F6 F11 F12 ∧ Below w.heap.size w w' := by
 obtain ⟨A, HA⟩ : ∃ x, Hid (x = w.heap.size) := ⟨_, rfl⟩
 obtain ⟨D, HD⟩ : ∃ x, Hid (x = w.heap.size + 1) := ⟨_, rfl⟩
 obtain ⟨w0, HW0⟩ : ∃ x, Hid (x = (w.alloc (.cells #[.int .i64 id, .int .i64 f, .slice a n cap] 72)).alloc (.cells #[.string ⟨#[]⟩, .string ⟨#[]⟩, .int .i64 0, .int .i64 0, .int .i64 0, .string ⟨#[]⟩, .slice none 0 0, .bool false, .bool false, .bool false, .bool false, .slice none 0 0, .slice none 0 0] 90)) := ⟨_, rfl⟩
 have RA : Hid (Row w0 A 72 #[.int .i64 id, .int .i64 f, .slice a n cap]) := by show Row _ _ _ _; rw [HW0.out, HA.out]; exact Row.alloc (Row.new w _ _) _
 have RD : Hid (Row w0 D 90 #[.string ⟨#[]⟩, .string ⟨#[]⟩, .int .i64 0, .int .i64 0, .int .i64 0, .string ⟨#[]⟩, .slice none 0 0, .bool false, .bool false, .bool false, .bool false, .slice none 0 0, .slice none 0 0]) := by
  show Row _ _ _ _
  rw [HW0.out, HD.out]
  have := Row.new (w.alloc (.cells #[.int .i64 id, .int .i64 f, .slice a n cap] 72)) #[.string ⟨#[]⟩, .string ⟨#[]⟩, .int .i64 0, .int .i64 0, .int .i64 0, .string ⟨#[]⟩, .slice none 0 0, .bool false, .bool false, .bool false, .bool false, .slice none 0 0, .slice none 0 0] 90
  simpa using this
 have hb0 : Below w.heap.size w w0 := by rw [HW0.out]; exact ((Below.refl _ _).alloc (Nat.le_refl _) _).alloc (by simp) _
 have KB0 : Hid (Below w.heap.size w w0) := hb0
 have HL : Hid (w.heap.size ≤ D ∧ D < w0.heap.size) := ⟨by have := HD.out; omega, RD.out.lt⟩
 have KP : Hid _ := sPlace_any id f a n cap S root w0 (h.below hb0) hn
 have KH : Hid (Rd w0 (slsD n S) (.slice a n cap)) := h.below hb0
 have KN : Hid (∀ i, i < n → SlS (S i)) := hs
 clear h hb0 hs
 cases hp : plc S root n with
 | none =>
  have hpx : plN S root n = n := by unfold plN; rw [hp]
  rw [hpx] at KP
  have hnn : ((n : Int) == (n : Int)) = true := by simp
  have e1 : soS S root n = slZ := by unfold soS; rw [hp]
  have e2 : soB S root n = false := by unfold soB; rw [hp]; rfl
  rw [e1, e2]
  clear hp hpx e1 e2 KH KN
  go_enter Tryz.func51, Tryz.ntmps51
  go_wp2_with fail
  rw [← HW0.out, ← HD.out, ← HA.out]
  refine Calls.mono KP.out ?_
  rintro e w1 ⟨rfl, b1⟩
  have RA1 := RA.out.below b1 RA.out.lt
  have x2 := RA1.cell 2
  simp at x2
  have HD1 : Hid (Row w1 D 90 #[.string ⟨#[]⟩, .string ⟨#[]⟩, .int .i64 0, .int .i64 0, .int .i64 0, .string ⟨#[]⟩, .slice none 0 0, .bool false, .bool false, .bool false, .bool false, .slice none 0 0, .slice none 0 0]) := RD.out.below b1 RD.out.lt
  have KB1 : Hid (Below w.heap.size w w1) := below2 KB0.out b1
  obtain ⟨w7, HW7⟩ : ∃ x, Hid (x = w1.setRow D #[.string ⟨#[]⟩, .string ⟨#[]⟩, .int .i64 0, .int .i64 0, .int .i64 0, .string ⟨#[]⟩, .slice none 0 0, .bool false, .bool false, .bool false, .bool false, .slice none 0 0, .slice none 0 0]) := ⟨_, rfl⟩
  have ZR : Hid (Row w7 D 90 #[.string ⟨#[]⟩, .string ⟨#[]⟩, .int .i64 0, .int .i64 0, .int .i64 0, .string ⟨#[]⟩, .slice none 0 0, .bool false, .bool false, .bool false, .bool false, .slice none 0 0, .slice none 0 0]) := by show Row _ _ _ _; rw [HW7.out]; exact HD1.out.row
  have ZB : Hid (Below w.heap.size w w7) := by show Below _ _ _; rw [HW7.out]; exact belowSetRow KB1.out HL.out.1 _
  clear b1 RA1
  go_wp2_with (refine wpList_store_row (by rfl) 90 _ _ (by rfl) D #[.string ⟨#[]⟩, .string ⟨#[]⟩, .int .i64 0, .int .i64 0, .int .i64 0, .string ⟨#[]⟩, .slice none 0 0, .bool false, .bool false, .bool false, .bool false, .slice none 0 0, .slice none 0 0] (by rfl) (by rfl) 90 #[.string ⟨#[]⟩, .string ⟨#[]⟩, .int .i64 0, .int .i64 0, .int .i64 0, .string ⟨#[]⟩, .slice none 0 0, .bool false, .bool false, .bool false, .bool false, .slice none 0 0, .slice none 0 0] ?_ Tryz.infoSl rfl (by simp [Value.oneCell']) ?_; exact HD1.out; rw [← HW7.out])
  refine bodyPost_ret (v := .tuple #[slV slZ (.slice none 0 0) (.slice none 0 0) (.slice none 0 0), .bool false]) (by
   have p0 := ZR.out.cell 0
   have p1 := ZR.out.cell 1
   have p2 := ZR.out.cell 2
   have p3 := ZR.out.cell 3
   have p4 := ZR.out.cell 4
   have p5 := ZR.out.cell 5
   have p6 := ZR.out.cell 6
   have p7 := ZR.out.cell 7
   have p8 := ZR.out.cell 8
   have p9 := ZR.out.cell 9
   have p10 := ZR.out.cell 10
   have p11 := ZR.out.cell 11
   have p12 := ZR.out.cell 12
   simp at p0 p1 p2 p3 p4 p5 p6 p7 p8 p9 p10 p11 p12
   simp [results, Tryz.results51, go_sem, p0, p1, p2, p3, p4, p5, p6, p7, p8, p9, p10, p11, p12, slZ]
   try rfl) rfl ⟨none, none, none, 0, 0, 0, fun _ => False, fun _ => False, fun _ => False, rfl, ⟨Ow.nil _ _ _ _ _ _, Ow.nil _ _ _ _ _ _, Ow.nil _ _ _ _ _ _, fun _ h => h.elim, fun _ h => h.elim, fun _ h => h.elim⟩, ZB.out⟩
 | some x =>
  obtain ⟨_, hxn', _, _⟩ := plF_some hp
  have hxn : x < n := by omega
  clear hxn'
  have hpx : plN S root n = x := by unfold plN; rw [hp]
  rw [hpx] at KP
  have hneg : ((x : Int) == (n : Int)) = false := by simp; omega
  have hxi : (x : Int) < (n : Int) := by omega
  have e1 : soS S root n = S x := by unfold soS; rw [hp]
  have e2 : soB S root n = true := by unfold soB; rw [hp]; rfl
  rw [e1, e2]
  clear hp hpx e1 e2
  go_enter Tryz.func51, Tryz.ntmps51
  go_wp2_with fail
  rw [← HW0.out, ← HD.out, ← HA.out]
  refine Calls.mono KP.out ?_
  rintro e w1 ⟨rfl, b1⟩
  obtain ⟨q1, f1, p6, p11, p12, c6, c11, c12, rfl, R1, t6, t11, t12⟩ := slot_at (KH.out.below b1) hxn
  have R1 : Hid _ := R1
  have RA1 := RA.out.below b1 RA.out.lt
  have x2 := RA1.cell 2
  simp at x2
  have HD1 : Hid (Row w1 D 90 #[.string ⟨#[]⟩, .string ⟨#[]⟩, .int .i64 0, .int .i64 0, .int .i64 0, .string ⟨#[]⟩, .slice none 0 0, .bool false, .bool false, .bool false, .bool false, .slice none 0 0, .slice none 0 0]) := RD.out.below b1 RD.out.lt
  have KB1 : Hid (Below w.heap.size w w1) := below2 KB0.out b1
  have KC : Hid _ := sCopyS_any (S x) p6 p11 p12 c6 c11 c12 w1 t6 t11 t12 (KN.out x hxn)
  have KSz : Hid (w0.heap.size ≤ w1.heap.size) := b1.size
  clear b1 RA1 t6 t11 t12
  go_wp2_with (refine wpList_load_mid (by rfl) 90 _ (by rfl) q1 (f1 + x * 13) (by rfl) (slL (S x) (.slice p6 (S x).p.m c6) (.slice p11 (S x).ze.length c11) (.slice p12 (S x).zr.length c12)) _ ?_ Tryz.underlying90 (by rfl) Tryz.infoSl ?_; exact R1.out)
  refine Calls.mono KC.out ?_
  rintro e w3 ⟨g6, g11, g12, h6, h11, h12, F6, F11, F12, rfl, HS, b3⟩
  have HD3 : Hid (Row w3 D 90 #[.string ⟨#[]⟩, .string ⟨#[]⟩, .int .i64 0, .int .i64 0, .int .i64 0, .string ⟨#[]⟩, .slice none 0 0, .bool false, .bool false, .bool false, .bool false, .slice none 0 0, .slice none 0 0]) := HD1.out.below b3 HD1.out.lt
  have KB3 : Hid (Below w.heap.size w w3) := below2 KB1.out b3
  obtain ⟨w7, HW7⟩ : ∃ y, Hid (y = w3.setRow D (slC (S x) (.slice (some ⟨g6, 0, none⟩) (S x).p.m h6) (.slice (some ⟨g11, 0, none⟩) (S x).ze.length h11) (.slice (some ⟨g12, 0, none⟩) (S x).zr.length h12))) := ⟨_, rfl⟩
  have ZR : Hid (Row w7 D 90 (slC (S x) (.slice (some ⟨g6, 0, none⟩) (S x).p.m h6) (.slice (some ⟨g11, 0, none⟩) (S x).ze.length h11) (.slice (some ⟨g12, 0, none⟩) (S x).zr.length h12))) := by show Row _ _ _ _; rw [HW7.out]; exact HD3.out.row
  have ZB : Hid (Below w.heap.size w w7) := by show Below _ _ _; rw [HW7.out]; exact belowSetRow KB3.out HL.out.1 _
  have HSO : Hid (∃ F6 F11 F12, SlO w7 w.heap.size (S x) (.slice (some ⟨g6, 0, none⟩) (S x).p.m h6) (.slice (some ⟨g11, 0, none⟩) (S x).ze.length h11) (.slice (some ⟨g12, 0, none⟩) (S x).zr.length h12) F6 F11 F12) := by
   rw [HW7.out]
   exact HS.setRow D _ (by have := KSz.out; have := HL.out.2; omega) KB1.out.size
  clear HS b3
  go_wp2_with (refine wpList_store_row (by rfl) 90 _ _ (by rfl) D (slC (S x) (.slice (some ⟨g6, 0, none⟩) (S x).p.m h6) (.slice (some ⟨g11, 0, none⟩) (S x).ze.length h11) (.slice (some ⟨g12, 0, none⟩) (S x).zr.length h12)) (by rfl) (by rfl) 90 #[.string ⟨#[]⟩, .string ⟨#[]⟩, .int .i64 0, .int .i64 0, .int .i64 0, .string ⟨#[]⟩, .slice none 0 0, .bool false, .bool false, .bool false, .bool false, .slice none 0 0, .slice none 0 0] ?_ Tryz.infoSl rfl (by simp [Value.oneCell']) ?_; exact HD3.out; rw [← HW7.out])
  obtain ⟨F6', F11', F12', HS'⟩ := HSO.out
  refine bodyPost_ret (v := .tuple #[slV (S x) (.slice (some ⟨g6, 0, none⟩) (S x).p.m h6) (.slice (some ⟨g11, 0, none⟩) (S x).ze.length h11) (.slice (some ⟨g12, 0, none⟩) (S x).zr.length h12), .bool true]) (by
   have p0 := ZR.out.cell 0
   have p1 := ZR.out.cell 1
   have p2 := ZR.out.cell 2
   have p3 := ZR.out.cell 3
   have p4 := ZR.out.cell 4
   have p5 := ZR.out.cell 5
   have p6 := ZR.out.cell 6
   have p7 := ZR.out.cell 7
   have p8 := ZR.out.cell 8
   have p9 := ZR.out.cell 9
   have p10 := ZR.out.cell 10
   have p11 := ZR.out.cell 11
   have p12 := ZR.out.cell 12
   simp at p0 p1 p2 p3 p4 p5 p6 p7 p8 p9 p10 p11 p12
   simp [results, Tryz.results51, go_sem, p0, p1, p2, p3, p4, p5, p6, p7, p8, p9, p10, p11, p12]) rfl ⟨some ⟨g6, 0, none⟩, some ⟨g11, 0, none⟩, some ⟨g12, 0, none⟩, h6, h11, h12, F6', F11', F12', rfl, HS', ZB.out⟩
theorem tot_ge2 {g : Nat → Nat} {n i : Nat} (hi : i < n) : g i ≤ tot g n := by have := tot_step (g := g) hi; omega
theorem wtL_little {n : Nat} {S : Nat → Sl} (h : wtL n S ≤ 1048576) : n ≤ 1048576 ∧ (∀ i, i < n → SlS (S i)) ∧ (∀ i, i < n → SlK (S i)) ∧ 1 + tot (fun i => wkS (S i)) n ≤ 40000000 := by
 unfold wtL at h
 have hw : ∀ i, i < n → wtS (S i) ≤ 1048576 := fun i hi => by have : wtS (S i) ≤ tot (fun i => wtS (S i)) n := tot_ge2 (g := fun i => wtS (S i)) hi; omega
 have h10 : tot (fun i => wkS (S i)) n ≤ 10 * n + tot (fun i => wtS (S i)) n := by
  clear h hw
  induction n with
  | zero => exact Nat.le_refl _
  | succ n ih =>
   show tot (fun i => wkS (S i)) n + wkS (S n) ≤ 10 * (n + 1) + (tot (fun i => wtS (S i)) n + wtS (S n))
   have : wkS (S n) ≤ 10 + wtS (S n) := by unfold wkS wtS wtP; omega
   omega
 refine ⟨by omega, fun i hi => ?_, fun i hi => ?_, by omega⟩
 ·have := hw i hi
  unfold wtS wtP at this
  exact ⟨by omega, by omega, by omega⟩
 ·have := hw i hi
  unfold wtS wtP at this
  refine ⟨by omega, by omega, by omega, by omega, fun j hj => ?_, by omega, by omega⟩
  have : ((S i).p.S j).size ≤ tot (fun j => ((S i).p.S j).size) (S i).p.m := tot_ge2 (g := fun j => ((S i).p.S j).size) hj
  omega
section
variable {w W W' : World} {B E X G bx bg : Nat} {id f : Int} {a : Option Addr} {n c gx : Nat} {T TG TH : Sl} {v6 v11 v12 u6 u11 u12 : Value}
end
end Go.Proofs.YtgooamiggebibaaGreatDoor
