/- A slot, copied, in the program. Conditions: texts and lists of at most 2^20. Written by a program. -/
import Derived.Test.YtgiegoamcfjfmaaGreatJ34
import Derived.Test.YtgiegoamcfjfmaaGreatJ37
import Derived.Deep.CutRange
import Derived.Test.YtgiegoamcfjfmaaGreatJ35
namespace Go.Proofs.YtgiegoamcfjfmaaGreat
set_option maxRecDepth 2000
open Go.ChangeShapes Go.WideShapes Go.ChangeAt Go.RowKit

theorem Ow.far {w : World} {B : Nat} {d : Dt} {v : Value} {F : Nat → Prop} (h : Ow w B d v F) {g : Nat} (o : Nat) (x : Value) (hn : ¬ F g) : Ow (w.setCell ⟨g, o, none⟩ x) B d v F :=
  h.turned (Trn.set w o x (F := fun y => y = g) rfl) (fun _ hy e => hn (e ▸ hy))
/-- A slot that is ours: its three lists, no two of which share. -/
structure SlO (w : World) (B : Nat) (s : Sl) (v6 v11 v12 : Value) (F6 F11 F12 : Nat → Prop) : Prop where
  t : Ow w B (txD s.p.m s.p.S) v6 F6
  e : Ow w B (inD s.ze) v11 F11
  z : Ow w B (inD s.zr) v12 F12
  d1 : ∀ g, F6 g → ¬ F11 g
  d2 : ∀ g, F6 g → ¬ F12 g
  d3 : ∀ g, F11 g → ¬ F12 g
/-- What can be cloned. -/
structure SlK (s : Sl) : Prop where
  r : s.r.size ≤ 1048576
  pr : s.p.r.size ≤ 1048576
  pb : s.p.b.size ≤ 1048576
  m : s.p.m ≤ 1048576
  tx : ∀ i, i < s.p.m → (s.p.S i).size ≤ 1048576
  ne : s.ze.length ≤ 1048576
  nr : s.zr.length ≤ 1048576
/-- What stands behind the two clones of a slot's numbers. -/
def CpB (w0 wc w : World) (s : Sl) (A D g6 : Nat) (wx : World) : Prop := ∃ (e11 e12 : Option Addr) (h11 h12 : Nat) (F11 F12 : Nat → Prop), Row wx A 62 (slC s (.slice (some ⟨g6, 0, none⟩) s.p.m s.p.m) (.slice e11 s.ze.length h11) (.slice e12 s.zr.length h12)) ∧ Row wx D 62 #[.string ⟨#[]⟩, .string ⟨#[]⟩, .int .i64 0, .int .i64 0, .int .i64 0, .string ⟨#[]⟩, .slice none 0 0, .bool false, .bool false, .bool false, .bool false, .slice none 0 0, .slice none 0 0] ∧ OwnT wx w0.heap.size (some ⟨g6, 0, none⟩) s.p.m s.p.m s.p.S ∧ Ow wx wc.heap.size (inD s.ze) (.slice e11 s.ze.length h11) F11 ∧ Ow wx wc.heap.size (inD s.zr) (.slice e12 s.zr.length h12) F12 ∧ (∀ x, F11 x → ¬ F12 x) ∧ (∀ x, F11 x → wc.heap.size ≤ x) ∧ (∀ x, F12 x → wc.heap.size ≤ x) ∧ Below w.heap.size w wx
theorem cpB_a {w0 wc w w7 w8 : World} {s : Sl} {A D g6 h11 h12 c11 c12 : Nat} {e11 e12 a11 a12 : Option Addr} (RA : Row wc A 62 (slC s (.slice (some ⟨g6, 0, none⟩) s.p.m s.p.m) (.slice a11 s.ze.length c11) (.slice a12 s.zr.length c12))) (RD : Row wc D 62 #[.string ⟨#[]⟩, .string ⟨#[]⟩, .int .i64 0, .int .i64 0, .int .i64 0, .string ⟨#[]⟩, .slice none 0 0, .bool false, .bool false, .bool false, .bool false, .slice none 0 0, .slice none 0 0]) (O6 : OwnT wc w0.heap.size (some ⟨g6, 0, none⟩) s.p.m s.p.m s.p.S) (hA : A < w0.heap.size) (hAD : A ≠ D ∧ w.heap.size ≤ A) (B : Below w.heap.size w wc) (b7 : Below wc.heap.size wc w7) (O7 : Ow w7 wc.heap.size (inD s.ze) (.slice e11 s.ze.length h11) (rng wc.heap.size w7.heap.size)) (b8 : Below w7.heap.size w7 w8) (O8 : Ow w8 w7.heap.size (inD s.zr) (.slice e12 s.zr.length h12) (rng w7.heap.size w8.heap.size)) :
    CpB w0 wc w s A D g6 ((w8.setCell ⟨A, 11, none⟩ (.slice e11 s.ze.length h11)).setCell ⟨A, 12, none⟩ (.slice e12 s.zr.length h12)) := by
  have lA := RA.lt
  have n7 := b7.size
  have b78 := below2 b7 b8
  have h1 : ¬ rng wc.heap.size w7.heap.size A := fun h => by have := h.1; omega
  have h2 : ¬ rng w7.heap.size w8.heap.size A := fun h => by have := h.1; omega
  exact ⟨e11, e12, h11, h12, _, _, ((RA.below b78 lA).set 11 _).set 12 _, ((RD.below b78 RD.lt).other 11 _ (Ne.symm hAD.1)).other 12 _ (Ne.symm hAD.1), ((O6.below b78).setFar hA).setFar hA, ((O7.below b8).far 11 _ h1).far 12 _ h1, ((O8.base n7).far 11 _ h2).far 12 _ h2, fun x hx hy => by have := hx.2; have := hy.1; omega, fun x hx => hx.1, fun x hx => by have := hx.1; omega, ((below2 B b78).setCell hAD.2 _).setCell hAD.2 _⟩
theorem cpB_b {w0 wc w w7 w8 : World} {s : Sl} {A D g6 h11 h12 c11 c12 : Nat} {e11 e12 a11 a12 : Option Addr} (RA : Row wc A 62 (slC s (.slice (some ⟨g6, 0, none⟩) s.p.m s.p.m) (.slice a11 s.ze.length c11) (.slice a12 s.zr.length c12))) (RD : Row wc D 62 #[.string ⟨#[]⟩, .string ⟨#[]⟩, .int .i64 0, .int .i64 0, .int .i64 0, .string ⟨#[]⟩, .slice none 0 0, .bool false, .bool false, .bool false, .bool false, .slice none 0 0, .slice none 0 0]) (O6 : OwnT wc w0.heap.size (some ⟨g6, 0, none⟩) s.p.m s.p.m s.p.S) (hA : A < w0.heap.size) (hAD : A ≠ D ∧ w.heap.size ≤ A) (B : Below w.heap.size w wc) (b7 : Below wc.heap.size wc w7) (O7 : Ow w7 wc.heap.size (inD s.ze) (.slice e11 s.ze.length h11) (rng wc.heap.size w7.heap.size)) (b8 : Below (w7.setCell ⟨A, 11, none⟩ (.slice e11 s.ze.length h11)).heap.size (w7.setCell ⟨A, 11, none⟩ (.slice e11 s.ze.length h11)) w8) (O8 : Ow w8 (w7.setCell ⟨A, 11, none⟩ (.slice e11 s.ze.length h11)).heap.size (inD s.zr) (.slice e12 s.zr.length h12) (rng (w7.setCell ⟨A, 11, none⟩ (.slice e11 s.ze.length h11)).heap.size w8.heap.size)) :
    CpB w0 wc w s A D g6 (w8.setCell ⟨A, 12, none⟩ (.slice e12 s.zr.length h12)) := by
  have lA := RA.lt
  have n7 := b7.size
  have ns : (w7.setCell ⟨A, 11, none⟩ (.slice e11 s.ze.length h11)).heap.size = w7.heap.size := by simp
  rw [ns] at O8
  have h1 : ¬ rng wc.heap.size w7.heap.size A := fun h => by have := h.1; omega
  have h2 : ¬ rng w7.heap.size w8.heap.size A := fun h => by have := h.1; omega
  have l7 : A < w7.heap.size := by omega
  have lD : D < w7.heap.size := by have := RD.lt; omega
  exact ⟨e11, e12, h11, h12, _, _, (((RA.below b7 lA).set 11 _).below b8 (by rw [ns]; exact l7)).set 12 _, (((RD.below b7 RD.lt).other 11 _ (Ne.symm hAD.1)).below b8 (by rw [ns]; exact lD)).other 12 _ (Ne.symm hAD.1), (((O6.below b7).setFar hA).below b8).setFar hA, ((O7.far 11 _ h1).below b8).far 12 _ h1, (O8.base n7).far 12 _ h2, fun x hx hy => by have := hx.2; have := hy.1; omega, fun x hx => hx.1, fun x hx => by have := hx.1; omega, (below2 ((below2 B b7).setCell hAD.2 _) b8).setCell hAD.2 _⟩
set_option maxHeartbeats 4000000 in
theorem copiedS_any (s : Sl) (a6 a11 a12 : Option Addr) (c6 c11 c12 : Nat) (w : World) (h6 : TxtAt w a6 s.p.m s.p.S) (h11 : IntsAt w a11 s.ze.length s.ze) (h12 : IntsAt w a12 s.zr.length s.zr) (hs : SlK s) :
    Calls Tryz.prog 97 #[slV s (.slice a6 s.p.m c6) (.slice a11 s.ze.length c11) (.slice a12 s.zr.length c12)] w fun e w' => ∃ (g6 : Nat) (e11 e12 : Option Addr) (h11 h12 : Nat) (F6 F11 F12 : Nat → Prop), e = .returned (slV s (.slice (some ⟨g6, 0, none⟩) s.p.m s.p.m) (.slice e11 s.ze.length h11) (.slice e12 s.zr.length h12)) ∧ SlO w' w.heap.size s (.slice (some ⟨g6, 0, none⟩) s.p.m s.p.m) (.slice e11 s.ze.length h11) (.slice e12 s.zr.length h12) F6 F11 F12 ∧ Below w.heap.size w w' := by
  obtain ⟨A, HA⟩ : ∃ x, Hid (x = w.heap.size) := ⟨_, rfl⟩
  obtain ⟨D, HD⟩ : ∃ x, Hid (x = w.heap.size + 1) := ⟨_, rfl⟩
  obtain ⟨w0, HW0⟩ : ∃ x, Hid (x = (w.alloc (.cells (slC s (.slice a6 s.p.m c6) (.slice a11 s.ze.length c11) (.slice a12 s.zr.length c12)) 62)).alloc (.cells #[.string ⟨#[]⟩, .string ⟨#[]⟩, .int .i64 0, .int .i64 0, .int .i64 0, .string ⟨#[]⟩, .slice none 0 0, .bool false, .bool false, .bool false, .bool false, .slice none 0 0, .slice none 0 0] 62)) := ⟨_, rfl⟩
  have RA : Hid (Row w0 A 62 (slC s (.slice a6 s.p.m c6) (.slice a11 s.ze.length c11) (.slice a12 s.zr.length c12))) := by show Row _ _ _ _; rw [HW0.out, HA.out]; exact Row.alloc (Row.new w _ _) _
  have RD : Hid (Row w0 D 62 #[.string ⟨#[]⟩, .string ⟨#[]⟩, .int .i64 0, .int .i64 0, .int .i64 0, .string ⟨#[]⟩, .slice none 0 0, .bool false, .bool false, .bool false, .bool false, .slice none 0 0, .slice none 0 0]) := by
    show Row _ _ _ _
    rw [HW0.out, HD.out]
    have := Row.new (w.alloc (.cells (slC s (.slice a6 s.p.m c6) (.slice a11 s.ze.length c11) (.slice a12 s.zr.length c12)) 62)) #[.string ⟨#[]⟩, .string ⟨#[]⟩, .int .i64 0, .int .i64 0, .int .i64 0, .string ⟨#[]⟩, .slice none 0 0, .bool false, .bool false, .bool false, .bool false, .slice none 0 0, .slice none 0 0] 62
    simpa using this
  have hb0 : Below w.heap.size w w0 := by rw [HW0.out]; exact ((Below.refl _ _).alloc (Nat.le_refl _) _).alloc (by simp) _
  have KB0 : Hid (Below w.heap.size w w0) := hb0
  have hAD : Hid (A ≠ D ∧ w.heap.size ≤ A ∧ w.heap.size ≤ D) := ⟨by have := HA.out; have := HD.out; omega, by have := HA.out; omega, by have := HD.out; omega⟩
  have KCr : Hid (∀ W, Calls Tryz.prog 91 #[.string s.r] W fun e w' => e = .returned (.string s.r) ∧ Below W.heap.size W w') := fun W => clone_any s.r W hs.r
  have KCP : Hid (∀ W, Below w.heap.size w W → Calls Tryz.prog 152 #[pcV s.p.r s.p.k s.p.n s.p.i s.p.b (.slice a6 s.p.m c6)] W fun e w' => ∃ g, e = .returned (pcV s.p.r s.p.k s.p.n s.p.i s.p.b (.slice (some ⟨g, 0, none⟩) s.p.m s.p.m)) ∧ OwnT w' W.heap.size (some ⟨g, 0, none⟩) s.p.m s.p.m s.p.S ∧ Below W.heap.size W w') := fun W hW => copiedP_any _ _ _ _ _ a6 _ c6 _ W (h6.below hW) hs.m hs.pr hs.pb hs.tx
  have KC1 : Hid (∀ W, Below w.heap.size w W → Calls Tryz.prog 126 #[.slice a11 s.ze.length c11] W _) := fun W hW => cloneI_any a11 c11 s.ze W (h11.below hW) hs.ne
  have KC2 : Hid (∀ W, Below w.heap.size w W → Calls Tryz.prog 126 #[.slice a12 s.zr.length c12] W _) := fun W hW => cloneI_any a12 c12 s.zr W (h12.below hW) hs.nr
  clear h6 h11 h12 hb0 hs
  go_enter Tryz.func97, Tryz.ntmps97
  go_wp2_with fail
  rw [← HW0.out, ← HD.out, ← HA.out]
  go_cut [] from 3 to 10 (fun wx => Hid (∃ g6, Row wx A 62 (slC s (.slice (some ⟨g6, 0, none⟩) s.p.m s.p.m) (.slice a11 s.ze.length c11) (.slice a12 s.zr.length c12)) ∧ Row wx D 62 #[.string ⟨#[]⟩, .string ⟨#[]⟩, .int .i64 0, .int .i64 0, .int .i64 0, .string ⟨#[]⟩, .slice none 0 0, .bool false, .bool false, .bool false, .bool false, .slice none 0 0, .slice none 0 0] ∧ OwnT wx w0.heap.size (some ⟨g6, 0, none⟩) s.p.m s.p.m s.p.S ∧ Below w.heap.size w wx))
  case first =>
    have lA := RA.out.lt
    have lD := RD.out.lt
    have q0 := RA.out.cell 0
    have q1 := RA.out.cell 1
    have q2 := RA.out.cell 2
    have q3 := RA.out.cell 3
    have q4 := RA.out.cell 4
    have q5 := RA.out.cell 5
    have q6 := RA.out.cell 6
    have q7 := RA.out.cell 7
    have q8 := RA.out.cell 8
    have q9 := RA.out.cell 9
    have q10 := RA.out.cell 10
    have q11 := RA.out.cell 11
    have q12 := RA.out.cell 12
    simp at q0 q1 q2 q3 q4 q5 q6 q7 q8 q9 q10 q11 q12
    have KTW : Hid (∀ W, Below w0.heap.size w0 W → Row W A 62 (slC s (.slice a6 s.p.m c6) (.slice a11 s.ze.length c11) (.slice a12 s.zr.length c12)) ∧ Row W D 62 #[.string ⟨#[]⟩, .string ⟨#[]⟩, .int .i64 0, .int .i64 0, .int .i64 0, .string ⟨#[]⟩, .slice none 0 0, .bool false, .bool false, .bool false, .bool false, .slice none 0 0, .slice none 0 0] ∧ Below w.heap.size w W ∧ w0.heap.size ≤ W.heap.size) := fun W hW => ⟨RA.out.below hW lA, RD.out.below hW lD, below2 KB0.out hW, hW.size⟩
    have KST : Hid (∀ W, Row W A 62 (slC s (.slice a6 s.p.m c6) (.slice a11 s.ze.length c11) (.slice a12 s.zr.length c12)) ∧ Row W D 62 #[.string ⟨#[]⟩, .string ⟨#[]⟩, .int .i64 0, .int .i64 0, .int .i64 0, .string ⟨#[]⟩, .slice none 0 0, .bool false, .bool false, .bool false, .bool false, .slice none 0 0, .slice none 0 0] ∧ Below w.heap.size w W ∧ w0.heap.size ≤ W.heap.size → Row (W.setCell ⟨A, 0, none⟩ (.string s.r)) A 62 (slC s (.slice a6 s.p.m c6) (.slice a11 s.ze.length c11) (.slice a12 s.zr.length c12)) ∧ Row (W.setCell ⟨A, 0, none⟩ (.string s.r)) D 62 #[.string ⟨#[]⟩, .string ⟨#[]⟩, .int .i64 0, .int .i64 0, .int .i64 0, .string ⟨#[]⟩, .slice none 0 0, .bool false, .bool false, .bool false, .bool false, .slice none 0 0, .slice none 0 0] ∧ Below w.heap.size w (W.setCell ⟨A, 0, none⟩ (.string s.r)) ∧ w0.heap.size ≤ (W.setCell ⟨A, 0, none⟩ (.string s.r)).heap.size) := fun W hW => ⟨hW.1.set 0 _, hW.2.1.other 0 _ (Ne.symm hAD.out.1), hW.2.2.1.setCell hAD.out.2.1 _, by simpa using hW.2.2.2⟩
    have KNX : Hid (∀ W W' g, Row W A 62 (slC s (.slice a6 s.p.m c6) (.slice a11 s.ze.length c11) (.slice a12 s.zr.length c12)) ∧ Row W D 62 #[.string ⟨#[]⟩, .string ⟨#[]⟩, .int .i64 0, .int .i64 0, .int .i64 0, .string ⟨#[]⟩, .slice none 0 0, .bool false, .bool false, .bool false, .bool false, .slice none 0 0, .slice none 0 0] ∧ Below w.heap.size w W ∧ w0.heap.size ≤ W.heap.size → OwnT W' W.heap.size (some ⟨g, 0, none⟩) s.p.m s.p.m s.p.S → Below W.heap.size W W' → Row W' A 62 (slC s (.slice a6 s.p.m c6) (.slice a11 s.ze.length c11) (.slice a12 s.zr.length c12)) ∧ Row W' D 62 #[.string ⟨#[]⟩, .string ⟨#[]⟩, .int .i64 0, .int .i64 0, .int .i64 0, .string ⟨#[]⟩, .slice none 0 0, .bool false, .bool false, .bool false, .bool false, .slice none 0 0, .slice none 0 0] ∧ OwnT W' w0.heap.size (some ⟨g, 0, none⟩) s.p.m s.p.m s.p.S ∧ Below w.heap.size w W') := fun W W' g hW hO hB => ⟨hW.1.below hB hW.1.lt, hW.2.1.below hB hW.2.1.lt, OwnT.base hO hW.2.2.2, below2 hW.2.2.1 hB⟩
    have KQ : Hid (∀ W, Row W A 62 (slC s (.slice a6 s.p.m c6) (.slice a11 s.ze.length c11) (.slice a12 s.zr.length c12)) → W.cell? ⟨A, 0, none⟩ = some (.string s.r) ∧ W.cell? ⟨A, 1, none⟩ = some (.string s.p.r) ∧ W.cell? ⟨A, 2, none⟩ = some (.int .i64 s.p.k) ∧ W.cell? ⟨A, 3, none⟩ = some (.int .i64 s.p.n) ∧ W.cell? ⟨A, 4, none⟩ = some (.int .i64 s.p.i) ∧ W.cell? ⟨A, 5, none⟩ = some (.string s.p.b) ∧ W.cell? ⟨A, 6, none⟩ = some (.slice a6 s.p.m c6) ∧ W.cell? ⟨A, 7, none⟩ = some (.bool s.h) ∧ W.cell? ⟨A, 8, none⟩ = some (.bool s.e) ∧ W.cell? ⟨A, 9, none⟩ = some (.bool s.d) ∧ W.cell? ⟨A, 10, none⟩ = some (.bool s.o) ∧ W.cell? ⟨A, 11, none⟩ = some (.slice a11 s.ze.length c11) ∧ W.cell? ⟨A, 12, none⟩ = some (.slice a12 s.zr.length c12)) := fun W hW => by
      have z0 := hW.cell 0
      have z1 := hW.cell 1
      have z2 := hW.cell 2
      have z3 := hW.cell 3
      have z4 := hW.cell 4
      have z5 := hW.cell 5
      have z6 := hW.cell 6
      have z7 := hW.cell 7
      have z8 := hW.cell 8
      have z9 := hW.cell 9
      have z10 := hW.cell 10
      have z11 := hW.cell 11
      have z12 := hW.cell 12
      simp at z0 z1 z2 z3 z4 z5 z6 z7 z8 z9 z10 z11 z12
      exact ⟨z0, z1, z2, z3, z4, z5, z6, z7, z8, z9, z10, z11, z12⟩
    have KF : Hid (∀ W, Row W A 62 (slC s (.slice a6 s.p.m c6) (.slice a11 s.ze.length c11) (.slice a12 s.zr.length c12)) → W.frozen? ⟨A, 0, none⟩ = false ∧ W.frozen? ⟨A, 1, none⟩ = false ∧ W.frozen? ⟨A, 2, none⟩ = false ∧ W.frozen? ⟨A, 3, none⟩ = false ∧ W.frozen? ⟨A, 4, none⟩ = false ∧ W.frozen? ⟨A, 5, none⟩ = false ∧ W.frozen? ⟨A, 6, none⟩ = false) := fun W hW => ⟨hW.free 0, hW.free 1, hW.free 2, hW.free 3, hW.free 4, hW.free 5, hW.free 6⟩
    go_region_with ((first | (go_at_call 152; refine Calls.mono (KCP.out _ (by first | exact K7.out.2.2.1 | exact (KST.out _ K7.out).2.2.1)) ?_; rintro e w8 ⟨g6, rfl, O8, b8⟩; have K8 : Hid (Row w8 A 62 (slC s (.slice a6 s.p.m c6) (.slice a11 s.ze.length c11) (.slice a12 s.zr.length c12)) ∧ Row w8 D 62 #[.string ⟨#[]⟩, .string ⟨#[]⟩, .int .i64 0, .int .i64 0, .int .i64 0, .string ⟨#[]⟩, .slice none 0 0, .bool false, .bool false, .bool false, .bool false, .slice none 0 0, .slice none 0 0] ∧ OwnT w8 w0.heap.size (some ⟨g6, 0, none⟩) s.p.m s.p.m s.p.S ∧ Below w.heap.size w w8) := (by first | exact KNX.out _ _ _ K7.out O8 b8 | exact KNX.out _ _ _ (KST.out _ K7.out) O8 b8); clear O8 b8; obtain ⟨t0, t1, t2, t3, t4, t5, t6, t7, t8, t9, t10, t11, t12⟩ := KQ.out _ K8.out.1; obtain ⟨gf0, gf1, gf2, gf3, gf4, gf5, gf6⟩ := KF.out _ K8.out.1) | (go_at_call 91; refine Calls.mono (KCr.out _) ?_; rintro e w7 ⟨rfl, b7'⟩; have b07 := below_of_drew b7'; clear b7'; have K7 : Hid _ := KTW.out _ b07; clear b07; obtain ⟨p0, p1, p2, p3, p4, p5, p6, p7, p8, p9, p10, p11, p12⟩ := KQ.out _ K7.out.1; obtain ⟨pf0, pf1, pf2, pf3, pf4, pf5, pf6⟩ := KF.out _ K7.out.1)))
    all_goals
      have lA8 := lA
      go_wp2_with fail
      go_meet
      first
        | exact ⟨g6, (((((((K8.out.1.set 0 _).set 1 _).set 2 _).set 3 _).set 4 _).set 5 _).set 6 _), (((((((K8.out.2.1.other 0 _ (Ne.symm hAD.out.1)).other 1 _ (Ne.symm hAD.out.1)).other 2 _ (Ne.symm hAD.out.1)).other 3 _ (Ne.symm hAD.out.1)).other 4 _ (Ne.symm hAD.out.1)).other 5 _ (Ne.symm hAD.out.1)).other 6 _ (Ne.symm hAD.out.1)), (((((((K8.out.2.2.1.setFar lA8).setFar lA8).setFar lA8).setFar lA8).setFar lA8).setFar lA8).setFar lA8), (((((((K8.out.2.2.2.setCell hAD.out.2.1 _).setCell hAD.out.2.1 _).setCell hAD.out.2.1 _).setCell hAD.out.2.1 _).setCell hAD.out.2.1 _).setCell hAD.out.2.1 _).setCell hAD.out.2.1 _)⟩
        | exact ⟨g6, ((((((K8.out.1.set 1 _).set 2 _).set 3 _).set 4 _).set 5 _).set 6 _), ((((((K8.out.2.1.other 1 _ (Ne.symm hAD.out.1)).other 2 _ (Ne.symm hAD.out.1)).other 3 _ (Ne.symm hAD.out.1)).other 4 _ (Ne.symm hAD.out.1)).other 5 _ (Ne.symm hAD.out.1)).other 6 _ (Ne.symm hAD.out.1)), ((((((K8.out.2.2.1.setFar lA8).setFar lA8).setFar lA8).setFar lA8).setFar lA8).setFar lA8), ((((((K8.out.2.2.2.setCell hAD.out.2.1 _).setCell hAD.out.2.1 _).setCell hAD.out.2.1 _).setCell hAD.out.2.1 _).setCell hAD.out.2.1 _).setCell hAD.out.2.1 _)⟩
  obtain ⟨g6, RAc, RDc, Oc, Bc⟩ := hcut.out
  clear hcut RA RD KCr KCP
  have RA : Hid (Row wc A 62 (slC s (.slice (some ⟨g6, 0, none⟩) s.p.m s.p.m) (.slice a11 s.ze.length c11) (.slice a12 s.zr.length c12))) := RAc
  have RD : Hid (Row wc D 62 #[.string ⟨#[]⟩, .string ⟨#[]⟩, .int .i64 0, .int .i64 0, .int .i64 0, .string ⟨#[]⟩, .slice none 0 0, .bool false, .bool false, .bool false, .bool false, .slice none 0 0, .slice none 0 0]) := RDc
  have KO6 : Hid (OwnT wc w0.heap.size (some ⟨g6, 0, none⟩) s.p.m s.p.m s.p.S) := Oc
  have KBc : Hid (Below w.heap.size w wc) := Bc
  have HL0 : Hid (A < w0.heap.size ∧ D < w0.heap.size) := by
    have h1 := HA.out
    have h2 := HD.out
    rw [HW0.out]
    show A < _ ∧ D < _
    simp
    omega
  clear RAc RDc Oc Bc KB0 HW0
  go_upto_region 2 with fail
  obtain ⟨wb, HWB⟩ : ∃ x, x = wc := ⟨wc, rfl⟩
  subst HWB
  go_cut [] from 11 to 18 (fun wx => Hid (CpB w0 wb w s A D g6 wx))
  case first =>
    have lA := RA.out.lt
    have lD := RD.out.lt
    have q11 := RA.out.cell 11
    have q12 := RA.out.cell 12
    simp at q11 q12
    have KTW : Hid (∀ W, Below wb.heap.size wb W → (W.cell? ⟨A, 11, none⟩ = some (.slice a11 s.ze.length c11) ∧ W.cell? ⟨A, 12, none⟩ = some (.slice a12 s.zr.length c12)) ∧ W.frozen? ⟨A, 11, none⟩ = false ∧ W.frozen? ⟨A, 12, none⟩ = false) := fun W hW => by
      have R := RA.out.below hW lA
      have z11 := R.cell 11
      have z12 := R.cell 12
      simp at z11 z12
      exact ⟨⟨z11, z12⟩, R.free 11, R.free 12⟩
    have KTX : Hid (∀ W v W', Below wb.heap.size wb W → Below (W.setCell ⟨A, 11, none⟩ v).heap.size (W.setCell ⟨A, 11, none⟩ v) W' → W'.cell? ⟨A, 12, none⟩ = some (.slice a12 s.zr.length c12) ∧ W'.frozen? ⟨A, 12, none⟩ = false) := fun W v W' hW hW' => by
      have R := ((RA.out.below hW lA).set 11 v).below hW' (by simp; exact Nat.lt_of_lt_of_le lA hW.size)
      have z12 := R.cell 12
      simp at z12
      exact ⟨z12, R.free 12⟩
    go_region_with ((first | (guard_hyp d1; go_at_call 126; refine Calls.mono (KC2.out _ (by first | exact below2 KBc.out K7.out.1 | exact (below2 KBc.out K7.out.1).setCell hAD.out.2.1 _)) ?_; rintro e w8 ⟨e12, h12, rfl, O8, b8⟩; have KO8 : Hid _ := O8; have KB8 : Hid _ := b8; first | (obtain ⟨⟨t11, t12⟩, tf11, tf12⟩ := KTW.out _ (below2 K7.out.1 b8); clear O8 b8) | (obtain ⟨t12, tf12⟩ := KTX.out _ _ _ K7.out.1 b8; clear O8 b8)) | (go_at_call 126; refine Calls.mono (KC1.out _ (below_drewN KBc.out 1)) ?_; rintro e w7 ⟨e11, h11, rfl, O7, b7'⟩; have b07 := below_of_drew b7'; have K7 : Hid (Below wb.heap.size wb w7 ∧ Ow w7 wb.heap.size (inD s.ze) (.slice e11 s.ze.length h11) (rng wb.heap.size w7.heap.size)) := ⟨b07, O7⟩; have d1 : Hid True := trivial; clear b7' O7; obtain ⟨⟨p11, p12⟩, pf11, pf12⟩ := KTW.out _ b07; clear b07)))
    all_goals
      go_wp2_with fail
      go_meet
      first
        | exact cpB_a RA.out RD.out KO6.out HL0.out.1 ⟨hAD.out.1, hAD.out.2.1⟩ KBc.out K7.out.1 K7.out.2 KB8.out KO8.out
        | exact cpB_b RA.out RD.out KO6.out HL0.out.1 ⟨hAD.out.1, hAD.out.2.1⟩ KBc.out K7.out.1 K7.out.2 KB8.out KO8.out
  obtain ⟨e11, e12, h11, h12, F11, F12, RAd, RDd, O6, O11, O12, hd, hg1, hg2, Bd⟩ := hcut.out
  clear hcut KC1 KC2
  have LC : Hid (A < wb.heap.size ∧ D < wb.heap.size ∧ w.heap.size ≤ wb.heap.size) := ⟨RA.out.lt, RD.out.lt, KBc.out.size⟩
  have l6 := World.ownsRow.lt KO6.out g6 rfl
  have w0w : w.heap.size ≤ w0.heap.size := by have := HA.out; have := HL0.out.1; omega
  have HA6 : Hid (Row wc A 62 (slC s (.slice (some ⟨g6, 0, none⟩) s.p.m s.p.m) (.slice e11 s.ze.length h11) (.slice e12 s.zr.length h12))) := RAd
  have HD6 : Hid (Row wc D 62 #[.string ⟨#[]⟩, .string ⟨#[]⟩, .int .i64 0, .int .i64 0, .int .i64 0, .string ⟨#[]⟩, .slice none 0 0, .bool false, .bool false, .bool false, .bool false, .slice none 0 0, .slice none 0 0]) := RDd
  obtain ⟨w7, HW7⟩ : ∃ x, Hid (x = wc.setRow D (slC s (.slice (some ⟨g6, 0, none⟩) s.p.m s.p.m) (.slice e11 s.ze.length h11) (.slice e12 s.zr.length h12))) := ⟨_, rfl⟩
  have ZR : Hid (Row w7 D 62 (slC s (.slice (some ⟨g6, 0, none⟩) s.p.m s.p.m) (.slice e11 s.ze.length h11) (.slice e12 s.zr.length h12))) := by show Row _ _ _ _; rw [HW7.out]; exact RDd.row
  have ZB : Hid (Below w.heap.size w w7) := by show Below _ _ _; rw [HW7.out]; exact belowSetRow Bd hAD.out.2.2 _
  have Z6 : Hid (Ow w7 w.heap.size (txD s.p.m s.p.S) (.slice (some ⟨g6, 0, none⟩) s.p.m s.p.m) (fun x => x = g6)) := by
    show Ow _ _ _ _ _
    rw [HW7.out]
    refine ow_txt (own_kept (OwnT.base O6 w0w) (grown_row _ _ _) (fun x e => ?_)) (fun x e => by cases e; rfl)
    cases e
    show g6 ≠ D
    have := l6.1
    have := HL0.out.2
    omega
  have Z11 : Hid (Ow w7 w.heap.size (inD s.ze) (.slice e11 s.ze.length h11) F11) := by
    show Ow _ _ _ _ _
    rw [HW7.out]
    exact (O11.base LC.out.2.2).frame fun x hx _ => setRow_other _ _ _ _ (fun e => by have := hg1 x hx; have := LC.out.2.1; omega)
  have Z12 : Hid (Ow w7 w.heap.size (inD s.zr) (.slice e12 s.zr.length h12) F12) := by
    show Ow _ _ _ _ _
    rw [HW7.out]
    exact (O12.base LC.out.2.2).frame fun x hx _ => setRow_other _ _ _ _ (fun e => by have := hg2 x hx; have := LC.out.2.1; omega)
  have HSO : Hid (SlO w7 w.heap.size s (.slice (some ⟨g6, 0, none⟩) s.p.m s.p.m) (.slice e11 s.ze.length h11) (.slice e12 s.zr.length h12) (fun x => x = g6) F11 F12) := ⟨Z6.out, Z11.out, Z12.out, fun x e h => by have := hg1 x h; have := l6.2; omega, fun x e h => by have := hg2 x h; have := l6.2; omega, hd⟩
  clear RAd RDd O6 O11 O12 hd hg1 hg2 Bd l6 w0w Z6 Z11 Z12 RA RD KO6 KBc
  go_wp2_with (first | (refine wpList_load_row (by rfl) 62 _ (by rfl) A (by rfl) 62 (slC s (.slice (some ⟨g6, 0, none⟩) s.p.m s.p.m) (.slice e11 s.ze.length h11) (.slice e12 s.zr.length h12)) (0, 0) _ ?_ Tryz.underlying62 (by rfl) Tryz.infoSl ?_; exact HA6.out) | (refine wpList_store_row (by rfl) 62 _ _ (by rfl) D (slC s (.slice (some ⟨g6, 0, none⟩) s.p.m s.p.m) (.slice e11 s.ze.length h11) (.slice e12 s.zr.length h12)) (by rfl) (by rfl) 62 #[.string ⟨#[]⟩, .string ⟨#[]⟩, .int .i64 0, .int .i64 0, .int .i64 0, .string ⟨#[]⟩, .slice none 0 0, .bool false, .bool false, .bool false, .bool false, .slice none 0 0, .slice none 0 0] ?_ Tryz.infoSl rfl (by simp [Value.oneCell']) ?_; exact HD6.out; rw [← HW7.out]))
  exact bodyPost_ret (v := slV s (.slice (some ⟨g6, 0, none⟩) s.p.m s.p.m) (.slice e11 s.ze.length h11) (.slice e12 s.zr.length h12)) (results_cell_row Tryz.results97 _ _ D 62 _ (0, 0) _ (by rfl) ZR.out Tryz.underlying62 (by rfl) Tryz.infoSl) rfl ⟨g6, e11, e12, h11, h12, _, _, _, rfl, HSO.out, ZB.out⟩
end Go.Proofs.YtgiegoamcfjfmaaGreat
/- A piece, copied, in the model. Condition: at most 2^20 texts. Written by a program. -/
namespace Go.Proofs.YtgiegoamcfjfmaaGreat
set_option maxRecDepth 2000
open Go.ChangeShapes Go.WideShapes Go.ChangeAt Go.RowKit

end Go.Proofs.YtgiegoamcfjfmaaGreat
/- append of numbers onto a row of ours, in a region that draws. -/
namespace Go.Proofs.YtgiegoamcfjfmaaGreat
set_option maxRecDepth 2000
open Go.ChangeShapes Go.WideShapes Go.ChangeAt Go.RowKit

end Go.Proofs.YtgiegoamcfjfmaaGreat
/- A slot, copied, in the model. Conditions: lists of at most 2^20. Written by a program. -/
namespace Go.Proofs.YtgiegoamcfjfmaaGreat
set_option maxRecDepth 2000
open Go.ChangeShapes Go.WideShapes Go.ChangeAt Go.RowKit

end Go.Proofs.YtgiegoamcfjfmaaGreat
/- A number put into an ascending list in the model. Conditions: lists of at most 2^20. -/
namespace Go.Proofs.YtgiegoamcfjfmaaGreat
set_option maxRecDepth 2000
open Go.ChangeShapes Go.WideShapes Go.ChangeAt Go.RowKit

/-- What the model's putting answers: where it lies, too. -/
def PutR (w w' : World) (a a' : Option Addr) (n : Nat) (zs : List Int) : Prop := IntsAt w' a' n zs ∧ (a' = a ∨ ∀ b, a' = some b → w.heap.size ≤ b.block)
end Go.Proofs.YtgiegoamcfjfmaaGreat
