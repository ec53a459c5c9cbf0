/- One slot that the exact laws mark and ask for its marks. Conditions: lists of at most 2^20. -/
import Derived.Test.YtgpghfnhgmkhgaaI28
import Derived.Test.YtgpghfnhgmkhgaaI35
namespace Go.Proofs.Ytgpghfnhgmkhgaa
set_option maxRecDepth 2000
open Go.ChangeShapes Go.WideShapes Go.ChangeAt Go.RowKit

/-- A slot, its lists marked from 1 on. -/
def mkS (s : Sl) : Sl := ⟨s.r, ⟨s.p.r, s.p.k, s.p.n, s.p.i, s.p.b, s.p.m, fun i => mtxt (1 + i)⟩, s.h, s.e, s.d, s.o, marks (1 + s.p.m) s.ze.length, marks (1 + s.p.m + s.ze.length) s.zr.length⟩
def mkQ (s : Sl) : Nat := 1 + s.p.m + s.ze.length + s.zr.length
set_option maxHeartbeats 1000000 in
theorem markPc2_any (r : ByteArray) (k n i : Int) (b : ByteArray) (B : Nat) (a : Option Addr) (m cap : Nat) (S : Nat → ByteArray) (q : Nat) (F : Nat → Prop) (w : World) (h : Ow w B (txD m S) (.slice a m cap) F) (hm : m ≤ 1048576) (hq : 1 + m = q) :
    Calls Try.prog 52 #[pcV r k n i b (.slice a m cap), .int .i64 1] w fun e w' => e = .returned (.int .i64 (q : Int)) ∧ Ow w' B (txD m (fun i => mtxt (1 + i))) (.slice a m cap) F ∧ Trn w w' F := by
  obtain ⟨w0, HW0⟩ : ∃ x, Hid (x = w.alloc (.cells (pcC r k n i b (.slice a m cap)) 35)) := ⟨_, rfl⟩
  have hb0 : Below w.heap.size w w0 := by rw [HW0.out]; exact (Below.refl _ _).alloc (Nat.le_refl _) _
  have KT0 : Hid (Trn w w0 F) := Trn.ofBelow F hb0
  have KM : Hid (Calls Try.prog 73 #[.slice a m cap, .int .i64 ((1 : Nat) : Int)] w0 _) := markD_txt B (.slice a m cap) m S 1 q F w0 (h.below hb0) hm (by omega) hq
  clear h hb0
  go_enter Try.func52, Try.ntmps52
  go_wp2_with fail
  rw [← HW0.out]
  refine Calls.mono KM.out ?_
  rintro e w1 ⟨rfl, hR, hT⟩
  have KR : Hid (Ow w1 B (txD m (fun i => mtxt (1 + i))) (.slice a m cap) F ∧ Trn w w1 F) := ⟨hR, KT0.out.trans hT⟩
  clear hR hT
  go_wp2
  go_ret
  exact ⟨rfl, KR.out.1, KR.out.2⟩
set_option maxHeartbeats 1000000 in
theorem heldPc2_any (r : ByteArray) (k n i : Int) (b : ByteArray) (a : Option Addr) (m cap q : Nat) (w : World) (h : TxtAt w a m (fun i => mtxt (1 + i))) (hm : m ≤ 1048576) (hq : 1 + m = q) :
    Calls Try.prog 53 #[pcV r k n i b (.slice a m cap), .int .i64 1] w fun e w' => e = .returned (.int .i64 (q : Int)) ∧ Below w.heap.size w w' := by
  obtain ⟨w0, HW0⟩ : ∃ x, Hid (x = w.alloc (.cells (pcC r k n i b (.slice a m cap)) 35)) := ⟨_, rfl⟩
  have hb0 : Below w.heap.size w w0 := by rw [HW0.out]; exact (Below.refl _ _).alloc (Nat.le_refl _) _
  have KB0 : Hid (Below w.heap.size w w0) := hb0
  have KM : Hid (Calls Try.prog 74 #[.slice a m cap, .int .i64 ((1 : Nat) : Int)] w0 fun e w' => e = .returned (.int .i64 (q : Int)) ∧ Below w0.heap.size w0 w') := heldT2_any a m cap 1 q w0 (h.below hb0) hm (by omega) hq
  have hq0 : ¬ ((q : Int) < 0) := by omega
  clear h hb0
  go_enter Try.func53, Try.ntmps53
  go_wp2_with fail
  rw [← HW0.out]
  refine Calls.mono KM.out ?_
  rintro e w1 ⟨rfl, b1⟩
  have KB1 : Hid (Below w.heap.size w w1) := below2 KB0.out b1
  clear b1
  go_wp2
  go_ret
  exact ⟨rfl, KB1.out⟩
set_option maxHeartbeats 2000000 in
theorem markSl_any (s : Sl) (B : Nat) (a6 a11 a12 : Option Addr) (c6 c11 c12 : Nat) (F6 F11 F12 : Nat → Prop) (w : World) (h : SlO w B s (.slice a6 s.p.m c6) (.slice a11 s.ze.length c11) (.slice a12 s.zr.length c12) F6 F11 F12) (hs : SlS s) :
    Calls Try.prog 17 #[slV s (.slice a6 s.p.m c6) (.slice a11 s.ze.length c11) (.slice a12 s.zr.length c12), .int .i64 1] w fun e w' => e = .returned (.int .i64 (mkQ s : Nat)) ∧ SlO w' B (mkS s) (.slice a6 s.p.m c6) (.slice a11 s.ze.length c11) (.slice a12 s.zr.length c12) F6 F11 F12 ∧ Trn w w' (fun x => F6 x ∨ F11 x ∨ F12 x) := by
  obtain ⟨A, HA⟩ : ∃ x, Hid (x = w.heap.size) := ⟨_, rfl⟩
  obtain ⟨w0, HW0⟩ : ∃ x, Hid (x = w.alloc (.cells (slC s (.slice a6 s.p.m c6) (.slice a11 s.ze.length c11) (.slice a12 s.zr.length c12)) 38)) := ⟨_, rfl⟩
  have RA : Hid (Row w0 A 38 (slC s (.slice a6 s.p.m c6) (.slice a11 s.ze.length c11) (.slice a12 s.zr.length c12))) := by show Row _ _ _ _; rw [HW0.out, HA.out]; exact Row.new w _ _
  have hb0 : Below w.heap.size w w0 := by rw [HW0.out]; exact (Below.refl _ _).alloc (Nat.le_refl _) _
  have nA : ∀ {d v} {F : Nat → Prop}, Ow w B d v F → Ow w0 B d v (fun x => F x ∧ x < A) := fun {d v F} ho => by
    have := ho.cut.mono (F' := fun x => F x ∧ x < A) (fun x hx => ⟨hx.1, by rw [HA.out]; exact hx.2.2⟩)
    exact this.below hb0
  obtain ⟨q1, HQ1⟩ : ∃ x, Hid (1 + s.p.m = x) := ⟨_, rfl⟩
  obtain ⟨q2, HQ2⟩ : ∃ x, Hid (q1 + s.ze.length = x) := ⟨_, rfl⟩
  obtain ⟨q3, HQ3⟩ : ∃ x, Hid (q2 + s.zr.length = x) := ⟨_, rfl⟩
  have HQ : Hid (mkQ s = q3) := by show _ = _; unfold mkQ; rw [HQ1.out, HQ2.out, HQ3.out]
  rw [HQ.out]
  have hh := hs
  have k1 := HQ1.out
  have k2 := HQ2.out
  have KM : Hid _ := markPc2_any s.p.r s.p.k s.p.n s.p.i s.p.b B a6 s.p.m c6 s.p.S q1 (fun x => F6 x ∧ x < A) w0 (nA h.t) hh.1 HQ1.out
  have KE : Hid (Ow w0 B (inD s.ze) (.slice a11 s.ze.length c11) (fun x => F11 x ∧ x < A)) := nA h.e
  have KZ : Hid (Ow w0 B (inD s.zr) (.slice a12 s.zr.length c12) (fun x => F12 x ∧ x < A)) := nA h.z
  have KD : Hid ((∀ g, F6 g → ¬ F11 g) ∧ (∀ g, F6 g → ¬ F12 g) ∧ ∀ g, F11 g → ¬ F12 g) := ⟨h.d1, h.d2, h.d3⟩
  have KT0 : Hid (Trn w w0 (fun x => F6 x ∨ F11 x ∨ F12 x)) := Trn.ofBelow _ hb0
  have bq1 : q1 ≤ 50000000 := by have := hh.1; omega
  have bq2 : q2 ≤ 50000000 := by have := hh.1; have := hh.2.1; omega
  have KS : Hid (SlS s) := hs
  clear h hs hh hb0 nA k1 k2
  go_enter Try.func17, Try.ntmps17
  go_wp2_with fail
  rw [← HW0.out, ← HA.out]
  refine Calls.mono KM.out ?_
  rintro e w1 ⟨rfl, O1, T1⟩
  have R1 : Row w1 A 38 (slC s (.slice a6 s.p.m c6) (.slice a11 s.ze.length c11) (.slice a12 s.zr.length c12)) := (T1.block A RA.out.lt (fun h => Nat.lt_irrefl _ h.2)).trans RA.out
  have x11 := R1.cell 11
  have x12 := R1.cell 12
  simp at x11 x12
  have E1 : Ow w1 B (inD s.ze) (.slice a11 s.ze.length c11) (fun x => F11 x ∧ x < A) := KE.out.turned T1 (fun g h1 h2 => KD.out.1 g h2.1 h1.1)
  have KZ1 : Hid (Ow w1 B (inD s.zr) (.slice a12 s.zr.length c12) (fun x => F12 x ∧ x < A)) := KZ.out.turned T1 (fun g h1 h2 => KD.out.2.1 g h2.1 h1.1)
  have KO1 : Hid (Ow w1 B (txD s.p.m (fun i => mtxt (1 + i))) (.slice a6 s.p.m c6) (fun x => F6 x ∧ x < A)) := O1
  have KT1 : Hid (Trn w w1 (fun x => F6 x ∨ F11 x ∨ F12 x)) := KT0.out.trans (T1.mono (fun g h => .inl h.1))
  have HR1 : Hid (Row w1 A 38 (slC s (.slice a6 s.p.m c6) (.slice a11 s.ze.length c11) (.slice a12 s.zr.length c12))) := R1
  have KM2 : Hid _ := markD_ints B (.slice a11 s.ze.length c11) s.ze q1 q2 (fun x => F11 x ∧ x < A) w1 E1 KS.out.2.1 bq1 HQ2.out
  clear T1 O1 E1 R1
  go_wp2_with fail
  refine Calls.mono KM2.out ?_
  rintro e w2 ⟨rfl, O2, T2⟩
  have R2 : Row w2 A 38 (slC s (.slice a6 s.p.m c6) (.slice a11 s.ze.length c11) (.slice a12 s.zr.length c12)) := (T2.block A HR1.out.lt (fun h => Nat.lt_irrefl _ h.2)).trans HR1.out
  replace x12 := R2.cell 12
  simp at x12
  have KO2 : Hid (Ow w2 B (txD s.p.m (fun i => mtxt (1 + i))) (.slice a6 s.p.m c6) (fun x => F6 x ∧ x < A) ∧ Ow w2 B (inD (marks q1 s.ze.length)) (.slice a11 s.ze.length c11) (fun x => F11 x ∧ x < A)) := ⟨KO1.out.turned T2 (fun g h1 h2 => KD.out.1 g h1.1 h2.1), O2⟩
  have Z2 : Ow w2 B (inD s.zr) (.slice a12 s.zr.length c12) (fun x => F12 x ∧ x < A) := KZ1.out.turned T2 (fun g h1 h2 => KD.out.2.2 g h2.1 h1.1)
  have KT2 : Hid (Trn w w2 (fun x => F6 x ∨ F11 x ∨ F12 x)) := KT1.out.trans (T2.mono (fun g h => .inr (.inl h.1)))
  have KM3 : Hid _ := markD_ints B (.slice a12 s.zr.length c12) s.zr q2 q3 (fun x => F12 x ∧ x < A) w2 Z2 KS.out.2.2 bq2 HQ3.out
  clear T2 O2 Z2 R2 x11
  go_wp2_with fail
  refine Calls.mono KM3.out ?_
  rintro e w3 ⟨rfl, O3, T3⟩
  have KF : Hid (SlO w3 B (mkS s) (.slice a6 s.p.m c6) (.slice a11 s.ze.length c11) (.slice a12 s.zr.length c12) F6 F11 F12 ∧ Trn w w3 (fun x => F6 x ∨ F11 x ∨ F12 x)) := by
    refine ⟨⟨?_, ?_, ?_, KD.out.1, KD.out.2.1, KD.out.2.2⟩, KT2.out.trans (T3.mono (fun g h => .inr (.inr h.1)))⟩
    · exact (KO2.out.1.turned T3 (fun g h1 h2 => KD.out.2.1 g h1.1 h2.1)).mono (fun g h => h.1)
    · have := (KO2.out.2.turned T3 (fun g h1 h2 => KD.out.2.2 g h1.1 h2.1)).mono (F' := F11) (fun g h => h.1)
      rw [← HQ1.out] at this
      exact this
    · have := O3.mono (F' := F12) (fun g h => h.1)
      rw [← HQ2.out, ← HQ1.out] at this
      exact this
  clear T3 O3 x12
  go_wp2
  go_ret
  exact ⟨rfl, KF.out.1, KF.out.2⟩
set_option maxHeartbeats 2000000 in
theorem heldSl_any (s : Sl) (a6 a11 a12 : Option Addr) (c6 c11 c12 : Nat) (w : World) (h6 : TxtAt w a6 s.p.m (fun i => mtxt (1 + i))) (h11 : IntsAt w a11 s.ze.length (marks (1 + s.p.m) s.ze.length)) (h12 : IntsAt w a12 s.zr.length (marks (1 + s.p.m + s.ze.length) s.zr.length)) (hs : SlS s) :
    Calls Try.prog 18 #[slV s (.slice a6 s.p.m c6) (.slice a11 s.ze.length c11) (.slice a12 s.zr.length c12), .int .i64 1] w fun e w' => e = .returned (.int .i64 (mkQ s : Nat)) ∧ Below w.heap.size w w' := by
  obtain ⟨A, HA⟩ : ∃ x, Hid (x = w.heap.size) := ⟨_, rfl⟩
  obtain ⟨w0, HW0⟩ : ∃ x, Hid (x = w.alloc (.cells (slC s (.slice a6 s.p.m c6) (.slice a11 s.ze.length c11) (.slice a12 s.zr.length c12)) 38)) := ⟨_, rfl⟩
  have RA : Hid (Row w0 A 38 (slC s (.slice a6 s.p.m c6) (.slice a11 s.ze.length c11) (.slice a12 s.zr.length c12))) := by show Row _ _ _ _; rw [HW0.out, HA.out]; exact Row.new w _ _
  have hb0 : Below w.heap.size w w0 := by rw [HW0.out]; exact (Below.refl _ _).alloc (Nat.le_refl _) _
  obtain ⟨q1, HQ1⟩ : ∃ x, Hid (1 + s.p.m = x) := ⟨_, rfl⟩
  obtain ⟨q2, HQ2⟩ : ∃ x, Hid (q1 + s.ze.length = x) := ⟨_, rfl⟩
  obtain ⟨q3, HQ3⟩ : ∃ x, Hid (q2 + s.zr.length = x) := ⟨_, rfl⟩
  have HQ : Hid (mkQ s = q3) := by show _ = _; unfold mkQ; rw [HQ1.out, HQ2.out, HQ3.out]
  rw [HQ.out]
  rw [HQ1.out] at h11 h12
  rw [HQ2.out] at h12
  have hh := hs
  have k1 := HQ1.out
  have k2 := HQ2.out
  have bq1 : q1 ≤ 10000000 := by have := hh.1; omega
  have bq2 : q2 ≤ 10000000 := by have := hh.1; have := hh.2.1; omega
  have KM : Hid _ := heldPc2_any s.p.r s.p.k s.p.n s.p.i s.p.b a6 s.p.m c6 q1 w0 (h6.below hb0) hh.1 HQ1.out
  have KE : Hid (∀ W, Below w0.heap.size w0 W → Calls Try.prog 31 #[.slice a11 s.ze.length c11, .int .i64 (q1 : Int)] W fun e w' => e = .returned (.int .i64 (q2 : Int)) ∧ w' = W) := fun W hW => held_q a11 s.ze.length c11 q1 q2 W ((h11.below hb0).below hW) hh.2.1 bq1 HQ2.out
  have KZ : Hid (∀ W, Below w0.heap.size w0 W → Calls Try.prog 31 #[.slice a12 s.zr.length c12, .int .i64 (q2 : Int)] W fun e w' => e = .returned (.int .i64 (q3 : Int)) ∧ w' = W) := fun W hW => held_q a12 s.zr.length c12 q2 q3 W ((h12.below hb0).below hW) hh.2.2 bq2 HQ3.out
  have KB0 : Hid (Below w.heap.size w w0) := hb0
  have n1 : ¬ ((q1 : Int) < 0) := by omega
  have n2 : ¬ ((q2 : Int) < 0) := by omega
  have n3 : ¬ ((q3 : Int) < 0) := by omega
  clear h6 h11 h12 hs hh hb0 k1 k2
  go_enter Try.func18, Try.ntmps18
  go_wp2_with fail
  rw [← HW0.out, ← HA.out]
  refine Calls.mono KM.out ?_
  rintro e w1 ⟨rfl, b1⟩
  have R1 := RA.out.below b1 RA.out.lt
  have x11 := R1.cell 11
  have x12 := R1.cell 12
  simp at x11 x12
  have KB1 : Hid (Below w0.heap.size w0 w1) := b1
  clear b1 R1
  go_wp2_with fail
  refine Calls.mono (KE.out _ KB1.out) ?_
  rintro e w2 ⟨rfl, hw⟩
  obtain rfl := hw.symm
  clear hw
  go_wp2_with fail
  refine Calls.mono (KZ.out _ KB1.out) ?_
  rintro e w2 ⟨rfl, hw⟩
  obtain rfl := hw.symm
  clear hw
  go_wp2
  go_ret
  exact ⟨rfl, below2 KB0.out KB1.out⟩
end Go.Proofs.Ytgpghfnhgmkhgaa
