/- Marks laid into nets, and asked for. Conditions: lists of at most 2^20, at most some nine million marks. -/
import Derived.Test.YtpomffkpjldloaaH38
namespace Go.Proofs.Ytpomffkpjldloaa
set_option maxRecDepth 2000
open Go.ChangeShapes Go.WideShapes Go.ChangeAt Go.RowKit

/-- A net that is ours: its three lists, no two of which share. -/
structure NtO (w : World) (B n : Nat) (N : Nat → Nd) (zs : List Int) (m : Nat) (Y : Nat → Sy) (v1 v2 v3 : Value) (F1 F2 F3 : Nat → Prop) : Prop where
  n : Ow w B (ndsD n N) v1 F1
  z : Ow w B (inD zs) v2 F2
  y : Ow w B (sysD m Y) v3 F3
  d1 : ∀ g, F1 g → ¬ F2 g
  d2 : ∀ g, F1 g → ¬ F3 g
  d3 : ∀ g, F2 g → ¬ F3 g
/-- How far the marks of a net reach. -/
def mq1 (n : Nat) (N : Nat → Nd) : Nat := 1 + tot (fun i => wkN (N i)) n
def mq2 (n : Nat) (N : Nat → Nd) (zs : List Int) : Nat := mq1 n N + zs.length
def mq3 (n : Nat) (N : Nat → Nd) (zs : List Int) (m : Nat) (Y : Nat → Sy) : Nat := ofy (mq2 n N zs) Y m
/-- What the laws' marks can bear of a net. -/
structure NtK (n : Nat) (N : Nat → Nd) (zs : List Int) (m : Nat) (Y : Nat → Sy) : Prop where
  kn : n ≤ 1048576
  kN : ∀ i, i < n → NdS (N i)
  kz : zs.length ≤ 1048576
  km : m ≤ 1048576
  kY : ∀ i, i < m → (Y i).p.m ≤ 1048576
  kq : mq3 n N zs m Y ≤ 40000000
/-- What the laws' marks can bear of a net that is handed in. -/
structure NtW (n : Nat) (N : Nat → Nd) (zs : List Int) (m : Nat) (Y : Nat → Sy) : Prop where
  kn : n ≤ 1048576
  kN : ∀ i, i < n → NdS (N i)
  kz : zs.length ≤ 1048576
  km : m ≤ 1048576
  kY : ∀ i, i < m → (Y i).p.m ≤ 1048576
  kq : mq3 n N zs m Y ≤ 40000000
theorem NtK.w {n : Nat} {N : Nat → Nd} {zs : List Int} {m : Nat} {Y : Nat → Sy} (h : NtK n N zs m Y) : NtW n N zs m Y := ⟨h.kn, h.kN, h.kz, h.km, h.kY, Nat.le_trans h.kq (by omega)⟩
theorem ofy_ge (k : Nat) (S : Nat → Sy) (n : Nat) : k ≤ ofy k S n := ofy_le k S (Nat.zero_le n)
theorem markD_nds (B : Nat) (v : Value) (n : Nat) (N : Nat → Nd) (k : Nat) (F : Nat → Prop) (w : World) (h : Ow w B (ndsD n N) v F) (hn : n ≤ 1048576) (hm : ∀ i, i < n → NdS (N i)) (hk : k + tot (fun i => wkN (N i)) n ≤ 40000000) :
    Calls Try.prog 35 #[v, .int .i64 (k : Int)] w fun e w' => e = .returned (.int .i64 ((k + tot (fun i => wkN (N i)) n : Nat) : Int)) ∧ Ow w' B (ndsD n (mkNL k N)) v F ∧ Trn w w' F := by
  rcases ow_shape h with ⟨rfl, rfl⟩ | ⟨g, cap, rfl⟩
  · refine (markNds_0 none 0 k w).mono ?_
    rintro e w' ⟨rfl, rfl⟩
    exact ⟨rfl, Ow.nil _ _ _ _ _ _, Trn.refl _ _⟩
  · exact markNdsF_any B g n cap F N k w h hn hm hk
set_option maxHeartbeats 4000000 in
theorem markNt_any (f : Int) (B n : Nat) (N : Nat → Nd) (zs : List Int) (m : Nat) (Y : Nat → Sy) (a l e : Option Addr) (c d g : Nat) (F1 F2 F3 : Nat → Prop) (w : World) (h : NtO w B n N zs m Y (.slice a n c) (.slice l zs.length d) (.slice e m g) F1 F2 F3) (hs : NtW n N zs m Y) :
    Calls Try.prog 17 #[ntV f (.slice a n c) (.slice l zs.length d) (.slice e m g), .int .i64 1] w fun r w' => r = .returned (.int .i64 ((mq3 n N zs m Y : Nat) : Int)) ∧ NtO w' B n (mkNL 1 N) (marks (mq1 n N) zs.length) m (mkdY (mq2 n N zs) Y) (.slice a n c) (.slice l zs.length d) (.slice e m g) F1 F2 F3 ∧ Trn w w' (fun x => F1 x ∨ F2 x ∨ F3 x) := by
  obtain ⟨A, HA⟩ : ∃ x, Hid (x = w.heap.size) := ⟨_, rfl⟩
  obtain ⟨w0, HW0⟩ : ∃ x, Hid (x = w.alloc (.cells #[.int .i64 f, .slice a n c, .slice l zs.length d, .slice e m g] 26)) := ⟨_, rfl⟩
  have RA : Hid (Row w0 A 26 #[.int .i64 f, .slice a n c, .slice l zs.length d, .slice e m g]) := by show Row _ _ _ _; rw [HW0.out, HA.out]; exact Row.new w _ _
  have hb0 : Below w.heap.size w w0 := by rw [HW0.out]; exact (Below.refl _ _).alloc (Nat.le_refl _) _
  have nA : ∀ {d v} {F : Nat → Prop}, Ow w B d v F → Ow w0 B d v (fun x => F x ∧ x < A) := fun {d v F} ho => by
    have := ho.cut.mono (F' := fun x => F x ∧ x < A) (fun x hx => ⟨hx.1, by rw [HA.out]; exact hx.2.2⟩)
    exact this.below hb0
  obtain ⟨q1, HQ1⟩ : ∃ x, Hid (1 + tot (fun i => wkN (N i)) n = x) := ⟨_, rfl⟩
  obtain ⟨q2, HQ2⟩ : ∃ x, Hid (q1 + zs.length = x) := ⟨_, rfl⟩
  obtain ⟨q3, HQ3⟩ : ∃ x, Hid (ofy q2 Y m = x) := ⟨_, rfl⟩
  have E1 : Hid (mq1 n N = q1) := HQ1.out
  have E2 : Hid (mq2 n N zs = q2) := by show _ = _; unfold mq2; rw [E1.out, HQ2.out]
  have E3 : Hid (mq3 n N zs m Y = q3) := by show _ = _; unfold mq3; rw [E2.out, HQ3.out]
  rw [E1.out, E2.out, E3.out]
  have hq3 : q3 ≤ 40000000 := by rw [← E3.out]; exact hs.kq
  have hq2 : q2 ≤ 40000000 := by have := ofy_ge q2 Y m; rw [HQ3.out] at this; omega
  have hq1 : q1 ≤ 40000000 := by have := HQ2.out; omega
  have KM : Hid (Calls Try.prog 35 #[.slice a n c, .int .i64 ((1 : Nat) : Int)] w0 _) := markD_nds B (.slice a n c) n N 1 (fun x => F1 x ∧ x < A) w0 (nA h.n) hs.kn hs.kN (by rw [HQ1.out]; exact hq1)
  rw [HQ1.out] at KM
  have KE : Hid (Ow w0 B (inD zs) (.slice l zs.length d) (fun x => F2 x ∧ x < A)) := nA h.z
  have KZ : Hid (Ow w0 B (sysD m Y) (.slice e m g) (fun x => F3 x ∧ x < A)) := nA h.y
  have KD : Hid ((∀ g, F1 g → ¬ F2 g) ∧ (∀ g, F1 g → ¬ F3 g) ∧ ∀ g, F2 g → ¬ F3 g) := ⟨h.d1, h.d2, h.d3⟩
  have KT0 : Hid (Trn w w0 (fun x => F1 x ∨ F2 x ∨ F3 x)) := Trn.ofBelow _ hb0
  have KS : Hid (NtW n N zs m Y) := hs
  clear h hs hb0 nA
  go_enter Try.func17, Try.ntmps17
  go_wp2_with fail
  rw [← HW0.out, ← HA.out]
  refine Calls.mono KM.out ?_
  rintro e' w1 ⟨rfl, O1, T1⟩
  have R1 : Row w1 A 26 #[.int .i64 f, .slice a n c, .slice l zs.length d, .slice e m g] := (T1.block A RA.out.lt (fun h => Nat.lt_irrefl _ h.2)).trans RA.out
  have x2 := R1.cell 2
  simp at x2
  have E1' : Ow w1 B (inD zs) (.slice l zs.length d) (fun x => F2 x ∧ x < A) := KE.out.turned T1 (fun g h1 h2 => KD.out.1 g h2.1 h1.1)
  have KZ1 : Hid (Ow w1 B (sysD m Y) (.slice e m g) (fun x => F3 x ∧ x < A)) := KZ.out.turned T1 (fun g h1 h2 => KD.out.2.1 g h2.1 h1.1)
  have KO1 : Hid (Ow w1 B (ndsD n (mkNL 1 N)) (.slice a n c) (fun x => F1 x ∧ x < A)) := O1
  have KT1 : Hid (Trn w w1 (fun x => F1 x ∨ F2 x ∨ F3 x)) := KT0.out.trans (T1.mono (fun g h => .inl h.1))
  have HR1 : Hid (Row w1 A 26 #[.int .i64 f, .slice a n c, .slice l zs.length d, .slice e m g]) := R1
  have KM2 : Hid _ := markD_ints B (.slice l zs.length d) zs q1 q2 (fun x => F2 x ∧ x < A) w1 E1' KS.out.kz (by omega) HQ2.out
  clear T1 O1 E1' R1
  go_wp2_with fail
  refine Calls.mono KM2.out ?_
  rintro e' w2 ⟨rfl, O2, T2⟩
  have R2 : Row w2 A 26 #[.int .i64 f, .slice a n c, .slice l zs.length d, .slice e m g] := (T2.block A HR1.out.lt (fun h => Nat.lt_irrefl _ h.2)).trans HR1.out
  have x3 := R2.cell 3
  simp at x3
  have KO2 : Hid (Ow w2 B (ndsD n (mkNL 1 N)) (.slice a n c) (fun x => F1 x ∧ x < A) ∧ Ow w2 B (inD (marks q1 zs.length)) (.slice l zs.length d) (fun x => F2 x ∧ x < A)) := ⟨KO1.out.turned T2 (fun g h1 h2 => KD.out.1 g h1.1 h2.1), O2⟩
  have Z2 : Ow w2 B (sysD m Y) (.slice e m g) (fun x => F3 x ∧ x < A) := KZ1.out.turned T2 (fun g h1 h2 => KD.out.2.2 g h2.1 h1.1)
  have KT2 : Hid (Trn w w2 (fun x => F1 x ∨ F2 x ∨ F3 x)) := KT1.out.trans (T2.mono (fun g h => .inr (.inl h.1)))
  have KM3 : Hid _ := markD_sys B (.slice e m g) m Y q2 (fun x => F3 x ∧ x < A) w2 Z2 KS.out.km KS.out.kY (by rw [HQ3.out]; exact hq3)
  rw [HQ3.out] at KM3
  clear T2 O2 Z2 R2 x2
  go_wp2_with fail
  refine Calls.mono KM3.out ?_
  rintro e' w3 ⟨rfl, O3, T3⟩
  have KF : Hid (NtO w3 B n (mkNL 1 N) (marks q1 zs.length) m (mkdY q2 Y) (.slice a n c) (.slice l zs.length d) (.slice e m g) F1 F2 F3 ∧ Trn w w3 (fun x => F1 x ∨ F2 x ∨ F3 x)) := by
    refine ⟨⟨?_, ?_, ?_, KD.out.1, KD.out.2.1, KD.out.2.2⟩, KT2.out.trans (T3.mono (fun g h => .inr (.inr h.1)))⟩
    · exact (KO2.out.1.turned T3 (fun g h1 h2 => KD.out.2.1 g h1.1 h2.1)).mono (fun g h => h.1)
    · exact (KO2.out.2.turned T3 (fun g h1 h2 => KD.out.2.2 g h1.1 h2.1)).mono (fun g h => h.1)
    · exact O3.mono (fun g h => h.1)
  clear T3 O3 x3
  go_wp2
  go_ret
  exact ⟨rfl, KF.out.1, KF.out.2⟩
set_option maxHeartbeats 4000000 in
theorem heldNt_any (f : Int) (n : Nat) (N : Nat → Nd) (zs : List Int) (m : Nat) (Y : Nat → Sy) (a l e : Option Addr) (c d g : Nat) (w : World) (h1 : Rd w (ndsD n (mkNL 1 N)) (.slice a n c)) (h2 : IntsAt w l zs.length (marks (mq1 n N) zs.length)) (h3 : Rd w (sysD m (mkdY (mq2 n N zs) Y)) (.slice e m g)) (hs : NtK n N zs m Y) :
    Calls Try.prog 20 #[ntV f (.slice a n c) (.slice l zs.length d) (.slice e m g), .int .i64 1] w fun r w' => r = .returned (.int .i64 ((mq3 n N zs m Y : Nat) : Int)) ∧ Below w.heap.size w w' := by
  obtain ⟨A, HA⟩ : ∃ x, Hid (x = w.heap.size) := ⟨_, rfl⟩
  obtain ⟨w0, HW0⟩ : ∃ x, Hid (x = w.alloc (.cells #[.int .i64 f, .slice a n c, .slice l zs.length d, .slice e m g] 26)) := ⟨_, rfl⟩
  have RA : Hid (Row w0 A 26 #[.int .i64 f, .slice a n c, .slice l zs.length d, .slice e m g]) := by show Row _ _ _ _; rw [HW0.out, HA.out]; exact Row.new w _ _
  have hb0 : Below w.heap.size w w0 := by rw [HW0.out]; exact (Below.refl _ _).alloc (Nat.le_refl _) _
  obtain ⟨q1, HQ1⟩ : ∃ x, Hid (1 + tot (fun i => wkN (N i)) n = x) := ⟨_, rfl⟩
  obtain ⟨q2, HQ2⟩ : ∃ x, Hid (q1 + zs.length = x) := ⟨_, rfl⟩
  obtain ⟨q3, HQ3⟩ : ∃ x, Hid (ofy q2 Y m = x) := ⟨_, rfl⟩
  have E1 : Hid (mq1 n N = q1) := HQ1.out
  have E2 : Hid (mq2 n N zs = q2) := by show _ = _; unfold mq2; rw [E1.out, HQ2.out]
  have E3 : Hid (mq3 n N zs m Y = q3) := by show _ = _; unfold mq3; rw [E2.out, HQ3.out]
  rw [E3.out]
  rw [E1.out] at h2
  rw [E2.out] at h3
  have hq3 : q3 ≤ 40000000 := by rw [← E3.out]; exact hs.kq
  have hq2 : q2 ≤ 40000000 := by have := ofy_ge q2 Y m; rw [HQ3.out] at this; omega
  have hq1 : q1 ≤ 40000000 := by have := HQ2.out; omega
  have KM : Hid (Calls Try.prog 38 #[.slice a n c, .int .i64 ((1 : Nat) : Int)] w0 _) := heldNdsF_any a n c N 1 w0 (h1.below hb0) hs.kn hs.kN (by rw [HQ1.out]; exact hq1)
  rw [HQ1.out] at KM
  have KE : Hid (∀ W, Below w0.heap.size w0 W → Calls Try.prog 39 #[.slice l zs.length d, .int .i64 (q1 : Int)] W fun e w' => e = .returned (.int .i64 (q2 : Int)) ∧ w' = W) := fun W hW => held_q l zs.length d q1 q2 W ((h2.below hb0).below hW) hs.kz (by omega) HQ2.out
  have KZ : Hid (∀ W, Below w0.heap.size w0 W → Calls Try.prog 40 #[.slice e m g, .int .i64 (q2 : Int)] W fun e w' => e = .returned (.int .i64 (q3 : Int)) ∧ Below W.heap.size W w') := fun W hW => by have := heldSysF_any e m g Y q2 W ((h3.below hb0).below hW) hs.km hs.kY (by rw [HQ3.out]; exact hq3); rw [HQ3.out] at this; exact this
  have KB0 : Hid (Below w.heap.size w w0) := hb0
  have n1 : ¬ ((q1 : Int) < 0) := by omega
  have n2 : ¬ ((q2 : Int) < 0) := by omega
  have n3 : ¬ ((q3 : Int) < 0) := by omega
  clear h1 h2 h3 hs hb0
  go_enter Try.func20, Try.ntmps20
  go_wp2_with fail
  rw [← HW0.out, ← HA.out]
  refine Calls.mono KM.out ?_
  rintro e' w1 ⟨rfl, b1⟩
  have R1 := RA.out.below b1 RA.out.lt
  have x2 := R1.cell 2
  have x3 := R1.cell 3
  simp at x2 x3
  have KB1 : Hid (Below w0.heap.size w0 w1) := b1
  clear b1 R1
  go_wp2_with fail
  refine Calls.mono (KE.out _ KB1.out) ?_
  rintro e' w2 ⟨rfl, hw⟩
  obtain rfl := hw.symm
  clear hw
  go_wp2_with fail
  refine Calls.mono (KZ.out _ KB1.out) ?_
  rintro e' w2 ⟨rfl, b2⟩
  go_wp2
  go_ret
  exact ⟨rfl, below2 KB0.out (below2 KB1.out b2)⟩
end Go.Proofs.Ytpomffkpjldloaa
