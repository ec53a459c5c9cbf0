/- Archives: compared, marked and asked for where they have no entries and no marks. Conditions: lists of at most 2^20. -/
import Derived.Test.YtpomffkpjldloaaH34
import Derived.Test.YtpomffkpjldloaaH40
namespace Go.Proofs.Ytpomffkpjldloaa
set_option maxRecDepth 2000
open Go.ChangeShapes Go.WideShapes Go.ChangeAt Go.RowKit

abbrev arV (f : Int) (v1 v2 v3 v4 v5 : Value) : Value := .agg #[.int .i64 f, v1, v2, v3, v4, v5]
theorem Try.infoAr : (Try.prog.info? 30).map (·.size) = some 6 := by kernel_rfl
theorem Row.range4 {w : World} {g : Nat} {t : TypeId} {c0 c1 c2 c3 c4 c5 : Value} (h : Row w g t #[c0, c1, c2, c3, c4, c5]) : w.rangeAt g 0 [c0, c1, c2, c3] := fun j v hv => by
  have hj : j < 4 := (List.getElem?_eq_some_iff.1 hv).1
  have hc := h.cell j
  rw [Nat.zero_add]
  match j, hj with
  | 0, _ | 1, _ | 2, _ | 3, _ => rw [hc, ← hv]; rfl
theorem markEns_0 (a : Option Addr) (cap k : Nat) (w : World) : Calls Try.prog 18 #[.slice a 0 cap, .int .i64 (k : Int)] w fun e w' => e = .returned (.int .i64 (k : Int)) ∧ w' = w := by
  go_enter Try.func18, Try.ntmps18
  go_wp2
  go_loopw [1, 5] (fun vk vi wr => vk = .int .i64 (k : Int) ∧ vi = .int .i64 0 ∧ wr = w) (fun _ _ _ => 0)
  case atStart => exact ⟨rfl, rfl, rfl⟩
  case round =>
    obtain ⟨rfl, rfl, hw⟩ := hrel
    obtain rfl := hw.symm
    go_wp2
    go_ret
    exact ⟨rfl, rfl⟩
theorem heldEns_0 (a : Option Addr) (cap k : Nat) (w : World) : Calls Try.prog 21 #[.slice a 0 cap, .int .i64 (k : Int)] w fun e w' => e = .returned (.int .i64 (k : Int)) ∧ w' = w := by
  go_enter Try.func21, Try.ntmps21
  go_wp2
  go_loopw [1, 5] (fun vk vi wr => vk = .int .i64 (k : Int) ∧ vi = .int .i64 0 ∧ wr = w) (fun _ _ _ => 0)
  case atStart => exact ⟨rfl, rfl, rfl⟩
  case round =>
    obtain ⟨rfl, rfl, hw⟩ := hrel
    obtain rfl := hw.symm
    go_wp2
    go_ret
    exact ⟨rfl, rfl⟩
theorem markMas_0 (a : Option Addr) (cap k : Nat) (w : World) : Calls Try.prog 19 #[.slice a 0 cap, .int .i64 (k : Int)] w fun e w' => e = .returned (.int .i64 (k : Int)) ∧ w' = w := by
  go_enter Try.func19, Try.ntmps19
  go_wp2
  go_loopw [1, 5] (fun vk vi wr => vk = .int .i64 (k : Int) ∧ vi = .int .i64 0 ∧ wr = w) (fun _ _ _ => 0)
  case atStart => exact ⟨rfl, rfl, rfl⟩
  case round =>
    obtain ⟨rfl, rfl, hw⟩ := hrel
    obtain rfl := hw.symm
    go_wp2
    go_ret
    exact ⟨rfl, rfl⟩
theorem heldMas_0 (a : Option Addr) (cap k : Nat) (w : World) : Calls Try.prog 22 #[.slice a 0 cap, .int .i64 (k : Int)] w fun e w' => e = .returned (.int .i64 (k : Int)) ∧ w' = w := by
  go_enter Try.func22, Try.ntmps22
  go_wp2
  go_loopw [1, 5] (fun vk vi wr => vk = .int .i64 (k : Int) ∧ vi = .int .i64 0 ∧ wr = w) (fun _ _ _ => 0)
  case atStart => exact ⟨rfl, rfl, rfl⟩
  case round =>
    obtain ⟨rfl, rfl, hw⟩ := hrel
    obtain rfl := hw.symm
    go_wp2
    go_ret
    exact ⟨rfl, rfl⟩
set_option maxHeartbeats 2000000 in
/-- Two archives whose parts compare as the same do so. -/
theorem eqArc_of (f : Int) (v1 v2 v3 v4 v5 u1 u2 u3 u4 u5 : Value) (w : World) (KN : ∀ W, Below w.heap.size w W → Calls Try.prog 14 #[ntV f v1 v2 v3, ntV f u1 u2 u3] W fun e w' => e = .returned (.bool true) ∧ Below W.heap.size W w') (KE : ∀ W, Below w.heap.size w W → Calls Try.prog 15 #[v4, u4] W fun e w' => e = .returned (.bool true) ∧ Below W.heap.size W w') (KM : ∀ W, Below w.heap.size w W → Calls Try.prog 16 #[v5, u5] W fun e w' => e = .returned (.bool true) ∧ Below W.heap.size W w') :
    Calls Try.prog 7 #[arV f v1 v2 v3 v4 v5, arV f u1 u2 u3 u4 u5] w fun e w' => e = .returned (.bool true) ∧ Below w.heap.size w w' := by
  obtain ⟨A, HA⟩ : ∃ x, Hid (x = w.heap.size) := ⟨_, rfl⟩
  obtain ⟨D, HD⟩ : ∃ x, Hid (x = w.heap.size + 1) := ⟨_, rfl⟩
  obtain ⟨w0, HW0⟩ : ∃ x, Hid (x = (w.alloc (.cells #[.int .i64 f, v1, v2, v3, v4, v5] 30)).alloc (.cells #[.int .i64 f, u1, u2, u3, u4, u5] 30)) := ⟨_, rfl⟩
  have RA : Hid (Row w0 A 30 #[.int .i64 f, v1, v2, v3, v4, v5]) := by show Row _ _ _ _; rw [HW0.out, HA.out]; exact Row.alloc (Row.new w _ _) _
  have RD : Hid (Row w0 D 30 #[.int .i64 f, u1, u2, u3, u4, u5]) := by
    show Row _ _ _ _
    rw [HW0.out, HD.out]
    have := Row.new (w.alloc (.cells #[.int .i64 f, v1, v2, v3, v4, v5] 30)) #[.int .i64 f, u1, u2, u3, u4, u5] 30
    simpa using this
  have hb0 : Below w.heap.size w w0 := by rw [HW0.out]; exact ((Below.refl _ _).alloc (Nat.le_refl _) _).alloc (by simp) _
  have KB0 : Hid (Below w.heap.size w w0) := hb0
  have K1 : Hid _ := KN w0 hb0
  have K2 : Hid (∀ W, Below w.heap.size w W → Calls Try.prog 15 #[v4, u4] W _) := KE
  have K3 : Hid (∀ W, Below w.heap.size w W → Calls Try.prog 16 #[v5, u5] W _) := KM
  have GA : Hid (w0.rangeAt A 0 [.int .i64 f, v1, v2, v3]) := RA.out.range4
  have GD : Hid (w0.rangeAt D 0 [.int .i64 f, u1, u2, u3]) := RD.out.range4
  clear KN KE KM hb0
  go_enter Try.func7, Try.ntmps7
  go_wp2_with (first | ((try rw [← HW0.out, ← HD.out, ← HA.out]); refine wpList_load_mid (by rfl) 26 _ (by rfl) A 0 (by rfl) [.int .i64 f, v1, v2, v3] _ ?_ Try.underlying26 (by rfl) Try.infoNt ?_; exact GA.out) | (refine wpList_load_mid (by rfl) 26 _ (by rfl) D 0 (by rfl) [.int .i64 f, u1, u2, u3] _ ?_ Try.underlying26 (by rfl) Try.infoNt ?_; exact GD.out))
  refine Calls.mono K1.out ?_
  rintro e' w1 ⟨rfl, b1⟩
  have R1 := RA.out.below b1 RA.out.lt
  have S1 := RD.out.below b1 RD.out.lt
  have x4 := R1.cell 4
  have x5 := R1.cell 5
  have y4 := S1.cell 4
  have y5 := S1.cell 5
  simp at x4 x5 y4 y5
  have KB1 : Hid (Below w.heap.size w w1) := below2 KB0.out b1
  clear b1 R1 S1
  go_wp2_with fail
  refine Calls.mono (K2.out _ KB1.out) ?_
  rintro e' w2 ⟨rfl, b2⟩
  replace x5 := (b2.cell (p := ⟨A, 5, none⟩) (block_lt_of_cell x5)).trans x5
  replace y5 := (b2.cell (p := ⟨D, 5, none⟩) (block_lt_of_cell y5)).trans y5
  have KB2 : Hid (Below w.heap.size w w2) := below2 KB1.out b2
  clear b2 x4 y4 KB1
  go_wp2_with fail
  refine Calls.mono (K3.out _ KB2.out) ?_
  rintro e' w3 ⟨rfl, b3⟩
  go_wp2
  go_ret
  exact ⟨rfl, below2 KB2.out b3⟩
set_option maxHeartbeats 2000000 in
theorem markArc_0 (f : Int) (B n : Nat) (N : Nat → Nd) (zs : List Int) (m : Nat) (Y : Nat → Sy) (a l e x y : Option Addr) (c d g cx cy : Nat) (F1 F2 F3 : Nat → Prop) (w : World) (h : NtO w B n N zs m Y (.slice a n c) (.slice l zs.length d) (.slice e m g) F1 F2 F3) (hs : NtW n N zs m Y) :
    Calls Try.prog 10 #[arV f (.slice a n c) (.slice l zs.length d) (.slice e m g) (.slice x 0 cx) (.slice y 0 cy), .int .i64 1] w fun r w' => r = .returned (.int .i64 ((mq3 n N zs m Y : Nat) : Int)) ∧ NtO w' B n (mkNL 1 N) (marks (mq1 n N) zs.length) m (mkdY (mq2 n N zs) Y) (.slice a n c) (.slice l zs.length d) (.slice e m g) F1 F2 F3 ∧ Trn w w' (fun x => F1 x ∨ F2 x ∨ F3 x) := by
  obtain ⟨A, HA⟩ : ∃ x, Hid (x = w.heap.size) := ⟨_, rfl⟩
  obtain ⟨w0, HW0⟩ : ∃ z, Hid (z = w.alloc (.cells #[.int .i64 f, .slice a n c, .slice l zs.length d, .slice e m g, .slice x 0 cx, .slice y 0 cy] 30)) := ⟨_, rfl⟩
  have RA : Hid (Row w0 A 30 #[.int .i64 f, .slice a n c, .slice l zs.length d, .slice e m g, .slice x 0 cx, .slice y 0 cy]) := by show Row _ _ _ _; rw [HW0.out, HA.out]; exact Row.new w _ _
  have hb0 : Below w.heap.size w w0 := by rw [HW0.out]; exact (Below.refl _ _).alloc (Nat.le_refl _) _
  have nA : ∀ {d v} {F : Nat → Prop}, Ow w B d v F → Ow w0 B d v (fun x => F x ∧ x < A) := fun {d v F} ho => by
    have := ho.cut.mono (F' := fun x => F x ∧ x < A) (fun x hx => ⟨hx.1, by rw [HA.out]; exact hx.2.2⟩)
    exact this.below hb0
  have h0 : NtO w0 B n N zs m Y (.slice a n c) (.slice l zs.length d) (.slice e m g) (fun x => F1 x ∧ x < A) (fun x => F2 x ∧ x < A) (fun x => F3 x ∧ x < A) := ⟨nA h.n, nA h.z, nA h.y, fun g a b => h.d1 g a.1 b.1, fun g a b => h.d2 g a.1 b.1, fun g a b => h.d3 g a.1 b.1⟩
  obtain ⟨q3, HQ3⟩ : ∃ x, Hid (mq3 n N zs m Y = x) := ⟨_, rfl⟩
  have KM : Hid _ := markNt_any f B n N zs m Y a l e c d g _ _ _ w0 h0 hs
  rw [HQ3.out] at KM
  rw [HQ3.out]
  have KD : Hid ((∀ g, F1 g → ¬ F2 g) ∧ (∀ g, F1 g → ¬ F3 g) ∧ ∀ g, F2 g → ¬ F3 g) := ⟨h.d1, h.d2, h.d3⟩
  have KT0 : Hid (Trn w w0 (fun x => F1 x ∨ F2 x ∨ F3 x)) := Trn.ofBelow _ hb0
  have GA : Hid (w0.rangeAt A 0 [.int .i64 f, .slice a n c, .slice l zs.length d, .slice e m g]) := RA.out.range4
  have KE : Hid (∀ W, Calls Try.prog 18 #[.slice x 0 cx, .int .i64 (q3 : Int)] W _) := fun W => markEns_0 x cx q3 W
  have KF : Hid (∀ W, Calls Try.prog 19 #[.slice y 0 cy, .int .i64 (q3 : Int)] W _) := fun W => markMas_0 y cy q3 W
  clear h hs hb0 nA h0
  go_enter Try.func10, Try.ntmps10
  go_wp2_with (rw [← HW0.out, ← HA.out]; refine wpList_load_mid (by rfl) 26 _ (by rfl) A 0 (by rfl) [.int .i64 f, .slice a n c, .slice l zs.length d, .slice e m g] _ ?_ Try.underlying26 (by rfl) Try.infoNt ?_; exact GA.out)
  refine Calls.mono KM.out ?_
  rintro e' w1 ⟨rfl, O1, T1⟩
  have R1 : Row w1 A 30 #[.int .i64 f, .slice a n c, .slice l zs.length d, .slice e m g, .slice x 0 cx, .slice y 0 cy] := (T1.block A RA.out.lt (fun h => by rcases h with h | h | h <;> exact Nat.lt_irrefl _ h.2)).trans RA.out
  have x4 := R1.cell 4
  have x5 := R1.cell 5
  simp at x4 x5
  have KZ : Hid (NtO w1 B n (mkNL 1 N) (marks (mq1 n N) zs.length) m (mkdY (mq2 n N zs) Y) (.slice a n c) (.slice l zs.length d) (.slice e m g) F1 F2 F3 ∧ Trn w w1 (fun x => F1 x ∨ F2 x ∨ F3 x)) :=
    ⟨⟨O1.n.mono fun _ h => h.1, O1.z.mono fun _ h => h.1, O1.y.mono fun _ h => h.1, KD.out.1, KD.out.2.1, KD.out.2.2⟩, KT0.out.trans (T1.mono fun _ h => by rcases h with h | h | h; exact .inl h.1; exact .inr (.inl h.1); exact .inr (.inr h.1))⟩
  clear O1 T1 R1 KM
  go_wp2_with fail
  refine Calls.mono (KE.out _) ?_
  rintro e' w2 ⟨rfl, hw⟩
  obtain rfl := hw.symm
  clear hw
  go_wp2_with fail
  refine Calls.mono (KF.out _) ?_
  rintro e' w2 ⟨rfl, hw⟩
  obtain rfl := hw.symm
  clear hw
  go_wp2
  go_ret
  exact ⟨rfl, KZ.out.1, KZ.out.2⟩
set_option maxHeartbeats 2000000 in
theorem heldArc_0 (f : Int) (v1 v2 v3 : Value) (q : Nat) (x y : Option Addr) (cx cy : Nat) (w : World) (KN : ∀ W, Below w.heap.size w W → Calls Try.prog 20 #[ntV f v1 v2 v3, .int .i64 1] W fun e w' => e = .returned (.int .i64 (q : Int)) ∧ Below W.heap.size W w') :
    Calls Try.prog 11 #[arV f v1 v2 v3 (.slice x 0 cx) (.slice y 0 cy), .int .i64 1] w fun r w' => r = .returned (.int .i64 (q : Int)) ∧ Below w.heap.size w w' := by
  obtain ⟨A, HA⟩ : ∃ x, Hid (x = w.heap.size) := ⟨_, rfl⟩
  obtain ⟨w0, HW0⟩ : ∃ z, Hid (z = w.alloc (.cells #[.int .i64 f, v1, v2, v3, .slice x 0 cx, .slice y 0 cy] 30)) := ⟨_, rfl⟩
  have RA : Hid (Row w0 A 30 #[.int .i64 f, v1, v2, v3, .slice x 0 cx, .slice y 0 cy]) := by show Row _ _ _ _; rw [HW0.out, HA.out]; exact Row.new w _ _
  have hb0 : Below w.heap.size w w0 := by rw [HW0.out]; exact (Below.refl _ _).alloc (Nat.le_refl _) _
  have KB0 : Hid (Below w.heap.size w w0) := hb0
  have K1 : Hid _ := KN w0 hb0
  have GA : Hid (w0.rangeAt A 0 [.int .i64 f, v1, v2, v3]) := RA.out.range4
  have KE : Hid (∀ W, Calls Try.prog 21 #[.slice x 0 cx, .int .i64 (q : Int)] W _) := fun W => heldEns_0 x cx q W
  have KF : Hid (∀ W, Calls Try.prog 22 #[.slice y 0 cy, .int .i64 (q : Int)] W _) := fun W => heldMas_0 y cy q W
  have n3 : ¬ ((q : Int) < 0) := by omega
  clear KN hb0
  go_enter Try.func11, Try.ntmps11
  go_wp2_with (rw [← HW0.out, ← HA.out]; refine wpList_load_mid (by rfl) 26 _ (by rfl) A 0 (by rfl) [.int .i64 f, v1, v2, v3] _ ?_ Try.underlying26 (by rfl) Try.infoNt ?_; exact GA.out)
  refine Calls.mono K1.out ?_
  rintro e' w1 ⟨rfl, b1⟩
  have R1 := RA.out.below b1 RA.out.lt
  have x4 := R1.cell 4
  have x5 := R1.cell 5
  simp at x4 x5
  have KB1 : Hid (Below w.heap.size w w1) := below2 KB0.out b1
  clear b1 R1 K1
  go_wp2_with fail
  refine Calls.mono (KE.out _) ?_
  rintro e' w2 ⟨rfl, hw⟩
  obtain rfl := hw.symm
  clear hw
  go_wp2_with fail
  refine Calls.mono (KF.out _) ?_
  rintro e' w2 ⟨rfl, hw⟩
  obtain rfl := hw.symm
  clear hw
  go_wp2
  go_ret
  exact ⟨rfl, KB1.out⟩
end Go.Proofs.Ytpomffkpjldloaa
