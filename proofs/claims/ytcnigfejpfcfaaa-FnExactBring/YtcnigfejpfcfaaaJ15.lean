/- A new node, in the program and in the model; a node's F and number. No condition. -/
import Derived.Test.YtcnigfejpfcfaaaJ14
import Derived.Test.YtcnigfejpfcfaaaJ12
import Derived.Test.YtcnigfejpfcfaaaQVAll
namespace Go.Proofs.Ytcnigfejpfcfaaa
set_option maxRecDepth 2000
open Go.ChangeShapes Go.WideShapes Go.ChangeAt Go.RowKit

/-- F and the number are so. -/
def seB (id f : Int) : Bool := decide (1 ≤ f ∧ f ≤ 3 ∧ 0 ≤ id ∧ id < 3 * f + 1)
def fB (f : Int) : Bool := decide (1 ≤ f ∧ f ≤ 3)
abbrev ndV (id f : Int) (v : Value) : Value := .agg #[.int .i64 id, .int .i64 f, v]
theorem three_wrap {f : Int} (h : 1 ≤ f ∧ f ≤ 3) : IntKind.i64.wrap (3 * f) = 3 * f ∧ IntKind.i64.wrap (3 * f + 1) = 3 * f + 1 := by
  constructor <;> (rw [IntKind.wrap_i64]; omega)
set_option maxHeartbeats 1000000 in
theorem isF_any (f : Int) (w : World) : Calls Try.prog 48 #[.int .i64 f] w fun e w' => e = .returned (.bool (fB f)) ∧ w' = w := by
  by_cases h1 : 1 ≤ f
  · by_cases h2 : f ≤ 3
    · have e : fB f = true := decide_eq_true ⟨h1, h2⟩
      rw [e]
      go_enter Try.func48, Try.ntmps48
      go_wp2
      go_ret
      exact ⟨rfl, rfl⟩
    · have e : fB f = false := decide_eq_false (fun h => h2 h.2)
      rw [e]
      go_enter Try.func48, Try.ntmps48
      go_wp2
      go_ret
      exact ⟨rfl, rfl⟩
  · have e : fB f = false := decide_eq_false (fun h => h1 h.1)
    rw [e]
    go_enter Try.func48, Try.ntmps48
    go_wp2
    go_ret
    exact ⟨rfl, rfl⟩
theorem nodeCount_any (f : Int) (w : World) (h : 1 ≤ f ∧ f ≤ 3) : Calls Try.prog 51 #[.int .i64 f] w fun e w' => e = .returned (.int .i64 (3 * f + 1)) ∧ w' = w := by
  obtain ⟨e1, e2⟩ := three_wrap h
  go_enter Try.func51, Try.ntmps51
  go_wp2
  go_ret
  exact ⟨rfl, rfl⟩
theorem pieceNeed_any (f : Int) (w : World) (h : 1 ≤ f ∧ f ≤ 3) : Calls Try.prog 50 #[.int .i64 f] w fun e w' => e = .returned (.int .i64 (f + 1)) ∧ w' = w := by
  have e1 : IntKind.i64.wrap (f + 1) = f + 1 := by rw [IntKind.wrap_i64]; omega
  go_enter Try.func50, Try.ntmps50
  go_wp2
  go_ret
  exact ⟨rfl, rfl⟩
theorem sAllN_any (f : Int) (w : World) (h : 1 ≤ f ∧ f ≤ 3) : Calls Try.prog 27 #[.int .i64 f] w fun e w' => e = .returned (.int .i64 (3 * f + 1)) ∧ w' = w := by
  obtain ⟨e1, e2⟩ := three_wrap h
  go_enter Try.func27, Try.ntmps27
  go_wp2
  go_ret
  exact ⟨rfl, rfl⟩
set_option maxHeartbeats 1000000 in
theorem knows_any (id f x : Int) (v : Value) (w : World) (h : 1 ≤ f ∧ f ≤ 3) : Calls Try.prog 57 #[ndV id f v, .int .i64 x] w fun e w' => e = .returned (.bool (decide (0 ≤ x ∧ x < 3 * f + 1))) ∧ Below w.heap.size w w' := by
  have KN : Hid (∀ W, Calls Try.prog 51 #[.int .i64 f] W fun e w' => e = .returned (.int .i64 (3 * f + 1)) ∧ w' = W) := fun W => nodeCount_any f W h
  have KB : Hid (Below w.heap.size w (w.alloc (.cells #[.int .i64 id, .int .i64 f, v] 24))) := (Below.refl _ _).alloc (Nat.le_refl _) _
  obtain ⟨m, HM⟩ : ∃ m, Hid (3 * f + 1 = m) := ⟨_, rfl⟩
  rw [HM.out] at KN ⊢
  by_cases h1 : 0 ≤ x
  · have h1' : x ≥ 0 := h1
    by_cases h2 : x < m
    · have e : decide (0 ≤ x ∧ x < m) = true := decide_eq_true ⟨h1, h2⟩
      rw [e]
      go_enter Try.func57, Try.ntmps57
      go_wp2_with (go_at_call 51; refine Calls.mono (KN.out _) ?_; rintro e w' ⟨rfl, hw⟩; obtain rfl := hw.symm; clear hw)
      go_ret
      exact ⟨rfl, KB.out⟩
    · have e : decide (0 ≤ x ∧ x < m) = false := decide_eq_false (fun h => h2 h.2)
      rw [e]
      go_enter Try.func57, Try.ntmps57
      go_wp2_with (go_at_call 51; refine Calls.mono (KN.out _) ?_; rintro e w' ⟨rfl, hw⟩; obtain rfl := hw.symm; clear hw)
      go_ret
      exact ⟨by simp [h2], KB.out⟩
  · have h1' : ¬ x ≥ 0 := h1
    have e : decide (0 ≤ x ∧ x < m) = false := decide_eq_false (fun h => h1 h.1)
    rw [e]
    go_enter Try.func57, Try.ntmps57
    go_wp2_with (go_at_call 51; refine Calls.mono (KN.out _) ?_; rintro e w' ⟨rfl, hw⟩; obtain rfl := hw.symm; clear hw)
    go_ret
    exact ⟨rfl, KB.out⟩
set_option maxHeartbeats 1000000 in
theorem isSeated_any (id f : Int) (v : Value) (w : World) : Calls Try.prog 28 #[ndV id f v] w fun e w' => e = .returned (.bool (seB id f)) ∧ Below w.heap.size w w' := by
  obtain ⟨w0, HW0⟩ : ∃ x, Hid (x = w.alloc (.cells #[.int .i64 id, .int .i64 f, v] 24)) := ⟨_, rfl⟩
  have KB : Hid (Below w.heap.size w w0) := by show Below _ _ _; rw [HW0.out]; exact (Below.refl _ _).alloc (Nat.le_refl _) _
  obtain ⟨A, HA⟩ : ∃ x, Hid (x = w.heap.size) := ⟨_, rfl⟩
  have HR : Hid (Row w0 A 24 #[.int .i64 id, .int .i64 f, v]) := by show Row _ _ _ _; rw [HW0.out, HA.out]; exact Row.new w _ _
  have KF : Hid (∀ W, Calls Try.prog 48 #[.int .i64 f] W fun e w' => e = .returned (.bool (fB f)) ∧ w' = W) := isF_any f
  by_cases hf : 1 ≤ f ∧ f ≤ 3
  · have e : fB f = true := decide_eq_true hf
    have HE : Hid (decide (0 ≤ id ∧ id < 3 * f + 1) = seB id f) := by
      show _ = _
      unfold seB
      simp [hf.1, hf.2]
    have KK : Hid (Calls Try.prog 57 #[ndV id f v, .int .i64 id] w0 fun e w' => e = .returned (.bool (seB id f)) ∧ Below w0.heap.size w0 w') := by
      have := knows_any id f id v w0 hf
      rw [HE.out] at this
      exact this
    rw [e] at KF
    have x0 := HR.out.cell 0
    have x1 := HR.out.cell 1
    have x2 := HR.out.cell 2
    simp at x0 x1 x2
    go_enter Try.func28, Try.ntmps28
    go_wp2_with fail
    rw [← HW0.out, ← HA.out]
    refine Calls.mono (KF.out _) ?_
    rintro e w' ⟨rfl, hw⟩
    obtain rfl := hw.symm
    clear hw
    go_wp2_with fail
    refine Calls.mono KK.out ?_
    rintro e w1 ⟨rfl, b1⟩
    go_wp2
    go_ret
    exact ⟨rfl, below2 KB.out b1⟩
  · have e : fB f = false := decide_eq_false hf
    have e2 : seB id f = false := decide_eq_false (fun h => hf ⟨h.1, h.2.1⟩)
    rw [e] at KF
    rw [e2]
    go_enter Try.func28, Try.ntmps28
    go_wp2_with fail
    rw [← HW0.out, ← HA.out]
    refine Calls.mono (KF.out _) ?_
    rintro e w' ⟨rfl, hw⟩
    obtain rfl := hw.symm
    clear hw
    go_wp2
    go_ret
    exact ⟨rfl, KB.out⟩
set_option maxHeartbeats 1000000 in
theorem nodeStart_any (id f : Int) (w : World) : Calls Try.prog 8 #[.int .i64 id, .int .i64 f] w fun e w' => ∃ a : Option Addr, e = .returned (.tuple #[ndV (if seB id f then id else 0) (if seB id f then f else 0) (.slice a 0 0), .bool (seB id f)]) ∧ w'.ownsRow w.heap.size 42 13 (.slice a 0 0) 0 [] ∧ Below w.heap.size w w' := by
  obtain ⟨D, HD⟩ : ∃ x, Hid (x = w.heap.size) := ⟨_, rfl⟩
  obtain ⟨G, HG⟩ : ∃ x, Hid (x = w.heap.size + 1) := ⟨_, rfl⟩
  obtain ⟨V, HV⟩ : ∃ x, Hid (x = w.heap.size + 1 + 1) := ⟨_, rfl⟩
  obtain ⟨w0, HW0⟩ : ∃ x, Hid (x = ((w.alloc (.cells #[.int .i64 0, .int .i64 0, .slice none 0 0] 24)).alloc (.cells #[] 42)).alloc (.cells #[.int .i64 id, .int .i64 f, .slice (some ⟨G, 0, none⟩) 0 0] 24)) := ⟨_, rfl⟩
  have RD : Hid (Row w0 D 24 #[.int .i64 0, .int .i64 0, .slice none 0 0]) := by show Row _ _ _ _; rw [HW0.out, HD.out]; exact Row.alloc (Row.alloc (Row.new w _ _) _) _
  have RV : Hid (Row w0 V 24 #[.int .i64 id, .int .i64 f, .slice (some ⟨G, 0, none⟩) 0 0]) := by
    show Row _ _ _ _
    rw [HW0.out, HV.out, HG.out]
    have := Row.new ((w.alloc (.cells #[.int .i64 0, .int .i64 0, .slice none 0 0] 24)).alloc (.cells #[] 42)) #[.int .i64 id, .int .i64 f, .slice (some ⟨w.heap.size + 1, 0, none⟩) 0 0] 24
    simpa using this
  have OG : Hid (w0.ownsRow w.heap.size 42 13 (.slice (some ⟨G, 0, none⟩) 0 0) 0 []) := by
    show World.ownsRow _ _ _ _ _ _ _
    rw [HW0.out, HG.out]
    have := World.ownsRow_lit (e := 42) (size := 13) (base := w.heap.size) (w.alloc (.cells #[.int .i64 0, .int .i64 0, .slice none 0 0] 24)) #[] 0 (by simp) (by unfold maxLen; omega) (by simp)
    have := World.ownsRow.alloc this (.cells #[.int .i64 id, .int .i64 f, .slice (some ⟨w.heap.size + 1, 0, none⟩) 0 0] 24)
    simpa using this
  have b0 : Below w.heap.size w w0 := by rw [HW0.out]; exact (((Below.refl _ _).alloc (Nat.le_refl _) _).alloc (by simp) _).alloc (by simp; omega) _
  have hDw : w.heap.size ≤ D := by rw [HD.out]; exact Nat.le_refl _
  have hGD : Hid (G ≠ D) := by have := HG.out; have := HD.out; show G ≠ D; omega
  have KB0 : Hid (Below w.heap.size w w0) := b0
  have lD := RD.out.lt
  have KS : Hid _ := isSeated_any id f (.slice (some ⟨G, 0, none⟩) 0 0) w0
  have y0 := RV.out.cell 0
  have y1 := RV.out.cell 1
  have y2 := RV.out.cell 2
  simp at y0 y1 y2
  cases hse : seB id f with
  | true =>
    rw [hse] at KS
    clear b0
    go_enter Try.func8, Try.ntmps8
    go_wp2_with fail
    rw [← HV.out, ← HG.out, ← HW0.out, ← HD.out]
    refine Calls.mono KS.out ?_
    rintro e w1 ⟨rfl, b1⟩
    have R1 := RD.out.below b1 lD
    have V1 := RV.out.below b1 RV.out.lt
    have x0 := R1.cell 0
    have x1 := R1.cell 1
    have x2 := R1.cell 2
    have f0 := R1.free 0
    have f1 := R1.free 1
    have f2 := R1.free 2
    have z0 := V1.cell 0
    have z1 := V1.cell 1
    have z2 := V1.cell 2
    simp at x0 x1 x2 z0 z1 z2
    have HR3 : Hid (Row (((w1.setCell ⟨D, 0, none⟩ (.int .i64 id)).setCell ⟨D, 1, none⟩ (.int .i64 f)).setCell ⟨D, 2, none⟩ (.slice (some ⟨G, 0, none⟩) 0 0)) D 24 #[.int .i64 id, .int .i64 f, .slice (some ⟨G, 0, none⟩) 0 0]) := ((R1.set 0 _).set 1 _).set 2 _
    have HB3 : Hid (Below w.heap.size w (((w1.setCell ⟨D, 0, none⟩ (.int .i64 id)).setCell ⟨D, 1, none⟩ (.int .i64 f)).setCell ⟨D, 2, none⟩ (.slice (some ⟨G, 0, none⟩) 0 0))) := Below.setCell (Below.setCell (Below.setCell (below2 KB0.out b1) hDw _) hDw _) hDw _
    have O1 : Hid (w1.ownsRow w.heap.size 42 13 (.slice (some ⟨G, 0, none⟩) 0 0) 0 []) := ownsRow_below OG.out b1
    have hfar : ∀ x, (some ⟨G, 0, none⟩ : Option Addr) = some x → x.block ≠ D := fun x e => by cases e; exact hGD.out
    have O3 : Hid ((((w1.setCell ⟨D, 0, none⟩ (.int .i64 id)).setCell ⟨D, 1, none⟩ (.int .i64 f)).setCell ⟨D, 2, none⟩ (.slice (some ⟨G, 0, none⟩) 0 0)).ownsRow w.heap.size 42 13 (.slice (some ⟨G, 0, none⟩) 0 0) 0 []) := own_kept (own_kept (own_kept O1.out (grown_set _ _ _ _) hfar) (grown_set _ _ _ _) hfar) (grown_set _ _ _ _) hfar
    clear R1 V1 b1 y0 y1 y2 hfar
    go_wp2
    refine bodyPost_ret (v := .tuple #[ndV id f (.slice (some ⟨G, 0, none⟩) 0 0), .bool true]) (by
      have p0 := HR3.out.cell 0
      have p1 := HR3.out.cell 1
      have p2 := HR3.out.cell 2
      simp at p0 p1 p2
      simp [results, Try.results8, go_sem, p0, p1, p2]) rfl ⟨some ⟨G, 0, none⟩, rfl, O3.out, HB3.out⟩
  | false =>
    rw [hse] at KS
    clear b0
    go_enter Try.func8, Try.ntmps8
    go_wp2_with fail
    rw [← HV.out, ← HG.out, ← HW0.out, ← HD.out]
    refine Calls.mono KS.out ?_
    rintro e w1 ⟨rfl, b1⟩
    have R1 := RD.out.below b1 lD
    have V1 := RV.out.below b1 RV.out.lt
    have x0 := R1.cell 0
    have x1 := R1.cell 1
    have x2 := R1.cell 2
    have f0 := R1.free 0
    have f1 := R1.free 1
    have f2 := R1.free 2
    have z0 := V1.cell 0
    have z1 := V1.cell 1
    have z2 := V1.cell 2
    simp at x0 x1 x2 z0 z1 z2
    have HR3 : Hid (Row (((w1.setCell ⟨D, 0, none⟩ (.int .i64 0)).setCell ⟨D, 1, none⟩ (.int .i64 0)).setCell ⟨D, 2, none⟩ (.slice none 0 0)) D 24 #[.int .i64 0, .int .i64 0, .slice none 0 0]) := ((R1.set 0 _).set 1 _).set 2 _
    have HB3 : Hid (Below w.heap.size w (((w1.setCell ⟨D, 0, none⟩ (.int .i64 0)).setCell ⟨D, 1, none⟩ (.int .i64 0)).setCell ⟨D, 2, none⟩ (.slice none 0 0))) := Below.setCell (Below.setCell (Below.setCell (below2 KB0.out b1) hDw _) hDw _) hDw _
    have O1 : Hid (w1.ownsRow w.heap.size 42 13 (.slice (some ⟨G, 0, none⟩) 0 0) 0 []) := ownsRow_below OG.out b1
    have hfar : ∀ x, (some ⟨G, 0, none⟩ : Option Addr) = some x → x.block ≠ D := fun x e => by cases e; exact hGD.out
    have O3 : Hid ((((w1.setCell ⟨D, 0, none⟩ (.int .i64 0)).setCell ⟨D, 1, none⟩ (.int .i64 0)).setCell ⟨D, 2, none⟩ (.slice none 0 0)).ownsRow w.heap.size 42 13 (.slice (some ⟨G, 0, none⟩) 0 0) 0 []) := own_kept (own_kept (own_kept O1.out (grown_set _ _ _ _) hfar) (grown_set _ _ _ _) hfar) (grown_set _ _ _ _) hfar
    clear R1 V1 b1 y0 y1 y2 hfar
    go_wp2
    refine bodyPost_ret (v := .tuple #[ndV 0 0 (.slice none 0 0), .bool false]) (by
      have p0 := HR3.out.cell 0
      have p1 := HR3.out.cell 1
      have p2 := HR3.out.cell 2
      simp at p0 p1 p2
      simp [results, Try.results8, go_sem, p0, p1, p2]) rfl ⟨none, rfl, World.ownsRow_nil _ _ _ _, HB3.out⟩
set_option maxHeartbeats 1000000 in
theorem sNodeStart_any (id f : Int) (w : World) : Calls Try.prog 7 #[.int .i64 id, .int .i64 f] w fun e w' => e = .returned (.tuple #[ndV (if seB id f then id else 0) (if seB id f then f else 0) (.slice none 0 0), .bool (seB id f)]) ∧ Below w.heap.size w w' := by
  have KI : Hid (∀ x a b W, Calls Try.prog 26 #[.int .i64 x, .int .i64 a, .int .i64 b] W fun e w' => e = .returned (.bool (inB x a b)) ∧ w' = W) := fun x a b W => sIn_any x a b W
  by_cases hf : 1 ≤ f ∧ f ≤ 3
  · obtain ⟨e1, e2⟩ := three_wrap hf
    have KA : Hid (∀ W, Calls Try.prog 27 #[.int .i64 f] W fun e w' => e = .returned (.int .i64 (3 * f + 1)) ∧ w' = W) := fun W => sAllN_any f W hf
    have i1 : inB f 1 3 = true := decide_eq_true hf
    have e3 : IntKind.i64.wrap (3 * f + 1 - 1) = 3 * f := by rw [IntKind.wrap_i64]; omega
    have i2 : inB id 0 (3 * f) = seB id f := by
      unfold inB seB
      rw [decide_eq_decide]
      omega
    obtain ⟨m, HM⟩ : ∃ m, Hid (3 * f + 1 = m) := ⟨_, rfl⟩
    obtain ⟨m1, HM1⟩ : ∃ m, Hid (3 * f = m) := ⟨_, rfl⟩
    rw [HM.out] at KA e3
    rw [HM1.out] at e3 i2
    have K1 : Hid (∀ W, Calls Try.prog 26 #[.int .i64 f, .int .i64 1, .int .i64 3] W fun e w' => e = .returned (.bool true) ∧ w' = W) := fun W => by have := KI.out f 1 3 W; rw [i1] at this; exact this
    have K2 : Hid (∀ W, Calls Try.prog 26 #[.int .i64 id, .int .i64 0, .int .i64 m1] W fun e w' => e = .returned (.bool (seB id f)) ∧ w' = W) := fun W => by have := KI.out id 0 m1 W; rw [i2] at this; exact this
    clear e1 e2 i1 i2
    cases hse : seB id f with
    | true =>
      rw [hse] at K2
      go_enter Try.func7, Try.ntmps7
      go_wp2_with (first | (go_at_call 27; refine Calls.mono (KA.out _) ?_; rintro e w' ⟨rfl, hw⟩; obtain rfl := hw.symm; clear hw; have DONE : Hid True := trivial) | (guard_hyp DONE; go_at_call 26; refine Calls.mono (K2.out _) ?_; rintro e w' ⟨rfl, hw⟩; obtain rfl := hw.symm; clear hw) | (go_at_call 26; refine Calls.mono (K1.out _) ?_; rintro e w' ⟨rfl, hw⟩; obtain rfl := hw.symm; clear hw))
      refine bodyPost_ret (v := .tuple #[ndV id f (.slice none 0 0), .bool true]) (by simp [results, Try.results7, go_sem]) rfl ⟨rfl, (Below.refl _ _).alloc (Nat.le_refl _) _⟩
    | false =>
      rw [hse] at K2
      go_enter Try.func7, Try.ntmps7
      go_wp2_with (first | (go_at_call 27; refine Calls.mono (KA.out _) ?_; rintro e w' ⟨rfl, hw⟩; obtain rfl := hw.symm; clear hw; have DONE : Hid True := trivial) | (guard_hyp DONE; go_at_call 26; refine Calls.mono (K2.out _) ?_; rintro e w' ⟨rfl, hw⟩; obtain rfl := hw.symm; clear hw) | (go_at_call 26; refine Calls.mono (K1.out _) ?_; rintro e w' ⟨rfl, hw⟩; obtain rfl := hw.symm; clear hw))
      refine bodyPost_ret (v := .tuple #[ndV 0 0 (.slice none 0 0), .bool false]) (by simp [results, Try.results7, go_sem]) rfl ⟨rfl, (Below.refl _ _).alloc (Nat.le_refl _) _⟩
  · have e2 : seB id f = false := decide_eq_false (fun h => hf ⟨h.1, h.2.1⟩)
    have i1 : inB f 1 3 = false := decide_eq_false hf
    have K1 : Hid (∀ W, Calls Try.prog 26 #[.int .i64 f, .int .i64 1, .int .i64 3] W fun e w' => e = .returned (.bool false) ∧ w' = W) := fun W => by have := KI.out f 1 3 W; rw [i1] at this; exact this
    rw [e2]
    go_enter Try.func7, Try.ntmps7
    go_wp2_with (go_at_call 26; refine Calls.mono (K1.out _) ?_; rintro e w' ⟨rfl, hw⟩; obtain rfl := hw.symm; clear hw)
    refine bodyPost_ret (v := .tuple #[ndV 0 0 (.slice none 0 0), .bool false]) (by simp [results, Try.results7, go_sem]) rfl ⟨rfl, (Below.refl _ _).alloc (Nat.le_refl _) _⟩
end Go.Proofs.Ytcnigfejpfcfaaa

/- What who brings a text says, in the model and in the program. Condition: a text of at most 2^20 bytes. -/
namespace Go.Proofs.Ytcnigfejpfcfaaa
set_option maxRecDepth 2000
open Go.ChangeShapes Go.WideShapes Go.ChangeAt Go.RowKit

theorem step_store_mid {P : Program} {ops : Array Oper} {o : Oper} {a : Act} {w : World} {K : Act → World → Prop} {Q : Exit → Act → World → Prop} {E : Prop} (hgd : o.guard = none) (ty : TypeId) (x y : Operand) (ho : o.op = .store ty x y)
    (b of : Nat) (cells : Array Value) (hx : a.eval x = .pointer (some ⟨b, of, none⟩)) (hy : a.eval y = .agg cells)
    (ht : w.there b of cells.size) (hi : (P.info? ty).map (·.size) = some cells.size) (h1 : cells.all (·.oneCell') = true)
    (h : K (a.put o.dst undef) (w.setCells b of cells.toList)) : if Region.wanted o (yielded ops a.tmps) = true then Oper.wp P o a w K Q else E := by
  have hw : Region.wanted o (yielded ops a.tmps) = true := by simp [Region.wanted, hgd]
  rw [if_pos hw]
  exact wp_store_mid ty x y ho b of cells hx hy ht hi h1 h
theorem cL_snoc10 (c : Nat → Nat → Value) (n : Nat) : cL 10 c (n + 1) = cL 10 c n ++ [c n 0, c n 1, c n 2, c n 3, c n 4, c n 5, c n 6, c n 7, c n 8, c n 9] := by
  apply List.ext_getElem?
  intro j
  by_cases hj : j < n * 10
  · rw [List.getElem?_append_left (by rw [cL_len]; omega)]
    have h1 := cL_get 10 c (n + 1) (j / 10) (j % 10) (by omega) (by omega)
    have h2 := cL_get 10 c n (j / 10) (j % 10) (by omega) (by omega)
    rw [mid_eq] at h1 h2
    rw [h1, h2]
  · rw [List.getElem?_append_right (by rw [cL_len]; omega), cL_len]
    by_cases h6 : j < (n + 1) * 10
    · obtain ⟨q, rfl⟩ : ∃ q, j = n * 10 + q := ⟨j - n * 10, by omega⟩
      have hq : q < 10 := by omega
      rw [cL_get _ _ _ _ _ (by omega) hq, show n * 10 + q - n * 10 = q by omega]
      match q, hq with
      | 0, _ | 1, _ | 2, _ | 3, _ | 4, _ | 5, _ | 6, _ | 7, _ | 8, _ | 9, _ => rfl
    · rw [List.getElem?_eq_none (by rw [cL_len]; omega), List.getElem?_eq_none (by simp; omega)]
/-- What is said: each node's piece. -/
noncomputable def brP (s : ByteArray) (f : Int) : Nat → Pc := cutP (f + 1) (3 * f + 1).toNat (encS s (f + 1).toNat)
noncomputable def brS (s : ByteArray) (f : Int) (i : Nat) : Sy := ⟨0, -1, (i : Int), (brP s f i).r, brP s f i⟩
def brB (s : ByteArray) (f : Int) : Bool := fB f && encOk s (f + 1) (3 * f + 1)
def brN (s : ByteArray) (f : Int) : Nat := if brB s f then (3 * f + 1).toNat else 0
noncomputable def brR (s : ByteArray) (f : Int) : ByteArray := if brB s f then (brP s f 0).r else ByteArray.empty
theorem brP_r (s : ByteArray) (f : Int) (i : Nat) : (brP s f i).r = (brP s f 0).r := rfl
/-- The cells of the sayings, their proofs' places told. -/
noncomputable def syc (s : ByteArray) (f : Int) (A : Nat → Option Addr) (C : Nat → Nat) (i q : Nat) : Value := (syC (brS s f i) (.slice (A i) (brP s f i).m (C i))).toList.getD q undef
theorem syc_lst (s : ByteArray) (f : Int) (A : Nat → Option Addr) (C : Nat → Nat) (i : Nat) : [syc s f A C i 0, syc s f A C i 1, syc s f A C i 2, syc s f A C i 3, syc s f A C i 4, syc s f A C i 5, syc s f A C i 6, syc s f A C i 7, syc s f A C i 8, syc s f A C i 9] = (syC (brS s f i) (.slice (A i) (brP s f i).m (C i))).toList := rfl
theorem rd_says {w : World} {B : Nat} {a : Option Addr} {n cap : Nat} {s : ByteArray} {f : Int} {A : Nat → Option Addr} {C : Nat → Nat} (ho : w.ownsRow B 76 10 (.slice a n cap) n (cL 10 (syc s f A C) n)) (ht : ∀ i, i < n → TxtAt w (A i) (brP s f i).m (brP s f i).S) : Rd w (sysD n (brS s f)) (.slice a n cap) := by
  refine ⟨a, cap, rfl, fun i hi => ?_⟩
  rcases own_shape ho with ⟨_, h0, _⟩ | ⟨g, cur, rfl, _⟩
  · omega
  · refine ⟨g, 0, rfl, fun q hq => ⟨syc s f A C i q, ?_, ?_⟩⟩
    · rw [Nat.zero_add, ho.cellAt _ (mid_lt hi hq)]
      exact cL_get _ _ _ _ _ hi hq
    · match q, hq with
      | 0, _ | 1, _ | 2, _ | 3, _ | 4, _ | 5, _ | 6, _ | 7, _ | 8, _ => rfl
      | 9, _ => exact rd_txt.2 (ht i hi)
theorem ow_says {w : World} {B g : Nat} {n cap : Nat} {s : ByteArray} {f : Int} {A : Nat → Option Addr} {C : Nat → Nat} {F : Nat → Prop} (ho : w.ownsRow B 76 10 (.slice (some ⟨g, 0, none⟩) n cap) n (cL 10 (syc s f A C) n)) (ht : ∀ i, i < n → OwnT w B (A i) (brP s f i).m (C i) (brP s f i).S)
    (hd : ∀ i j x y, i < j → j < n → A i = some x → A j = some y → x.block ≠ y.block) (hg : ∀ i x, i < n → A i = some x → x.block ≠ g) (hF : F g) (hF' : ∀ i x, i < n → A i = some x → F x.block) : Ow w B (sysD n (brS s f)) (.slice (some ⟨g, 0, none⟩) n cap) F := by
  refine ⟨_, cap, syc s f A C, fun i q x => q = 9 ∧ ∃ y, A i = some y ∧ y.block = x, rfl, ho, ⟨fun x e => by cases e; exact hF, ?_, ?_, ?_⟩, fun i q hi hq => ?_⟩
  · rintro i q x hi _ ⟨_, y, e, rfl⟩
    exact hF' i y hi e
  · rintro i q x hi _ ex ⟨_, y, e, ey⟩
    cases ex
    exact hg i y hi e ey
  · rintro i q i' q' x hi _ hi' _ ⟨h1, y, e, rfl⟩ ⟨h2, y', e', ey⟩
    refine ⟨?_, by omega⟩
    rcases Nat.lt_trichotomy i i' with h | h | h
    · exact absurd ey.symm (hd i i' y y' h hi' e e')
    · exact h
    · exact absurd ey (hd i' i y' y h hi e' e)
  · match q, hq with
    | 0, _ | 1, _ | 2, _ | 3, _ | 4, _ | 5, _ | 6, _ | 7, _ | 8, _ => rfl
    | 9, _ => exact ow_txt (ht i hi) (fun x e => ⟨rfl, x, e, rfl⟩)
theorem Try.infoSyZ : (Try.prog.info? 76).map (fun i => (i.zero, i.size, i.bytes)) = some (some (.agg #[.int .i64 0, .int .i64 0, .int .i64 0, .string ByteArray.empty, .string ByteArray.empty, .int .i64 0, .int .i64 0, .int .i64 0, .string ByteArray.empty, .slice none 0 0]), 10, 120) := by kernel_rfl
set_option maxHeartbeats 4000000 in
theorem sBring_any (s : ByteArray) (f : Int) (w : World) (hs : s.size ≤ 1048576) :
    Calls Try.prog 21 #[.string s, .int .i64 f] w fun e w' => ∃ a cap, e = .returned (.tuple #[.slice a (brN s f) cap, .string (brR s f), .bool (brB s f)]) ∧ Rd w' (sysD (brN s f) (brS s f)) (.slice a (brN s f) cap) ∧ Below w.heap.size w w' := by
  obtain ⟨i0, hi, hz0, hz1, hz2⟩ := info_parts Try.infoSyZ
  have KI : Hid (Calls Try.prog 26 #[.int .i64 f, .int .i64 1, .int .i64 3] w fun e w' => e = .returned (.bool (inB f 1 3)) ∧ w' = w) := sIn_any f 1 3 w
  by_cases hf : 1 ≤ f ∧ f ≤ 3
  case neg =>
    have i1 : inB f 1 3 = false := decide_eq_false hf
    rw [i1] at KI
    have hB : brB s f = false := by unfold brB fB; rw [decide_eq_false hf]; rfl
    have hN : brN s f = 0 := by unfold brN; rw [hB]; rfl
    have hR : brR s f = ByteArray.empty := by unfold brR; rw [hB]; rfl
    rw [hN, hR, hB]
    have KB : Hid (Below w.heap.size w (w.alloc (.cells #[] 76))) := (Below.refl _ _).alloc (Nat.le_refl _) _
    clear hs hN hR hB
    go_enter Try.func21, Try.ntmps21
    go_wp2_with fail
    refine Calls.mono KI.out ?_
    rintro e w' ⟨rfl, hw⟩
    obtain rfl := hw.symm
    clear hw KI
    go_wp2
    go_ret3
    exact ⟨_, _, rfl, Rd.nil _ _ _ _ _ _, KB.out⟩
  have i1 : inB f 1 3 = true := decide_eq_true hf
  rw [i1] at KI
  have e1 : IntKind.i64.wrap (f + 1) = f + 1 := by rw [IntKind.wrap_i64]; omega
  have KA : Hid (∀ W, Calls Try.prog 27 #[.int .i64 f] W fun e w' => e = .returned (.int .i64 (3 * f + 1)) ∧ w' = W) := fun W => sAllN_any f W hf
  have hBe : brB s f = encOk s (f + 1) (3 * f + 1) := by unfold brB fB; rw [decide_eq_true hf]; rfl
  have KC : Hid (Calls Try.prog 47 #[.string s, .int .i64 (f + 1), .int .i64 (3 * f + 1)] w fun e w' => ∃ v, e = .returned (.tuple #[v, .bool (brB s f)]) ∧ ResP w w' v (cutR s (f + 1) (3 * f + 1)) (brP s f) ∧ Below w.heap.size w w') := by
    have := sCut_any s (f + 1) (3 * f + 1) w hs
    rw [← hBe] at this
    exact this
  have hNe : cutR s (f + 1) (3 * f + 1) = brN s f := by unfold cutR brN; rw [hBe]
  rw [hNe] at KC
  obtain ⟨n1, HN1⟩ : ∃ x, Hid (3 * f + 1 = x) := ⟨_, rfl⟩
  rw [HN1.out] at KA KC
  cases hB : brB s f with
  | false =>
    rw [hB] at KC
    have hN : brN s f = 0 := by unfold brN; rw [hB]; rfl
    have hR : brR s f = ByteArray.empty := by unfold brR; rw [hB]; rfl
    rw [hN] at KC
    rw [hN, hR]
    clear hBe hNe hN hR hs
    go_enter Try.func21, Try.ntmps21
    go_wp2_with fail
    refine Calls.mono KI.out ?_
    rintro e w' ⟨rfl, hw⟩
    obtain rfl := hw.symm
    clear hw KI
    go_wp2_with fail
    refine Calls.mono (KA.out _) ?_
    rintro e w' ⟨rfl, hw⟩
    obtain rfl := hw.symm
    clear hw
    go_wp2_with fail
    refine Calls.mono KC.out ?_
    rintro e w1 ⟨v, rfl, _, b1⟩
    have KB : Hid (Below w.heap.size w (w1.alloc (.cells #[] 76))) := b1.alloc b1.size _
    clear b1 KC
    go_wp2
    go_ret3
    exact ⟨_, _, rfl, Rd.nil _ _ _ _ _ _, KB.out⟩
  | true =>
    rw [hB] at KC
    obtain ⟨N, HN⟩ : ∃ x, Hid (brN s f = x) := ⟨_, rfl⟩
    have hNl : 0 < N ∧ N ≤ 16 := by
      rw [← HN.out]
      unfold brN
      rw [hB]
      simp only [if_true]
      omega
    obtain ⟨hN0, hN16⟩ := hNl
    obtain ⟨R, HR⟩ : ∃ x, Hid (brR s f = x) := ⟨_, rfl⟩
    have HR0 : Hid (∀ i, (brP s f i).r = R) := fun i => by rw [← HR.out]; unfold brR; rw [hB]; exact brP_r s f i
    rw [HN.out] at KC
    rw [HN.out, HR.out]
    clear hBe hNe hs hB
    go_enter Try.func21, Try.ntmps21
    go_wp2_with fail
    refine Calls.mono KI.out ?_
    rintro e w' ⟨rfl, hw⟩
    obtain rfl := hw.symm
    clear hw KI
    go_wp2_with fail
    refine Calls.mono (KA.out _) ?_
    rintro e w' ⟨rfl, hw⟩
    obtain rfl := hw.symm
    clear hw
    go_wp2_with fail
    refine Calls.mono KC.out ?_
    rintro e w1 ⟨v, rfl, ⟨gP, cP, A, C, rfl, OP⟩, b1⟩
    have HX : Hid (∀ j q, j < N → q < 6 → w1.cell? ⟨gP, j * 6 + q, none⟩ = some (cel (brP s f j) (.slice (A j) (brP s f j).m (C j)) q)) := fun j q hj hq => OwnC.cell OP.1 hj hq
    have HTx : Hid (∀ j, j < N → TxtAt w1 (A j) (brP s f j).m (brP s f j).S) := fun j hj => OwnT.at (OP.2.1 j hj)
    have KB1 : Hid (Below w.heap.size w w1) := b1
    have lP := (World.ownsRow.lt OP.1 gP rfl).2
    have hNi : (0 : Int) < (N : Int) := by omega
    clear b1 KC OP
    go_wp2
    go_loopw [9, 10] (fun v9 v10 wr => ∃ j g cc : Nat, j ≤ N ∧ v10 = .int .i64 (j : Int) ∧ v9 = .slice (some ⟨g, 0, none⟩) j cc ∧ wr.ownsRow w1.heap.size 76 10 (.slice (some ⟨g, 0, none⟩) j cc) j (cL 10 (syc s f A C) j) ∧ Below w1.heap.size w1 wr) (fun _ v10 _ => N - (intOf v10).toNat)
    case atStart => exact ⟨0, w1.heap.size, 0, Nat.zero_le _, rfl, rfl, World.ownsRow_lit w1 #[] 0 (Nat.le_refl _) (by unfold maxLen; omega) (by simp), (Below.refl _ _).alloc (Nat.le_refl _) _⟩
    case round =>
      obtain ⟨j, g, cc, hj, rfl, rfl, hown, hbel⟩ := hrel
      by_cases hlt : j < N
      · have hji : (j : Int) < (N : Int) := by omega
        have KO : Hid (wr.ownsRow w1.heap.size 76 10 (.slice (some ⟨g, 0, none⟩) j cc) j (cL 10 (syc s f A C) j)) := hown
        have KB : Hid (Below w1.heap.size w1 wr) := hbel
        have hsz := hbel.size
        have lg := World.ownsRow.lt hown g rfl
        have HC : Hid (∀ q, q < 6 → wr.cell? ⟨gP, j * 6 + q, none⟩ = some (cel (brP s f j) (.slice (A j) (brP s f j).m (C j)) q)) := fun q hq => (hbel.cell (p := ⟨gP, j * 6 + q, none⟩) lP).trans (HX.out j q hlt hq)
        obtain ⟨pr, pk, pn, pi, pb, pm, pS, HP⟩ : ∃ r k n i b m S, Hid (brP s f j = ⟨r, k, n, i, b, m, S⟩) := ⟨_, _, _, _, _, _, _, rfl⟩
        have hrR : pr = R := by have := HR0.out j; rw [HP.out] at this; exact this
        have x0 := HC.out 0 (by omega)
        have x1 := HC.out 1 (by omega)
        have x2 := HC.out 2 (by omega)
        have x3 := HC.out 3 (by omega)
        have x4 := HC.out 4 (by omega)
        have x5 := HC.out 5 (by omega)
        rw [HP.out] at x0 x1 x2 x3 x4 x5
        simp only [cel, Nat.add_zero] at x0 x1 x2 x3 x4 x5
        have HE : Hid ((syC (brS s f j) (.slice (A j) (brP s f j).m (C j))).toList = [.int .i64 0, .int .i64 (-1), .int .i64 (j : Int), .string pr, .string pr, .int .i64 pk, .int .i64 pn, .int .i64 pi, .string pb, .slice (A j) pm (C j)]) := by
          show _ = _
          unfold brS
          rw [HP.out]
        obtain ⟨nw, HNW⟩ : ∃ x, Hid (x = (#[.int .i64 0, .int .i64 (-1), .int .i64 (j : Int), .string pr, .string pr, .int .i64 pk, .int .i64 pn, .int .i64 pi, .string pb, .slice (A j) pm (C j)] : Array Value)) := ⟨_, rfl⟩
        have KA2 : Hid ((wr.drew.alloc (.cells #[.int .i64 0, .int .i64 (-1), .int .i64 (j : Int), .string pr, .string pr, .int .i64 pk, .int .i64 pn, .int .i64 pi, .string pb, .slice (A j) pm (C j)] 76)).ownsRow w1.heap.size 76 10 (.slice (some ⟨g, 0, none⟩) j cc) j (cL 10 (syc s f A C) j)) := World.ownsRow.alloc (ownsRow_below KO.out (below_drew wr)) _
        have KW : Hid (∀ q u, [Value.int .i64 0, .int .i64 (-1), .int .i64 (j : Int), .string pr, .string pr, .int .i64 pk, .int .i64 pn, .int .i64 pi, .string pb, .slice (A j) pm (C j)][q]? = some u → (wr.drew.alloc (.cells #[.int .i64 0, .int .i64 (-1), .int .i64 (j : Int), .string pr, .string pr, .int .i64 pk, .int .i64 pn, .int .i64 pi, .string pb, .slice (A j) pm (C j)] 76)).cell? ((⟨wr.heap.size, 0, none⟩ : Addr).add q) = some u) := World.news_of_block (cs := #[.int .i64 0, .int .i64 (-1), .int .i64 (j : Int), .string pr, .string pr, .int .i64 pk, .int .i64 pn, .int .i64 pi, .string pb, .slice (A j) pm (C j)]) (t := 76) (fr := (0, 0)) (heap_alloc_new wr.drew _)
        have KG : Hid (Below w1.heap.size w1 (wr.drew.alloc (.cells #[.int .i64 0, .int .i64 (-1), .int .i64 (j : Int), .string pr, .string pr, .int .i64 pk, .int .i64 pn, .int .i64 pi, .string pb, .slice (A j) pm (C j)] 76))) := (KB.out.drew).alloc hsz _
        have lPr : gP < wr.heap.size := by omega
        clear hown hbel hrR HC
        go_wp2_with fail
        go_region_held3 (fun w' => w'.cell? ⟨gP, j * 6, none⟩ = some (.string pr) ∧ w'.cell? ⟨gP, j * 6 + 1, none⟩ = some (.int .i64 pk) ∧ w'.cell? ⟨gP, j * 6 + 2, none⟩ = some (.int .i64 pn) ∧ w'.cell? ⟨gP, j * 6 + 3, none⟩ = some (.int .i64 pi) ∧ w'.cell? ⟨gP, j * 6 + 4, none⟩ = some (.string pb) ∧ w'.cell? ⟨gP, j * 6 + 5, none⟩ = some (.slice (A j) pm (C j))) (go_keep) ((refine step_append_row _ (by rfl) _ _ _ (by rfl) w1.heap.size 76 i0 _ 10 120 Try.underlying48 hi hz0 hz1 hz2 rfl (by omega) g j cc (cL 10 (syc s f A C) j) (by rfl) ?_ ⟨wr.heap.size, 0, none⟩ 1 1 [.int .i64 0, .int .i64 (-1), .int .i64 (j : Int), .string pr, .string pr, .int .i64 pk, .int .i64 pn, .int .i64 pi, .string pb, .slice (A j) pm (C j)] (by rfl) (by rfl) ?_ (by simp [Value.oneCell']) (by unfold maxLen; omega) (by omega) (by simp; omega) ?_; exact KA2.out; exact KW.out; intro g3 cap3 w3 hown3 hgrow3; have KO3 : Hid (w3.ownsRow w1.heap.size 76 10 (.slice (some ⟨g3, 0, none⟩) (j + 1) cap3) (j + 1) (cL 10 (syc s f A C) j ++ [.int .i64 0, .int .i64 (-1), .int .i64 (j : Int), .string pr, .string pr, .int .i64 pk, .int .i64 pn, .int .i64 pi, .string pb, .slice (A j) pm (C j)])) := hown3; have KB3 : Hid (Below w1.heap.size w1 w3) := KG.out.grown hgrow3 (by simp; omega) (fun x hx => by cases hx; exact lg.1); have h3 := KB3.out; have z0 := (h3.cell (p := ⟨gP, j * 6, none⟩) lP).trans (HX.out j 0 hlt (by omega)); have z1 := (h3.cell (p := ⟨gP, j * 6 + 1, none⟩) lP).trans (HX.out j 1 hlt (by omega)); have z2 := (h3.cell (p := ⟨gP, j * 6 + 2, none⟩) lP).trans (HX.out j 2 hlt (by omega)); have z3 := (h3.cell (p := ⟨gP, j * 6 + 3, none⟩) lP).trans (HX.out j 3 hlt (by omega)); have z4 := (h3.cell (p := ⟨gP, j * 6 + 4, none⟩) lP).trans (HX.out j 4 hlt (by omega)); have z5 := (h3.cell (p := ⟨gP, j * 6 + 5, none⟩) lP).trans (HX.out j 5 hlt (by omega)); rw [HP.out] at z0 z1 z2 z3 z4 z5; simp only [cel] at z0 z1 z2 z3 z4 z5; clear hown3 hgrow3 h3))
        all_goals
          have HO : Hid (w3.ownsRow w1.heap.size 76 10 (.slice (some ⟨g3, 0, none⟩) (j + 1) cap3) (j + 1) (cL 10 (syc s f A C) (j + 1))) := by
            show World.ownsRow _ _ _ _ _ _ _
            rw [cL_snoc10, syc_lst, show (syC (brS s f j) (.slice (A j) (brP s f j).m (C j))).toList = [.int .i64 0, .int .i64 (-1), .int .i64 (j : Int), .string pr, .string pr, .int .i64 pk, .int .i64 pn, .int .i64 pi, .string pb, .slice (A j) pm (C j)] from HE.out]
            exact KO3.out
          clear KO3 KO KA2 KW KG KB x0 x1 x2 x3 x4 x5 z0 z1 z2 z3 z4 z5
          go_wp2
          go_roundw
          case rel => exact ⟨j + 1, g3, cap3, by omega, by go_num, rfl, HO.out, KB3.out⟩
          case measure => simp [intOf]; omega
      · obtain rfl : j = N := by omega
        have y0 := (hbel.cell (p := ⟨gP, 0, none⟩) lP).trans (HX.out 0 0 hN0 (by omega))
        simp only [cel] at y0
        rw [HR0.out 0] at y0
        have KR : Hid (Rd wr (sysD j (brS s f)) (.slice (some ⟨g, 0, none⟩) j cc)) := rd_says hown (fun i hi => (HTx.out i hi).below hbel)
        have KB2 : Hid (Below w.heap.size w wr) := below2 KB1.out hbel
        clear hown hbel
        go_wp2_with fail
        go_region
        all_goals
          go_wp2
          go_ret3
          exact ⟨_, _, rfl, KR.out.drew, KB2.out.drew⟩
def zcY : List Value := [.int .i64 0, .int .i64 0, .int .i64 0, .string ByteArray.empty, .string ByteArray.empty, .int .i64 0, .int .i64 0, .int .i64 0, .string ByteArray.empty, .slice none 0 0]
set_option maxHeartbeats 4000000 in
theorem bring_any (s : ByteArray) (f : Int) (w : World) (hs : s.size ≤ 1048576) :
    Calls Try.prog 22 #[.string s, .int .i64 f] w fun e w' => ∃ g cap, e = .returned (.tuple #[.slice (some ⟨g, 0, none⟩) (brN s f) cap, .string (brR s f), .bool (brB s f)]) ∧ Ow w' w.heap.size (sysD (brN s f) (brS s f)) (.slice (some ⟨g, 0, none⟩) (brN s f) cap) (rng w.heap.size w'.heap.size) ∧ Below w.heap.size w w' := by
  obtain ⟨i0, hi, hz0, hz1, hz2⟩ := info_parts Try.infoSyZ
  have KI : Hid (Calls Try.prog 48 #[.int .i64 f] w fun e w' => e = .returned (.bool (fB f)) ∧ w' = w) := isF_any f w
  have HNil : Hid (∀ (W : World) (S : Nat → Sy), w.heap.size ≤ W.heap.size → Ow (W.alloc (.cells #[] 76)) w.heap.size (sysD 0 S) (.slice (some ⟨W.heap.size, 0, none⟩) 0 0) (rng w.heap.size (W.alloc (.cells #[] 76)).heap.size)) := fun W S hW => by
    refine ⟨_, 0, fun _ _ => undef, fun _ _ _ => False, rfl, World.ownsRow_lit W #[] 0 hW (by unfold maxLen; omega) (by simp), ⟨fun x e => by cases e; exact ⟨hW, by simp⟩, fun _ _ _ hi => absurd hi (Nat.not_lt_zero _), fun _ _ _ hi => absurd hi (Nat.not_lt_zero _), fun _ _ _ _ _ hi => absurd hi (Nat.not_lt_zero _)⟩, fun _ _ hi => absurd hi (Nat.not_lt_zero _)⟩
  by_cases hf : 1 ≤ f ∧ f ≤ 3
  case neg =>
    have i1 : fB f = false := decide_eq_false hf
    rw [i1] at KI
    have hB : brB s f = false := by unfold brB; rw [i1]; rfl
    have hN : brN s f = 0 := by unfold brN; rw [hB]; rfl
    have hR : brR s f = ByteArray.empty := by unfold brR; rw [hB]; rfl
    rw [hN, hR, hB]
    have KB : Hid (Below w.heap.size w (w.alloc (.cells #[] 76))) := (Below.refl _ _).alloc (Nat.le_refl _) _
    have KN : Hid _ := HNil.out w (brS s f) (Nat.le_refl _)
    clear hs hN hR hB
    go_enter Try.func22, Try.ntmps22
    go_wp2_with fail
    refine Calls.mono KI.out ?_
    rintro e w' ⟨rfl, hw⟩
    obtain rfl := hw.symm
    clear hw KI
    go_wp2
    go_ret3
    exact ⟨_, _, rfl, KN.out, KB.out⟩
  have i1 : fB f = true := decide_eq_true hf
  rw [i1] at KI
  have KP : Hid (∀ W, Calls Try.prog 50 #[.int .i64 f] W fun e w' => e = .returned (.int .i64 (f + 1)) ∧ w' = W) := fun W => pieceNeed_any f W hf
  have KA : Hid (∀ W, Calls Try.prog 51 #[.int .i64 f] W fun e w' => e = .returned (.int .i64 (3 * f + 1)) ∧ w' = W) := fun W => nodeCount_any f W hf
  have hBe : brB s f = encOk s (f + 1) (3 * f + 1) := by unfold brB; rw [i1]; rfl
  have KC : Hid (Calls Try.prog 49 #[.string s, .int .i64 (f + 1), .int .i64 (3 * f + 1)] w fun e w' => ∃ v, e = .returned (.tuple #[v, .bool (brB s f)]) ∧ ResP w w' v (cutR s (f + 1) (3 * f + 1)) (brP s f) ∧ Below w.heap.size w w') := by
    have := pcut_any s (f + 1) (3 * f + 1) w hs
    rw [← hBe] at this
    exact this
  have hNe : cutR s (f + 1) (3 * f + 1) = brN s f := by unfold cutR brN; rw [hBe]
  rw [hNe] at KC
  obtain ⟨k1, HK1⟩ : ∃ x, Hid (f + 1 = x) := ⟨_, rfl⟩
  obtain ⟨n1, HN1⟩ : ∃ x, Hid (3 * f + 1 = x) := ⟨_, rfl⟩
  rw [HK1.out] at KP KC
  rw [HN1.out] at KA KC
  cases hB : brB s f with
  | false =>
    rw [hB] at KC
    have hN : brN s f = 0 := by unfold brN; rw [hB]; rfl
    have hR : brR s f = ByteArray.empty := by unfold brR; rw [hB]; rfl
    rw [hN] at KC
    rw [hN, hR]
    clear hBe hNe hN hR hs
    go_enter Try.func22, Try.ntmps22
    go_wp2_with fail
    refine Calls.mono KI.out ?_
    rintro e w' ⟨rfl, hw⟩
    obtain rfl := hw.symm
    clear hw KI
    go_wp2_with fail
    refine Calls.mono (KP.out _) ?_
    rintro e w' ⟨rfl, hw⟩
    obtain rfl := hw.symm
    clear hw
    go_wp2_with fail
    refine Calls.mono (KA.out _) ?_
    rintro e w' ⟨rfl, hw⟩
    obtain rfl := hw.symm
    clear hw
    go_wp2_with fail
    refine Calls.mono KC.out ?_
    rintro e w1 ⟨v, rfl, _, b1⟩
    have KB : Hid (Below w.heap.size w (w1.alloc (.cells #[] 76))) := b1.alloc b1.size _
    have KN : Hid _ := HNil.out w1 (brS s f) b1.size
    clear b1 KC
    go_wp2
    go_ret3
    exact ⟨_, _, rfl, KN.out, KB.out⟩
  | true =>
    rw [hB] at KC
    obtain ⟨N, HN⟩ : ∃ x, Hid (brN s f = x) := ⟨_, rfl⟩
    have hNl : 0 < N ∧ N ≤ 16 := by
      rw [← HN.out]
      unfold brN
      rw [hB]
      simp only [if_true]
      omega
    obtain ⟨hN0, hN16⟩ := hNl
    obtain ⟨R, HR⟩ : ∃ x, Hid (brR s f = x) := ⟨_, rfl⟩
    have HR0 : Hid (∀ i, (brP s f i).r = R) := fun i => by rw [← HR.out]; unfold brR; rw [hB]; exact brP_r s f i
    have hRs : R.size ≤ 1048576 := by
      rw [← HR0.out 0]
      show (rtS _ _).size ≤ _
      unfold rtS
      split
      · rename_i hlv
        have := lvB_parts hlv
        rw [Gt.rt_size (by omega) this.2.2]
        omega
      · decide
    have KCl : Hid (∀ W, Calls Try.prog 52 #[.string R] W fun e w' => e = .returned (.string R) ∧ Below W.heap.size W w') := fun W => clone_any R W (by omega)
    rw [HN.out] at KC
    rw [HN.out, HR.out]
    clear hBe hNe hs hB
    go_enter Try.func22, Try.ntmps22
    go_wp2_with fail
    refine Calls.mono KI.out ?_
    rintro e w' ⟨rfl, hw⟩
    obtain rfl := hw.symm
    clear hw KI
    go_wp2_with fail
    refine Calls.mono (KP.out _) ?_
    rintro e w' ⟨rfl, hw⟩
    obtain rfl := hw.symm
    clear hw
    go_wp2_with fail
    refine Calls.mono (KA.out _) ?_
    rintro e w' ⟨rfl, hw⟩
    obtain rfl := hw.symm
    clear hw
    go_wp2_with fail
    refine Calls.mono KC.out ?_
    rintro e w1 ⟨v, rfl, ⟨gP, cP, A, C, rfl, OP⟩, b1⟩
    have HX : Hid (∀ j q, j < N → q < 6 → w1.cell? ⟨gP, j * 6 + q, none⟩ = some (cel (brP s f j) (.slice (A j) (brP s f j).m (C j)) q)) := fun j q hj hq => OwnC.cell OP.1 hj hq
    have KOP : Hid (OwnP w1 w.heap.size (some ⟨gP, 0, none⟩) N cP A C (brP s f)) := OP
    have KB1 : Hid (Below w.heap.size w w1) := b1
    have lP := (World.ownsRow.lt OP.1 gP rfl).2
    have hNi : (0 : Int) < (N : Int) := by omega
    clear b1 KC OP
    go_wp2_with (at_make; refine wpList_make_full _ rfl _ _ 48 rfl w1.heap.size 76 i0 _ 10 Try.underlying48 hi hz0 hz1 .i64 .i64 _ _ N rfl rfl rfl rfl (by rw [hz2]; omega) (by unfold maxLen; omega) (Nat.le_refl _) ?_; intro w2 hown hgrow)
    have hb2 : Below w1.heap.size w1 w2 := (Below.refl _ _).grown hgrow (Nat.le_refl _) (by simp)
    obtain ⟨G, HG⟩ : ∃ x, Hid (x = w1.heap.size) := ⟨_, rfl⟩
    have ho2 : w2.ownsRow w1.heap.size 76 10 (.slice (some ⟨G, 0, none⟩) N N) N (cL 10 (fun i q => if i < 0 then syc s f A C i q else zcY.getD q undef) N) := by
      have e : (madeCells (Value.agg zcY.toArray).cells (N * 10)).toList = cL 10 (fun _ q => zcY.getD q undef) N := made_cL (zs := zcY) (by simp [zcY])
      have e2 : cL 10 (fun i q => if i < 0 then syc s f A C i q else zcY.getD q undef) N = cL 10 (fun _ q => zcY.getD q undef) N := cL_congr (fun i q _ _ => by simp)
      rw [e2, ← e, HG.out]
      exact hown
    rw [← HG.out]
    have hGw : w1.heap.size ≤ G := by rw [HG.out]; exact Nat.le_refl _
    have hGP : gP < G := by rw [HG.out]; exact lP
    clear hown hgrow
    go_loopw [33] (fun v33 wr => ∃ j : Nat, j ≤ N ∧ v33 = .int .i64 (j : Int) ∧ wr.ownsRow w1.heap.size 76 10 (.slice (some ⟨G, 0, none⟩) N N) N (cL 10 (fun i q => if i < j then syc s f A C i q else zcY.getD q undef) N) ∧ Below w1.heap.size w1 wr) (fun v33 _ => N - (intOf v33).toNat)
    case atStart => exact ⟨0, Nat.zero_le _, rfl, ho2, hb2⟩
    case round =>
      obtain ⟨j, hj, rfl, hown, hbel⟩ := hrel
      clear ho2 hb2
      by_cases hlt : j < N
      · have hji : (j : Int) < (N : Int) := by omega
        have KO : Hid (wr.ownsRow w1.heap.size 76 10 (.slice (some ⟨G, 0, none⟩) N N) N (cL 10 (fun i q => if i < j then syc s f A C i q else zcY.getD q undef) N)) := hown
        have KB : Hid (Below w1.heap.size w1 wr) := hbel
        have hsz := hbel.size
        have lG := (World.ownsRow.lt hown G rfl).2
        have HC : Hid (∀ q, q < 6 → wr.cell? ⟨gP, j * 6 + q, none⟩ = some (cel (brP s f j) (.slice (A j) (brP s f j).m (C j)) q)) := fun q hq => (hbel.cell (p := ⟨gP, j * 6 + q, none⟩) lP).trans (HX.out j q hlt hq)
        obtain ⟨pr, pk, pn, pi, pb, pm, pS, HP⟩ : ∃ r k n i b m S, Hid (brP s f j = ⟨r, k, n, i, b, m, S⟩) := ⟨_, _, _, _, _, _, _, rfl⟩
        obtain rfl : R = pr := by have := HR0.out j; rw [HP.out] at this; exact this.symm
        have x0 := HC.out 0 (by omega)
        have x1 := HC.out 1 (by omega)
        have x2 := HC.out 2 (by omega)
        have x3 := HC.out 3 (by omega)
        have x4 := HC.out 4 (by omega)
        have x5 := HC.out 5 (by omega)
        rw [HP.out] at x0 x1 x2 x3 x4 x5
        simp only [cel, Nat.add_zero] at x0 x1 x2 x3 x4 x5
        have HE : Hid ((syC (brS s f j) (.slice (A j) (brP s f j).m (C j))).toList = [.int .i64 0, .int .i64 (-1), .int .i64 (j : Int), .string R, .string R, .int .i64 pk, .int .i64 pn, .int .i64 pi, .string pb, .slice (A j) pm (C j)]) := by
          show _ = _
          unfold brS
          rw [HP.out]
        obtain ⟨V, HV⟩ : ∃ x, Hid (x = wr.heap.size) := ⟨_, rfl⟩
        obtain ⟨wv, HWV⟩ : ∃ x, Hid (x = wr.alloc (.cells (pcC R pk pn pi pb (.slice (A j) pm (C j))) 39)) := ⟨_, rfl⟩
        have RV : Hid (Row wv V 39 (pcC R pk pn pi pb (.slice (A j) pm (C j)))) := by show Row _ _ _ _; rw [HWV.out, HV.out]; exact Row.new wr _ _
        have bv : Below wr.heap.size wr wv := by rw [HWV.out]; exact (Below.refl _ _).alloc (Nat.le_refl _) _
        have lV : V < wv.heap.size := RV.out.lt
        have KOv : Hid (wv.ownsRow w1.heap.size 76 10 (.slice (some ⟨G, 0, none⟩) N N) N (cL 10 (fun i q => if i < j then syc s f A C i q else zcY.getD q undef) N)) := ownsRow_below hown bv
        have KBv : Hid (Below w1.heap.size w1 wv) := below2 hbel bv
        have hGV : Hid (V ≠ G) := by have := HV.out; show V ≠ G; omega
        have KS : Hid (∀ W, Row W V 39 (pcC R pk pn pi pb (.slice (A j) pm (C j))) → W.cell? ⟨V, 0, none⟩ = some (.string R) ∧ W.cell? ⟨V, 1, none⟩ = some (.int .i64 pk) ∧ W.cell? ⟨V, 2, none⟩ = some (.int .i64 pn) ∧ W.cell? ⟨V, 3, none⟩ = some (.int .i64 pi) ∧ W.cell? ⟨V, 4, none⟩ = some (.string pb) ∧ W.cell? ⟨V, 5, none⟩ = some (.slice (A j) pm (C j))) := fun W hW => ⟨hW.cell 0, hW.cell 1, hW.cell 2, hW.cell 3, hW.cell 4, hW.cell 5⟩
        have rv0 : Row wv.drew V 39 (pcC R pk pn pi pb (.slice (A j) pm (C j))) := RV.out.drew
        have KTH : Hid (∀ W, Below wv.heap.size wv W → W.there G (j * 10) 10 ∧ W.ownsRow w1.heap.size 76 10 (.slice (some ⟨G, 0, none⟩) N N) N (cL 10 (fun i q => if i < j then syc s f A C i q else zcY.getD q undef) N) ∧ Row W V 39 (pcC R pk pn pi pb (.slice (A j) pm (C j))) ∧ Below w1.heap.size w1 W) := fun W hW => by
          have o := ownsRow_below KOv.out hW
          refine ⟨fun q hq => ⟨?_, World.ownsRow.frozenAt o _⟩, o, RV.out.below hW lV, below2 KBv.out hW⟩
          rw [World.ownsRow.cellAt o _ (mid_lt hlt hq), cL_get _ _ _ _ _ hlt hq]
          rfl
        have KTC : Hid (∀ W, Below wv.heap.size wv W → W.cell? ⟨G, j * 10, none⟩ = some (zcY.getD 0 undef) ∧ (∀ q, q < 10 → W.cell? ⟨G, j * 10 + q, none⟩ = some (zcY.getD q undef)) ∧ W.frozen? ⟨G, j * 10, none⟩ = false ∧ ∀ q, W.frozen? ⟨G, j * 10 + q, none⟩ = false) := fun W hW => by
          have o := ownsRow_below KOv.out hW
          have k : ∀ q, q < 10 → W.cell? ⟨G, j * 10 + q, none⟩ = some (zcY.getD q undef) := fun q hq => by
            rw [World.ownsRow.cellAt o _ (mid_lt hlt hq), cL_get _ _ _ _ _ hlt hq]
            simp
          exact ⟨k 0 (by omega), k, World.ownsRow.frozenAt o _, fun q => World.ownsRow.frozenAt o _⟩
        clear hown hbel HC bv
        go_wp2_with fail
        rw [← HWV.out, ← HV.out]
        go_region_held3 (fun w' => w'.cell? ⟨V, 0, none⟩ = some (.string R) ∧ w'.cell? ⟨V, 1, none⟩ = some (.int .i64 pk) ∧ w'.cell? ⟨V, 2, none⟩ = some (.int .i64 pn) ∧ w'.cell? ⟨V, 3, none⟩ = some (.int .i64 pi) ∧ w'.cell? ⟨V, 4, none⟩ = some (.string pb) ∧ w'.cell? ⟨V, 5, none⟩ = some (.slice (A j) pm (C j))) (exact KS.out _ (by with_reducible assumption)) (((go_at_call 52; refine Calls.mono (KCl.out _) ?_; rintro e w7 ⟨rfl, b7'⟩; have b7 := below_of_drew b7'; clear b7' rv0; have rv7 := (KTH.out _ b7).2.2.1; have tc0 := (KTC.out _ b7).1; have tc := (KTC.out _ b7).2.1; have tf0 := (KTC.out _ b7).2.2.1; have tf := (KTC.out _ b7).2.2.2; have rv8 : Row ((((((((((w7.setCell ⟨G, j * 10, none⟩ (.int .i64 0)).setCell ⟨G, j * 10 + 1, none⟩ (.int .i64 (-1))).setCell ⟨G, j * 10 + 2, none⟩ (.int .i64 (j : Int))).setCell ⟨G, j * 10 + 3, none⟩ (.string R)).setCell ⟨G, j * 10 + 4, none⟩ (.string R)).setCell ⟨G, j * 10 + 5, none⟩ (.int .i64 pk)).setCell ⟨G, j * 10 + 6, none⟩ (.int .i64 pn)).setCell ⟨G, j * 10 + 7, none⟩ (.int .i64 pi)).setCell ⟨G, j * 10 + 8, none⟩ (.string pb)).setCell ⟨G, j * 10 + 9, none⟩ (.slice (A j) pm (C j))) V 39 (pcC R pk pn pi pb (.slice (A j) pm (C j))) := (heap_setCells_other G [.int .i64 0, .int .i64 (-1), .int .i64 (j : Int), .string R, .string R, .int .i64 pk, .int .i64 pn, .int .i64 pi, .string pb, .slice (A j) pm (C j)] (j * 10) w7 V hGV.out).trans rv7)))
        all_goals
          have HO : Hid ((w7.setCells G (j * 10) [.int .i64 0, .int .i64 (-1), .int .i64 (j : Int), .string R, .string R, .int .i64 pk, .int .i64 pn, .int .i64 pi, .string pb, .slice (A j) pm (C j)]).ownsRow w1.heap.size 76 10 (.slice (some ⟨G, 0, none⟩) N N) N (cL 10 (fun i q => if i < j + 1 then syc s f A C i q else zcY.getD q undef) N)) := by
            have h1 := own_setCells hlt [.int .i64 0, .int .i64 (-1), .int .i64 (j : Int), .string R, .string R, .int .i64 pk, .int .i64 pn, .int .i64 pi, .string pb, .slice (A j) pm (C j)] 0 w7 _ rfl (KTH.out _ b7).2.1
            rw [Nat.add_zero] at h1
            have e : cL 10 (fun i q => if i < j + 1 then syc s f A C i q else zcY.getD q undef) N = cL 10 (fun i' q' => if i' = j ∧ 0 ≤ q' then ([.int .i64 0, .int .i64 (-1), .int .i64 (j : Int), .string R, .string R, .int .i64 pk, .int .i64 pn, .int .i64 pi, .string pb, .slice (A j) pm (C j)] : List Value).getD (q' - 0) undef else if i' < j then syc s f A C i' q' else zcY.getD q' undef) N := cL_congr fun i q _ _ => by
              by_cases ei : i = j
              · subst ei
                rw [if_pos (show i < i + 1 by omega), if_pos ⟨rfl, Nat.zero_le _⟩, ← HE.out]
                rfl
              · by_cases e2 : i < j
                · rw [if_pos (by omega), if_neg (fun h => ei h.1), if_pos e2]
                · rw [if_neg (by omega), if_neg (fun h => ei h.1), if_neg e2]
            show World.ownsRow _ _ _ _ _ _ _
            rw [e]
            exact h1
          have KBn : Hid (Below w1.heap.size w1 (w7.setCells G (j * 10) [.int .i64 0, .int .i64 (-1), .int .i64 (j : Int), .string R, .string R, .int .i64 pk, .int .i64 pn, .int .i64 pi, .string pb, .slice (A j) pm (C j)])) := below_setCells (KTH.out _ b7).2.2.2 hGw _ _
          clear rv8 rv7 b7 KTH KTC KS tc0 tc tf0 tf x0 x1 x2 x3 x4 x5
          go_wp2
          go_roundw
          case rel => exact ⟨j + 1, by omega, by go_num, HO.out, KBn.out⟩
          case measure => simp [intOf]; omega
      · obtain rfl : j = N := by omega
        have y0 := (hbel.cell (p := ⟨gP, 0, none⟩) lP).trans (HX.out 0 0 hN0 (by omega))
        simp only [cel] at y0
        rw [HR0.out 0] at y0
        have hO : wr.ownsRow w1.heap.size 76 10 (.slice (some ⟨G, 0, none⟩) j j) j (cL 10 (syc s f A C) j) := by
          have e : cL 10 (fun i q => if i < j then syc s f A C i q else zcY.getD q undef) j = cL 10 (syc s f A C) j := cL_congr (fun i q hi _ => if_pos hi)
          rw [← e]
          exact hown
        have lGr := (World.ownsRow.lt hO G rfl).2
        have hw1 := KB1.out.size
        have KF : Hid (∀ W, Below wr.heap.size wr W → Ow W w.heap.size (sysD j (brS s f)) (.slice (some ⟨G, 0, none⟩) j j) (rng w.heap.size W.heap.size)) := fun W hW => by
          have hs2 := hW.size
          have hs1 := hbel.size
          refine ow_says (A := A) (C := C) (own_base (ownsRow_below hO hW) hw1) (fun i hi => OwnT.below (OwnT.below (KOP.out.2.1 i hi) hbel) hW) KOP.out.2.2.1 (fun i x hi e => ?_) ⟨by omega, by omega⟩ (fun i x hi e => ?_)
          · have ho := KOP.out.2.1 i hi
            rw [e] at ho
            have := (World.ownsRow.lt ho x.block rfl).2
            omega
          · have ho := KOP.out.2.1 i hi
            rw [e] at ho
            have := World.ownsRow.lt ho x.block rfl
            exact ⟨this.1, by omega⟩
        have KB2 : Hid (Below w.heap.size w wr) := below2 KB1.out hbel
        clear hown hbel hO
        go_wp2_with fail
        refine Calls.mono (KCl.out _) ?_
        rintro e w8 ⟨rfl, b8⟩
        have KF8 : Hid _ := KF.out w8 b8
        have KB8 : Hid (Below w.heap.size w w8) := below2 KB2.out b8
        clear b8 y0
        go_wp2
        go_ret3
        exact ⟨_, _, rfl, KF8.out, KB8.out⟩
end Go.Proofs.Ytcnigfejpfcfaaa
