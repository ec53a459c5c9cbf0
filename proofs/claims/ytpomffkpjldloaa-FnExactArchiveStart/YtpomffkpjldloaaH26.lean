/- A new node, in the program and in the model; a node's F and number. No condition. -/
import Derived.Test.YtpomffkpjldloaaH25
import Derived.Test.YtpomffkpjldloaaH24
namespace Go.Proofs.Ytpomffkpjldloaa
set_option maxRecDepth 2000
open Go.ChangeShapes Go.WideShapes Go.ChangeAt Go.RowKit

/-- F and the number are so. -/
def seB (id f : Int) : Bool := decide (1 ≤ f ∧ f ≤ 3 ∧ 0 ≤ id ∧ id < 3 * f + 1)
def fB (f : Int) : Bool := decide (1 ≤ f ∧ f ≤ 3)
abbrev ndV (id f : Int) (v : Value) : Value := .agg #[.int .i64 id, .int .i64 f, v]
theorem three_wrap {f : Int} (h : 1 ≤ f ∧ f ≤ 3) : IntKind.i64.wrap (3 * f) = 3 * f ∧ IntKind.i64.wrap (3 * f + 1) = 3 * f + 1 := by
  constructor <;> (rw [IntKind.wrap_i64]; omega)
set_option maxHeartbeats 1000000 in
theorem isF_any (f : Int) (w : World) : Calls Try.prog 26 #[.int .i64 f] w fun e w' => e = .returned (.bool (fB f)) ∧ w' = w := by
  by_cases h1 : 1 ≤ f
  · by_cases h2 : f ≤ 3
    · have e : fB f = true := decide_eq_true ⟨h1, h2⟩
      rw [e]
      go_enter Try.func26, Try.ntmps26
      go_wp2
      go_ret
      exact ⟨rfl, rfl⟩
    · have e : fB f = false := decide_eq_false (fun h => h2 h.2)
      rw [e]
      go_enter Try.func26, Try.ntmps26
      go_wp2
      go_ret
      exact ⟨rfl, rfl⟩
  · have e : fB f = false := decide_eq_false (fun h => h1 h.1)
    rw [e]
    go_enter Try.func26, Try.ntmps26
    go_wp2
    go_ret
    exact ⟨rfl, rfl⟩
theorem nodeCount_any (f : Int) (w : World) (h : 1 ≤ f ∧ f ≤ 3) : Calls Try.prog 28 #[.int .i64 f] w fun e w' => e = .returned (.int .i64 (3 * f + 1)) ∧ w' = w := by
  obtain ⟨e1, e2⟩ := three_wrap h
  go_enter Try.func28, Try.ntmps28
  go_wp2
  go_ret
  exact ⟨rfl, rfl⟩
theorem sAllN_any (f : Int) (w : World) (h : 1 ≤ f ∧ f ≤ 3) : Calls Try.prog 25 #[.int .i64 f] w fun e w' => e = .returned (.int .i64 (3 * f + 1)) ∧ w' = w := by
  obtain ⟨e1, e2⟩ := three_wrap h
  go_enter Try.func25, Try.ntmps25
  go_wp2
  go_ret
  exact ⟨rfl, rfl⟩
set_option maxHeartbeats 1000000 in
theorem knows_any (id f x : Int) (v : Value) (w : World) (h : 1 ≤ f ∧ f ≤ 3) : Calls Try.prog 49 #[ndV id f v, .int .i64 x] w fun e w' => e = .returned (.bool (decide (0 ≤ x ∧ x < 3 * f + 1))) ∧ Below w.heap.size w w' := by
  have KN : Hid (∀ W, Calls Try.prog 28 #[.int .i64 f] W fun e w' => e = .returned (.int .i64 (3 * f + 1)) ∧ w' = W) := fun W => nodeCount_any f W h
  have KB : Hid (Below w.heap.size w (w.alloc (.cells #[.int .i64 id, .int .i64 f, v] 52))) := (Below.refl _ _).alloc (Nat.le_refl _) _
  obtain ⟨m, HM⟩ : ∃ m, Hid (3 * f + 1 = m) := ⟨_, rfl⟩
  rw [HM.out] at KN ⊢
  by_cases h1 : 0 ≤ x
  · have h1' : x ≥ 0 := h1
    by_cases h2 : x < m
    · have e : decide (0 ≤ x ∧ x < m) = true := decide_eq_true ⟨h1, h2⟩
      rw [e]
      go_enter Try.func49, Try.ntmps49
      go_wp2_with (go_at_call 28; refine Calls.mono (KN.out _) ?_; rintro e w' ⟨rfl, hw⟩; obtain rfl := hw.symm; clear hw)
      go_ret
      exact ⟨rfl, KB.out⟩
    · have e : decide (0 ≤ x ∧ x < m) = false := decide_eq_false (fun h => h2 h.2)
      rw [e]
      go_enter Try.func49, Try.ntmps49
      go_wp2_with (go_at_call 28; refine Calls.mono (KN.out _) ?_; rintro e w' ⟨rfl, hw⟩; obtain rfl := hw.symm; clear hw)
      go_ret
      exact ⟨by simp [h2], KB.out⟩
  · have h1' : ¬ x ≥ 0 := h1
    have e : decide (0 ≤ x ∧ x < m) = false := decide_eq_false (fun h => h1 h.1)
    rw [e]
    go_enter Try.func49, Try.ntmps49
    go_wp2_with (go_at_call 28; refine Calls.mono (KN.out _) ?_; rintro e w' ⟨rfl, hw⟩; obtain rfl := hw.symm; clear hw)
    go_ret
    exact ⟨rfl, KB.out⟩
set_option maxHeartbeats 1000000 in
theorem isSeated_any (id f : Int) (v : Value) (w : World) : Calls Try.prog 42 #[ndV id f v] w fun e w' => e = .returned (.bool (seB id f)) ∧ Below w.heap.size w w' := by
  obtain ⟨w0, HW0⟩ : ∃ x, Hid (x = w.alloc (.cells #[.int .i64 id, .int .i64 f, v] 52)) := ⟨_, rfl⟩
  have KB : Hid (Below w.heap.size w w0) := by show Below _ _ _; rw [HW0.out]; exact (Below.refl _ _).alloc (Nat.le_refl _) _
  obtain ⟨A, HA⟩ : ∃ x, Hid (x = w.heap.size) := ⟨_, rfl⟩
  have HR : Hid (Row w0 A 52 #[.int .i64 id, .int .i64 f, v]) := by show Row _ _ _ _; rw [HW0.out, HA.out]; exact Row.new w _ _
  have KF : Hid (∀ W, Calls Try.prog 26 #[.int .i64 f] W fun e w' => e = .returned (.bool (fB f)) ∧ w' = W) := isF_any f
  by_cases hf : 1 ≤ f ∧ f ≤ 3
  · have e : fB f = true := decide_eq_true hf
    have HE : Hid (decide (0 ≤ id ∧ id < 3 * f + 1) = seB id f) := by
      show _ = _
      unfold seB
      simp [hf.1, hf.2]
    have KK : Hid (Calls Try.prog 49 #[ndV id f v, .int .i64 id] w0 fun e w' => e = .returned (.bool (seB id f)) ∧ Below w0.heap.size w0 w') := by
      have := knows_any id f id v w0 hf
      rw [HE.out] at this
      exact this
    rw [e] at KF
    have x0 := HR.out.cell 0
    have x1 := HR.out.cell 1
    have x2 := HR.out.cell 2
    simp at x0 x1 x2
    go_enter Try.func42, Try.ntmps42
    go_wp2_with fail
    rw [← HW0.out, ← HA.out]
    refine Calls.mono (KF.out _) ?_
    rintro e w' ⟨rfl, hw⟩
    obtain rfl := hw.symm
    clear hw
    go_wp2_with fail
    refine Calls.mono KK.out ?_
    rintro e w1 ⟨rfl, b1⟩
    go_wp2
    go_ret
    exact ⟨rfl, below2 KB.out b1⟩
  · have e : fB f = false := decide_eq_false hf
    have e2 : seB id f = false := decide_eq_false (fun h => hf ⟨h.1, h.2.1⟩)
    rw [e] at KF
    rw [e2]
    go_enter Try.func42, Try.ntmps42
    go_wp2_with fail
    rw [← HW0.out, ← HA.out]
    refine Calls.mono (KF.out _) ?_
    rintro e w' ⟨rfl, hw⟩
    obtain rfl := hw.symm
    clear hw
    go_wp2
    go_ret
    exact ⟨rfl, KB.out⟩
set_option maxHeartbeats 1000000 in
theorem nodeStart_any (id f : Int) (w : World) : Calls Try.prog 30 #[.int .i64 id, .int .i64 f] w fun e w' => ∃ a : Option Addr, e = .returned (.tuple #[ndV (if seB id f then id else 0) (if seB id f then f else 0) (.slice a 0 0), .bool (seB id f)]) ∧ w'.ownsRow w.heap.size 82 13 (.slice a 0 0) 0 [] ∧ Below w.heap.size w w' := by
  obtain ⟨D, HD⟩ : ∃ x, Hid (x = w.heap.size) := ⟨_, rfl⟩
  obtain ⟨G, HG⟩ : ∃ x, Hid (x = w.heap.size + 1) := ⟨_, rfl⟩
  obtain ⟨V, HV⟩ : ∃ x, Hid (x = w.heap.size + 1 + 1) := ⟨_, rfl⟩
  obtain ⟨w0, HW0⟩ : ∃ x, Hid (x = ((w.alloc (.cells #[.int .i64 0, .int .i64 0, .slice none 0 0] 52)).alloc (.cells #[] 82)).alloc (.cells #[.int .i64 id, .int .i64 f, .slice (some ⟨G, 0, none⟩) 0 0] 52)) := ⟨_, rfl⟩
  have RD : Hid (Row w0 D 52 #[.int .i64 0, .int .i64 0, .slice none 0 0]) := by show Row _ _ _ _; rw [HW0.out, HD.out]; exact Row.alloc (Row.alloc (Row.new w _ _) _) _
  have RV : Hid (Row w0 V 52 #[.int .i64 id, .int .i64 f, .slice (some ⟨G, 0, none⟩) 0 0]) := by
    show Row _ _ _ _
    rw [HW0.out, HV.out, HG.out]
    have := Row.new ((w.alloc (.cells #[.int .i64 0, .int .i64 0, .slice none 0 0] 52)).alloc (.cells #[] 82)) #[.int .i64 id, .int .i64 f, .slice (some ⟨w.heap.size + 1, 0, none⟩) 0 0] 52
    simpa using this
  have OG : Hid (w0.ownsRow w.heap.size 82 13 (.slice (some ⟨G, 0, none⟩) 0 0) 0 []) := by
    show World.ownsRow _ _ _ _ _ _ _
    rw [HW0.out, HG.out]
    have := World.ownsRow_lit (e := 82) (size := 13) (base := w.heap.size) (w.alloc (.cells #[.int .i64 0, .int .i64 0, .slice none 0 0] 52)) #[] 0 (by simp) (by unfold maxLen; omega) (by simp)
    have := World.ownsRow.alloc this (.cells #[.int .i64 id, .int .i64 f, .slice (some ⟨w.heap.size + 1, 0, none⟩) 0 0] 52)
    simpa using this
  have b0 : Below w.heap.size w w0 := by rw [HW0.out]; exact (((Below.refl _ _).alloc (Nat.le_refl _) _).alloc (by simp) _).alloc (by simp; omega) _
  have hDw : w.heap.size ≤ D := by rw [HD.out]; exact Nat.le_refl _
  have hGD : Hid (G ≠ D) := by have := HG.out; have := HD.out; show G ≠ D; omega
  have KB0 : Hid (Below w.heap.size w w0) := b0
  have lD := RD.out.lt
  have KS : Hid _ := isSeated_any id f (.slice (some ⟨G, 0, none⟩) 0 0) w0
  have y0 := RV.out.cell 0
  have y1 := RV.out.cell 1
  have y2 := RV.out.cell 2
  simp at y0 y1 y2
  cases hse : seB id f with
  | true =>
    rw [hse] at KS
    clear b0
    go_enter Try.func30, Try.ntmps30
    go_wp2_with fail
    rw [← HV.out, ← HG.out, ← HW0.out, ← HD.out]
    refine Calls.mono KS.out ?_
    rintro e w1 ⟨rfl, b1⟩
    have R1 := RD.out.below b1 lD
    have V1 := RV.out.below b1 RV.out.lt
    have x0 := R1.cell 0
    have x1 := R1.cell 1
    have x2 := R1.cell 2
    have f0 := R1.free 0
    have f1 := R1.free 1
    have f2 := R1.free 2
    have z0 := V1.cell 0
    have z1 := V1.cell 1
    have z2 := V1.cell 2
    simp at x0 x1 x2 z0 z1 z2
    have HR3 : Hid (Row (((w1.setCell ⟨D, 0, none⟩ (.int .i64 id)).setCell ⟨D, 1, none⟩ (.int .i64 f)).setCell ⟨D, 2, none⟩ (.slice (some ⟨G, 0, none⟩) 0 0)) D 52 #[.int .i64 id, .int .i64 f, .slice (some ⟨G, 0, none⟩) 0 0]) := ((R1.set 0 _).set 1 _).set 2 _
    have HB3 : Hid (Below w.heap.size w (((w1.setCell ⟨D, 0, none⟩ (.int .i64 id)).setCell ⟨D, 1, none⟩ (.int .i64 f)).setCell ⟨D, 2, none⟩ (.slice (some ⟨G, 0, none⟩) 0 0))) := Below.setCell (Below.setCell (Below.setCell (below2 KB0.out b1) hDw _) hDw _) hDw _
    have O1 : Hid (w1.ownsRow w.heap.size 82 13 (.slice (some ⟨G, 0, none⟩) 0 0) 0 []) := ownsRow_below OG.out b1
    have hfar : ∀ x, (some ⟨G, 0, none⟩ : Option Addr) = some x → x.block ≠ D := fun x e => by cases e; exact hGD.out
    have O3 : Hid ((((w1.setCell ⟨D, 0, none⟩ (.int .i64 id)).setCell ⟨D, 1, none⟩ (.int .i64 f)).setCell ⟨D, 2, none⟩ (.slice (some ⟨G, 0, none⟩) 0 0)).ownsRow w.heap.size 82 13 (.slice (some ⟨G, 0, none⟩) 0 0) 0 []) := own_kept (own_kept (own_kept O1.out (grown_set _ _ _ _) hfar) (grown_set _ _ _ _) hfar) (grown_set _ _ _ _) hfar
    clear R1 V1 b1 y0 y1 y2 hfar
    go_wp2
    refine bodyPost_ret (v := .tuple #[ndV id f (.slice (some ⟨G, 0, none⟩) 0 0), .bool true]) (by
      have p0 := HR3.out.cell 0
      have p1 := HR3.out.cell 1
      have p2 := HR3.out.cell 2
      simp at p0 p1 p2
      simp [results, Try.results30, go_sem, p0, p1, p2]) rfl ⟨some ⟨G, 0, none⟩, rfl, O3.out, HB3.out⟩
  | false =>
    rw [hse] at KS
    clear b0
    go_enter Try.func30, Try.ntmps30
    go_wp2_with fail
    rw [← HV.out, ← HG.out, ← HW0.out, ← HD.out]
    refine Calls.mono KS.out ?_
    rintro e w1 ⟨rfl, b1⟩
    have R1 := RD.out.below b1 lD
    have V1 := RV.out.below b1 RV.out.lt
    have x0 := R1.cell 0
    have x1 := R1.cell 1
    have x2 := R1.cell 2
    have f0 := R1.free 0
    have f1 := R1.free 1
    have f2 := R1.free 2
    have z0 := V1.cell 0
    have z1 := V1.cell 1
    have z2 := V1.cell 2
    simp at x0 x1 x2 z0 z1 z2
    have HR3 : Hid (Row (((w1.setCell ⟨D, 0, none⟩ (.int .i64 0)).setCell ⟨D, 1, none⟩ (.int .i64 0)).setCell ⟨D, 2, none⟩ (.slice none 0 0)) D 52 #[.int .i64 0, .int .i64 0, .slice none 0 0]) := ((R1.set 0 _).set 1 _).set 2 _
    have HB3 : Hid (Below w.heap.size w (((w1.setCell ⟨D, 0, none⟩ (.int .i64 0)).setCell ⟨D, 1, none⟩ (.int .i64 0)).setCell ⟨D, 2, none⟩ (.slice none 0 0))) := Below.setCell (Below.setCell (Below.setCell (below2 KB0.out b1) hDw _) hDw _) hDw _
    have O1 : Hid (w1.ownsRow w.heap.size 82 13 (.slice (some ⟨G, 0, none⟩) 0 0) 0 []) := ownsRow_below OG.out b1
    have hfar : ∀ x, (some ⟨G, 0, none⟩ : Option Addr) = some x → x.block ≠ D := fun x e => by cases e; exact hGD.out
    have O3 : Hid ((((w1.setCell ⟨D, 0, none⟩ (.int .i64 0)).setCell ⟨D, 1, none⟩ (.int .i64 0)).setCell ⟨D, 2, none⟩ (.slice none 0 0)).ownsRow w.heap.size 82 13 (.slice (some ⟨G, 0, none⟩) 0 0) 0 []) := own_kept (own_kept (own_kept O1.out (grown_set _ _ _ _) hfar) (grown_set _ _ _ _) hfar) (grown_set _ _ _ _) hfar
    clear R1 V1 b1 y0 y1 y2 hfar
    go_wp2
    refine bodyPost_ret (v := .tuple #[ndV 0 0 (.slice none 0 0), .bool false]) (by
      have p0 := HR3.out.cell 0
      have p1 := HR3.out.cell 1
      have p2 := HR3.out.cell 2
      simp at p0 p1 p2
      simp [results, Try.results30, go_sem, p0, p1, p2]) rfl ⟨none, rfl, World.ownsRow_nil _ _ _ _, HB3.out⟩
end Go.Proofs.Ytpomffkpjldloaa
/- The place of a root among slots, in the program and in the model. Conditions: at most 2^20 slots. -/
namespace Go.Proofs.Ytpomffkpjldloaa
set_option maxRecDepth 2000
open Go.ChangeShapes Go.WideShapes Go.ChangeAt Go.RowKit

end Go.Proofs.Ytpomffkpjldloaa
