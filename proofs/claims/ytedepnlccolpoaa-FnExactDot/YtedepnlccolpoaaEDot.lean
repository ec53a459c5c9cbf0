/- For every input: the function Dot of the program answers as its model does, whatever its two lists are, and leaves both as they were. No condition. -/
import Derived.Test.YtedepnlccolpoaaDot
namespace Go.Proofs.Ytedepnlccolpoaa
open Go.ChangeShapes Go.WideShapes Go.ChangeAt Go.RowKit
set_option maxHeartbeats 1000000 in
theorem walk_FnExactDot (a0 : Option Addr) (len0 cap0 : Nat) (z0 : List Int) (a1 : Option Addr) (len1 cap1 : Nat) (z1 : List Int) (w : World) (w0 : IsRow .i64 w a0 len0 cap0 z0) (w1 : IsRow .i64 w a1 len1 cap1 z1) :
    Calls Try.prog 13 #[.slice a0 len0 cap0, .slice a1 len1 cap1] w fun e w' => e = .returned (.bool true) ∧ Below w.heap.size w w' := by
  obtain ⟨_, hA, _⟩ := w0.ints
  obtain ⟨_, hB, _⟩ := w1.ints
  clear w0 w1
  by_cases h0 : 1048576 < len0
  · have h0' : (1048576 : Int) < (len0 : Int) := by omega
    go_enter Try.func13, Try.ntmps13
    go_wp2
    go_ret
    exact ⟨rfl, Below.refl _ _⟩
  · have h0' : ¬ (1048576 : Int) < (len0 : Int) := by omega
    by_cases h1 : 1048576 < len1
    · have h1' : (1048576 : Int) < (len1 : Int) := by omega
      go_enter Try.func13, Try.ntmps13
      go_wp2
      go_ret
      exact ⟨rfl, Below.refl _ _⟩
    · have h1' : ¬ (1048576 : Int) < (len1 : Int) := by omega
      have n0 : len0 ≤ 1048576 := by omega
      have n1 : len1 ≤ 1048576 := by omega
      generalize z0.take len0 = xs at hA
      generalize z1.take len1 = ys at hB
      have heq : (dotI xs ys != dotI xs ys) = false := by simp
      go_enter Try.func13, Try.ntmps13
      go_wp2_with fail
      refine (toIntS_any a0 len0 cap0 xs _ hA n0).mono ?_
      rintro e v1 ⟨rfl, o1, b1⟩
      have p1 := ownsRow.ints o1
      have hA1 := hA.below b1
      have hB1 := hB.below b1
      clear o1 hA hB
      go_wp2_with fail
      refine (toIntS_any a1 len1 cap1 ys _ hB1 n1).mono ?_
      rintro e v2 ⟨rfl, o2, b2⟩
      have q2 := ownsRow.ints o2
      have p2 := p1.below b2
      have hA2 := hA1.below b2
      have hB2 := hB1.below b2
      clear o2 hA1 hB1 p1
      go_wp2_with fail
      refine (sDot_any _ _ _ _ _ _ xs ys _ p2 q2 n0 n1).mono ?_
      rintro e v3 ⟨rfl, b3⟩
      have hA3 := hA2.below b3
      have hB3 := hB2.below b3
      clear hA2 hB2 p2 q2
      go_wp2_with fail
      refine (toIntS_any a0 len0 cap0 xs _ hA3 n0).mono ?_
      rintro e v4 ⟨rfl, o4, b4⟩
      have p4 := ownsRow.ints o4
      have hA4 := hA3.below b4
      have hB4 := hB3.below b4
      clear o4 hA3 hB3
      go_wp2_with fail
      refine (toIntS_any a1 len1 cap1 ys _ hB4 n1).mono ?_
      rintro e v5 ⟨rfl, o5, b5⟩
      have q5 := ownsRow.ints o5
      have p5 := p4.below b5
      have hA5 := hA4.below b5
      have hB5 := hB4.below b5
      clear o5 hA4 hB4 p4
      go_wp2_with fail
      refine (dot_any _ _ _ _ _ _ xs ys _ p5 q5 n0 n1).mono ?_
      rintro e v6 ⟨rfl, b6⟩
      have p6 := p5.below b6
      have q6 := q5.below b6
      have hA6 := hA5.below b6
      have hB6 := hB5.below b6
      clear hA5 hB5 p5 q5
      go_wp2_with fail
      refine (toIntS_any a0 len0 cap0 xs _ hA6 n0).mono ?_
      rintro e v7 ⟨rfl, o7, b7⟩
      have r7 := ownsRow.ints o7
      have p7 := p6.below b7
      have q7 := q6.below b7
      have hB7 := hB6.below b7
      clear o7 hA6 hB6 p6 q6
      go_wp2_with fail
      refine (eqIntS_same _ _ _ _ _ xs _ p7 r7 n0).mono ?_
      rintro e v8 ⟨rfl, b8⟩
      have q8 := q7.below b8
      have hB8 := hB7.below b8
      clear p7 r7 q7 hB7
      go_wp2_with fail
      refine (toIntS_any a1 len1 cap1 ys _ hB8 n1).mono ?_
      rintro e v9 ⟨rfl, o9, b9⟩
      have r9 := ownsRow.ints o9
      have q9 := q8.below b9
      clear o9 q8 hB8
      go_wp2_with fail
      refine (eqIntS_same _ _ _ _ _ ys _ q9 r9 n1).mono ?_
      rintro e v10 ⟨rfl, b10⟩
      go_wp2
      go_ret
      exact ⟨rfl, below2 (below2 (below2 (below2 (below2 (below2 (below2 (below2 (below2 b1 b2) b3) b4) b5) b6) b7) b8) b9) b10⟩
end Go.Proofs.Ytedepnlccolpoaa
namespace Go.Proofs.Ytedepnlccolpoaa.fnExactDot
open Go.ChangeShapes Go.WideShapes Go.ChangeAt Go.RowKit
open Go.ChangeMaps (open_string shut_string)
set_option linter.unusedVariables false
theorem own : ownKnob Try.prog.godebug = none := by kernel_rfl
theorem laidOut : laidOutB Try.prog = true := by kernel_rfl
set_option maxRecDepth 100000 in
theorem lifted (os : Os) (started : os.Started) (H : Type) (enc : TypeId × Value → H) :
    ReturnsInHanded {} Try.checked os 13 .any (Rows.fnExactDotSpec.pre6 enc Try.prog Try.f13 Rows.fnExactDotRow.domain false) (Rows.fnExactDotSpec.post enc Try.prog Try.f13 false true false false) := by
  refine returnsInHanded_of_change (C := Try.checked) own started (by kernel_rfl) Try.func13
    (ChangeSpec.witness6 (enc := enc) (C := Try.checked) false ⟨#[], #[.slice none 0 0, .slice none 0 0], []⟩ 8 (by kernel_rfl) (by kernel_rfl) (by kernel_rfl) (by kernel_rfl)) ?_
  intro W base args ds gs before hval0 hW hcnd _
  have hval : ∀ (j : Nat) t v, Try.f13.params[j]? = some t → args[j]? = some v → Value.okWide Try.prog W .any base t v := hval0
  have hW' := hW
  obtain ⟨p, q, hA0, hV, rfl, hfz, hnd⟩ := hW
  have hA : DataW.TrodAll enc Try.prog W 0 (fun _ => true) true Try.f13.params.toList args.toList ds p := hA0
  rw [Try.params13] at hA hval
  obtain ⟨v0, vs0, d0, ds0, p0, q0, hargs, rfl, rfl, h0, r0⟩ := trodAll_cons hA
  obtain ⟨v1, vs1, d1, ds1, p1, q1, rfl, rfl, rfl, h1, r1⟩ := trodAll_cons r0
  obtain ⟨rfl, rfl, rfl⟩ := trodAll_nil r1
  obtain rfl : args = #[v0, v1] := by cases args; simp_all
  obtain ⟨rfl, rfl⟩ := trodVars_none hV
  obtain ⟨a0, len0, cap0, rfl⟩ := okWide_slice Try.underlying36 (hval 0 36 v0 rfl rfl)
  have k0 := h0
  have lt0 : ∀ x ∈ p0, x.block < W.heap.size := by obtain ⟨m, hm⟩ := k0; exact DataW.trod_lt m _ _ _ hm
  obtain ⟨z0, w0⟩ : ∃ zs, IsRow .i64 W a0 len0 cap0 zs := by
    obtain ⟨fuel, hf⟩ := h0
    rcases open_ints Try.underlying36 Try.underlying3 (by kernel_rfl) hf with ⟨hcs, _⟩ | ⟨x, l, c, zs, hcs, _, hl, hm, hz, _, hcell, hwz⟩
    · simp [Value.cells] at hcs
      obtain ⟨rfl, rfl, rfl⟩ := hcs
      exact ⟨[], .inl ⟨rfl, rfl, rfl, rfl⟩⟩
    · simp [Value.cells] at hcs
      obtain ⟨rfl, rfl, rfl⟩ := hcs
      exact ⟨zs, .inr ⟨_, rfl, hl, hm, by simpa using hz, hcell, hwz⟩⟩
  obtain ⟨a1, len1, cap1, rfl⟩ := okWide_slice Try.underlying36 (hval 1 36 v1 rfl rfl)
  have k1 := h1
  have lt1 : ∀ x ∈ p1, x.block < W.heap.size := by obtain ⟨m, hm⟩ := k1; exact DataW.trod_lt m _ _ _ hm
  obtain ⟨z1, w1⟩ : ∃ zs, IsRow .i64 W a1 len1 cap1 zs := by
    obtain ⟨fuel, hf⟩ := h1
    rcases open_ints Try.underlying36 Try.underlying3 (by kernel_rfl) hf with ⟨hcs, _⟩ | ⟨x, l, c, zs, hcs, _, hl, hm, hz, _, hcell, hwz⟩
    · simp [Value.cells] at hcs
      obtain ⟨rfl, rfl, rfl⟩ := hcs
      exact ⟨[], .inl ⟨rfl, rfl, rfl, rfl⟩⟩
    · simp [Value.cells] at hcs
      obtain ⟨rfl, rfl, rfl⟩ := hcs
      exact ⟨zs, .inr ⟨_, rfl, hl, hm, by simpa using hz, hcell, hwz⟩⟩
  clear hA0 hval0
  refine (walk_FnExactDot a0 len0 cap0 z0 a1 len1 cap1 z1 W w0 w1).mono fun e W' ⟨he, bel⟩ => ?_
  subst he
  exact ⟨_, rfl, _, _, _, [], _, [], hW', trodAll_mk1 (shut_bool Try.underlying4 _), (trodAll_cons_mk (Below.trod laidOut (by kernel_rfl) (of_decide_eq_true (by kernel_rfl)) k0 bel lt0) (trodAll_cons_mk (Below.trod laidOut (by kernel_rfl) (of_decide_eq_true (by kernel_rfl)) k1 bel lt1) trodAll_mk0)), rfl, bel.frame _, fun h => by cases h⟩
theorem over : Rows.fnExactDotRow.holds Try.pinned (OpenSpec.ofChange Rows.fnExactDotSpec) :=
  OpenClaim.holds_of_wide 13 Try.f13 rfl rfl rfl rfl rfl rfl rfl ⟨rfl, rfl, rfl, rfl, rfl⟩ rfl rfl rfl rfl rfl (by kernel_rfl) Try.func13 (by kernel_rfl)
    (of_decide_eq_true (by kernel_rfl)) (by unfold Func.isWrapper; first | (rw [if_pos (by decide +kernel)]; kernel_rfl) | (rw [if_neg (by decide +kernel)]; exact ⟨rfl, rfl⟩))
    (fun os started H enc _ => lifted os started H enc)
theorem proved : Rows.FnExactDotSaid := over
#print axioms proved
end Go.Proofs.Ytedepnlccolpoaa.fnExactDot
