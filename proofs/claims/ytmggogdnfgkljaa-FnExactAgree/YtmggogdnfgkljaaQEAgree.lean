/- For every input: the function Agree of the program answers as its model does, whatever its arguments are, leaves them as they were. No condition. -/
import Derived.Test.YtmggogdnfgkljaaK9
import Derived.Test.YtmggogdnfgkljaaK8
namespace Go.Proofs.Ytmggogdnfgkljaa
open Go.ChangeShapes Go.WideShapes Go.ChangeAt Go.RowKit
set_option maxRecDepth 100000 in
set_option maxHeartbeats 4000000 in
theorem walk_FnExactAgree (a0 : Int) (a1 : Int) (a2 : Option Addr) (len2 cap2 : Nat) (S2 : Nat → ByteArray) (w : World) (_w0 : (Lit.int .i64 a0).wf = true) (_w1 : (Lit.int .i64 a1).wf = true) (w2 : IsTxt w a2 len2 S2) :
    Calls Try.prog 13 #[.int .i64 a0, .int .i64 a1, .slice a2 len2 cap2] w fun e w' => e = .returned (.bool true) ∧ Below w.heap.size w w' := by
  clear _w0 _w1
  have hM2 := w2.1
  have hn2 := w2.2.1
  have hl2 := w2.2.2
  clear w2
  have hz2 := fun w h => szT_any a2 len2 cap2 S2 1048576 w h (by omega) hn2 hl2
  by_cases h2 : len2 + tot (fun i => (S2 i).size) len2 ≤ 1048576
  case neg =>
    have e2 : szF (fun i => (S2 i).size) len2 1048576 = -1 := by unfold szF; rw [if_neg h2]
    rw [e2] at hz2
    go_enter Try.func13, Try.ntmps13
    go_wp2_with fail
    refine (hz2 _ hM2).mono ?_
    rintro e w' ⟨rfl, hw⟩
    obtain rfl := hw.symm
    go_wp2
    go_ret
    exact ⟨rfl, Below.refl _ _⟩
  obtain ⟨left2, hleft2⟩ : ∃ q, 1048576 - (len2 + tot (fun i => (S2 i).size) len2) = q := ⟨_, rfl⟩
  have e2 : szF (fun i => (S2 i).size) len2 1048576 = (left2 : Int) := by unfold szF; rw [if_pos h2, hleft2]
  rw [e2] at hz2
  have neg2 : ¬ ((left2 : Int) < 0) := by omega
  have bn2 : len2 ≤ 1048576 := by omega
  have bl2 : ∀ i, i < len2 → (S2 i).size ≤ 1048576 := fun i hi => by have := tot_le (fun i => (S2 i).size) hi; omega
  have b02 : 0 < len2 → (S2 0).size ≤ 1048576 := fun h => bl2 0 h
  have A2 := hM2.arg
  clear e2 h2 hleft2 hn2 hl2
  have hS := fun a w h => sAgree_any a0 a1 a len2 len2 S2 w h (Nat.le_refl _) (by unfold maxLen; omega) b02
  have hI := fun a w h => agree_any a0 a1 a len2 len2 S2 w h (Nat.le_refl _) (by unfold maxLen; omega) bn2 b02
  generalize agr a0 a1 len2 S2 = okf at hS hI
  have hfl : (okf != okf) = false := by simp
  clear bl2 b02
  go_enter Try.func13, Try.ntmps13
  go_wp2_with fail
  refine (hz2 _ hM2).mono ?_
  rintro e w' ⟨rfl, hw⟩
  obtain rfl := hw.symm
  clear hw hz2 hM2
  go_wp2_with fail
  refine Calls.mono (toT_any _ len2 cap2 S2 _ A2.1 bn2) ?_
  rintro e v1 ⟨rfl, o1, b1⟩
  have p2 := OwnT.row o1
  have t1 := (World.ownsRow.lt o1 _ rfl).2
  clear o1
  have s1 := b1.size
  replace A2 := A2.below b1
  have cum := b1
  have cumS := cum.size
  clear b1
  go_wp2_with fail
  refine Calls.mono (hS _ _ p2.at) ?_
  rintro e v2 ⟨rfl, b2⟩
  have s2 := b2.size
  replace A2 := A2.below b2
  replace p2 := p2.below b2
  replace cum := below2 cum b2
  replace cumS := cum.size
  clear b2
  clear p2
  go_wp2_with fail
  refine Calls.mono (toT_any _ len2 cap2 S2 _ A2.1 bn2) ?_
  rintro e v3 ⟨rfl, o3, b3⟩
  have x2 := OwnT.row o3
  have t3 := (World.ownsRow.lt o3 _ rfl).2
  clear o3
  have s3 := b3.size
  replace A2 := A2.below b3
  replace cum := below2 cum b3
  replace cumS := cum.size
  clear b3
  go_wp2_with fail
  refine Calls.mono (hI _ _ x2.at) ?_
  rintro e v4 ⟨rfl, b4⟩
  have s4 := b4.size
  replace A2 := A2.below b4
  replace x2 := x2.below b4
  replace cum := below2 cum b4
  replace cumS := cum.size
  clear b4
  go_wp2_with fail
  refine Calls.mono (toT_any _ len2 cap2 S2 _ A2.1 bn2) ?_
  rintro e v5 ⟨rfl, o5, b5⟩
  have y2 := OwnT.row o5
  have t5 := (World.ownsRow.lt o5 _ rfl).2
  clear o5
  have s5 := b5.size
  replace A2 := A2.below b5
  replace x2 := x2.below b5
  replace cum := below2 cum b5
  replace cumS := cum.size
  clear b5
  go_wp2_with fail
  refine Calls.mono (eqT_same _ _ _ _ _ _ _ x2.at y2.at bn2) ?_
  rintro e v6 ⟨rfl, b6⟩
  have s6 := b6.size
  replace A2 := A2.below b6
  replace x2 := x2.below b6
  replace y2 := y2.below b6
  replace cum := below2 cum b6
  replace cumS := cum.size
  clear b6
  clear y2
  go_wp2
  go_ret
  exact ⟨rfl, cum⟩
end Go.Proofs.Ytmggogdnfgkljaa
namespace Go.Proofs.Ytmggogdnfgkljaa.fnExactAgree
open Go.ChangeShapes Go.WideShapes Go.ChangeAt Go.RowKit
open Go.ChangeMaps (open_string shut_string)
set_option linter.unusedVariables false
theorem own : ownKnob Try.prog.godebug = none := by kernel_rfl
theorem laidOut : laidOutB Try.prog = true := by kernel_rfl
set_option maxRecDepth 100000 in
theorem lifted (os : Os) (started : os.Started) (H : Type) (enc : TypeId × Value → H) :
    ReturnsInHanded {} Try.checked os 13 .any (Rows.fnExactAgreeSpec.pre6 enc Try.prog Try.f13 Rows.fnExactAgreeRow.domain false) (Rows.fnExactAgreeSpec.post enc Try.prog Try.f13 false true false false) := by
  refine returnsInHanded_of_change (C := Try.checked) own started (by kernel_rfl) Try.func13
    (ChangeSpec.witness6 (enc := enc) (C := Try.checked) false ⟨#[], #[.int .i64 0, .int .i64 0, .slice none 0 0], []⟩ 8 (by kernel_rfl) (by kernel_rfl) (by kernel_rfl) (by kernel_rfl)) ?_
  intro W base args ds gs before hval0 hW hcnd _
  have hval : ∀ (j : Nat) t v, Try.f13.params[j]? = some t → args[j]? = some v → Value.okWide Try.prog W .any base t v := hval0
  have hW' := hW
  obtain ⟨p, q, hA0, hV, rfl, hfz, hnd⟩ := hW
  have hA : DataW.TrodAll enc Try.prog W 0 (fun _ => true) true Try.f13.params.toList args.toList ds p := hA0
  rw [Try.params13] at hA hval
  obtain ⟨v0, vs0, d0, ds0, p0, q0, hargs, rfl, rfl, h0, r0⟩ := trodAll_cons hA
  obtain ⟨v1, vs1, d1, ds1, p1, q1, rfl, rfl, rfl, h1, r1⟩ := trodAll_cons r0
  obtain ⟨v2, vs2, d2, ds2, p2, q2, rfl, rfl, rfl, h2, r2⟩ := trodAll_cons r1
  obtain ⟨rfl, rfl, rfl⟩ := trodAll_nil r2
  obtain rfl : args = #[v0, v1, v2] := by cases args; simp_all
  obtain ⟨rfl, rfl⟩ := trodVars_none hV
  obtain ⟨a0, rfl, rfl, rfl, w0⟩ := open_int Try.underlying3 (hval 0 3 v0 rfl rfl) h0
  obtain ⟨a1, rfl, rfl, rfl, w1⟩ := open_int Try.underlying3 (hval 1 3 v1 rfl rfl) h1
  obtain ⟨a2, len2, cap2, rfl⟩ := okWide_slice Try.underlying44 (hval 2 44 v2 rfl rfl)
  have k2 := h2
  have lt2 : ∀ x ∈ p2, x.block < W.heap.size := by obtain ⟨m, hm⟩ := k2; exact DataW.trod_lt m _ _ _ hm
  obtain ⟨S2, w2⟩ : ∃ S, IsTxt W a2 len2 S := by
    obtain ⟨fuel, hf⟩ := h2
    rcases Go.Deep.open_strs Try.underlying44 Try.underlying9 (by kernel_rfl) hf with ⟨hcs, _⟩ | ⟨x, l, c, m, Sx, hcs, _, hl, hm, hmm, _, hcell⟩
    · simp [Value.cells] at hcs
      obtain ⟨rfl, rfl, rfl⟩ := hcs
      exact ⟨fun _ => ByteArray.empty, fun i hi => absurd hi (Nat.not_lt_zero _), Nat.zero_le _, fun i hi => absurd hi (Nat.not_lt_zero _)⟩
    · simp [Value.cells] at hcs
      obtain ⟨rfl, rfl, rfl⟩ := hcs
      exact ⟨Sx, isTxt_of hl hm (by rw [hmm]; split <;> omega) hcell⟩
  clear hA0 hval0
  refine (walk_FnExactAgree a0 a1 a2 len2 cap2 S2 W w0 w1 w2).mono fun e W' ⟨he, bel⟩ => ?_
  subst he
  exact ⟨_, rfl, _, _, _, [], _, [], hW', trodAll_mk1 (shut_bool Try.underlying4 _), (trodAll_cons_mk (shut_int Try.underlying3 w0) (trodAll_cons_mk (shut_int Try.underlying3 w1) (trodAll_cons_mk (Below.trod laidOut (by kernel_rfl) (of_decide_eq_true (by kernel_rfl)) k2 bel lt2) trodAll_mk0))), rfl, bel.frame _, fun h => by cases h⟩
theorem over : Rows.fnExactAgreeRow.holds Try.pinned (OpenSpec.ofChange Rows.fnExactAgreeSpec) :=
  OpenClaim.holds_of_wide 13 Try.f13 rfl rfl rfl rfl rfl rfl rfl ⟨rfl, rfl, rfl, rfl, rfl⟩ rfl rfl rfl rfl rfl (by kernel_rfl) Try.func13 (by kernel_rfl)
    (of_decide_eq_true (by kernel_rfl)) (by unfold Func.isWrapper; first | (rw [if_pos (by decide +kernel)]; kernel_rfl) | (rw [if_neg (by decide +kernel)]; exact ⟨rfl, rfl⟩))
    (fun os started H enc _ => lifted os started H enc)
theorem proved : Rows.FnExactAgreeSaid := over
#print axioms proved
end Go.Proofs.Ytmggogdnfgkljaa.fnExactAgree
