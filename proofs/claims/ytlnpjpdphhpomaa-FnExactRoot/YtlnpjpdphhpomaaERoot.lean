/- For every input: the function Root of the program answers as its model does, whatever its arguments are, leaves them as they were. No condition. -/
import Derived.Test.YtlnpjpdphhpomaaTRootS
import Derived.Test.YtlnpjpdphhpomaaTMarkB
namespace Go.Proofs.Ytlnpjpdphhpomaa
set_option maxRecDepth 2000
open Go.ChangeShapes Go.WideShapes Go.ChangeAt Go.RowKit
set_option maxRecDepth 100000 in
set_option maxHeartbeats 4000000 in
theorem walk_FnExactRoot (a0 : Option Addr) (len0 cap0 : Nat) (S0 : Nat → ByteArray) (w : World) (w0 : IsTxt w a0 len0 S0) :
    Calls Try.prog 6 #[.slice a0 len0 cap0] w fun e w' => e = .returned (.bool true) ∧ Below w.heap.size w w' := by
  have hM0 := w0.1
  have hn0 := w0.2.1
  have hl0 := w0.2.2
  clear w0
  have hz0 := fun w h => szT_any a0 len0 cap0 S0 1048576 w h (by omega) hn0 hl0
  by_cases h0 : len0 + tot (fun i => (S0 i).size) len0 ≤ 1048576
  case neg =>
    have e0 : szF (fun i => (S0 i).size) len0 1048576 = -1 := by unfold szF; rw [if_neg h0]
    rw [e0] at hz0
    go_enter Try.func6, Try.ntmps6
    go_wp2_with fail
    refine (hz0 _ hM0).mono ?_
    rintro e w' ⟨rfl, hw⟩
    obtain rfl := hw.symm
    go_wp2
    go_ret
    exact ⟨rfl, Below.refl _ _⟩
  obtain ⟨left0, hleft0⟩ : ∃ q, 1048576 - (len0 + tot (fun i => (S0 i).size) len0) = q := ⟨_, rfl⟩
  have e0 : szF (fun i => (S0 i).size) len0 1048576 = (left0 : Int) := by unfold szF; rw [if_pos h0, hleft0]
  rw [e0] at hz0
  have neg0 : ¬ ((left0 : Int) < 0) := by omega
  have bn0 : len0 ≤ 1048576 := by omega
  have bl0 : ∀ i, i < len0 → (S0 i).size ≤ 1048576 := fun i hi => by have := tot_le (fun i => (S0 i).size) hi; omega
  have b00 : 0 < len0 → (S0 0).size ≤ 1048576 := fun h => bl0 0 h
  have A0 := hM0.arg
  clear e0 h0 hleft0 hn0 hl0
  have bm0 : ∀ i, i < len0 → (S0 i).size ≤ maxLen := fun i hi => by have := bl0 i hi; unfold maxLen; omega
  have hS := fun a w h => sRoot_any a len0 len0 S0 w h bn0 bm0
  have hI := fun a w h => root_any a len0 len0 S0 w h bn0 bm0
  generalize lvB len0 S0 = okf at hS hI
  generalize rtS len0 S0 = tx at hS hI
  have hfl : (okf != okf) = false := by simp
  have hbq := ba_beq tx
  clear bm0
  clear bl0 b00
  go_enter Try.func6, Try.ntmps6
  go_wp2_with fail
  refine (hz0 _ hM0).mono ?_
  rintro e w' ⟨rfl, hw⟩
  obtain rfl := hw.symm
  clear hw hz0 hM0
  go_wp2_with fail
  refine Calls.mono (toT_any _ len0 cap0 S0 _ A0.1 bn0) ?_
  rintro e v1 ⟨rfl, o1, b1⟩
  have p0 := OwnT.row o1
  have t1 := (World.ownsRow.lt o1 _ rfl).2
  clear o1
  have s1 := b1.size
  replace A0 := A0.below b1
  have cum := b1
  have cumS := cum.size
  clear b1
  go_wp2_with fail
  refine Calls.mono (hS _ _ p0.at) ?_
  rintro e v2 ⟨rfl, b2⟩
  have s2 := b2.size
  replace A0 := A0.below b2
  replace p0 := p0.below b2
  replace cum := below2 cum b2
  replace cumS := cum.size
  clear b2
  clear p0
  go_wp2_with fail
  refine Calls.mono (toT_any _ len0 cap0 S0 _ A0.1 bn0) ?_
  rintro e v3 ⟨rfl, o3, b3⟩
  have x0 := OwnT.row o3
  have t3 := (World.ownsRow.lt o3 _ rfl).2
  clear o3
  have s3 := b3.size
  replace A0 := A0.below b3
  replace cum := below2 cum b3
  replace cumS := cum.size
  clear b3
  go_wp2_with fail
  refine Calls.mono (hI _ _ x0.at) ?_
  rintro e v4 ⟨rfl, b4⟩
  have s4 := b4.size
  replace A0 := A0.below b4
  replace x0 := x0.below b4
  replace cum := below2 cum b4
  replace cumS := cum.size
  clear b4
  go_wp2_with fail
  refine Calls.mono (toT_any _ len0 cap0 S0 _ A0.1 bn0) ?_
  rintro e v5 ⟨rfl, o5, b5⟩
  have y0 := OwnT.row o5
  have t5 := (World.ownsRow.lt o5 _ rfl).2
  clear o5
  have s5 := b5.size
  replace A0 := A0.below b5
  replace x0 := x0.below b5
  replace cum := below2 cum b5
  replace cumS := cum.size
  clear b5
  go_wp2_with fail
  refine Calls.mono (eqT_same _ _ _ _ _ _ _ x0.at y0.at bn0) ?_
  rintro e v6 ⟨rfl, b6⟩
  have s6 := b6.size
  replace A0 := A0.below b6
  replace x0 := x0.below b6
  replace y0 := y0.below b6
  replace cum := below2 cum b6
  replace cumS := cum.size
  clear b6
  clear y0
  go_wp2
  go_ret
  exact ⟨rfl, cum⟩
end Go.Proofs.Ytlnpjpdphhpomaa
namespace Go.Proofs.Ytlnpjpdphhpomaa.fnExactRoot
open Go.ChangeShapes Go.WideShapes Go.ChangeAt Go.RowKit
open Go.ChangeMaps (open_string shut_string)
set_option linter.unusedVariables false
theorem own : ownKnob Try.prog.godebug = none := by kernel_rfl
theorem laidOut : laidOutB Try.prog = true := by kernel_rfl
set_option maxRecDepth 100000 in
theorem lifted (os : Os) (started : os.Started) (H : Type) (enc : TypeId × Value → H) :
    ReturnsInHanded {} Try.checked os 6 .any (Rows.fnExactRootSpec.pre6 enc Try.prog Try.f6 Rows.fnExactRootRow.domain false) (Rows.fnExactRootSpec.post enc Try.prog Try.f6 false true false false) := by
  refine returnsInHanded_of_change (C := Try.checked) own started (by kernel_rfl) Try.func6
    (ChangeSpec.witness6 (enc := enc) (C := Try.checked) false ⟨#[], #[.slice none 0 0], []⟩ 8 (by kernel_rfl) (by kernel_rfl) (by kernel_rfl) (by kernel_rfl)) ?_
  intro W base args ds gs before hval0 hW hcnd _
  have hval : ∀ (j : Nat) t v, Try.f6.params[j]? = some t → args[j]? = some v → Value.okWide Try.prog W .any base t v := hval0
  have hW' := hW
  obtain ⟨p, q, hA0, hV, rfl, hfz, hnd⟩ := hW
  have hA : DataW.TrodAll enc Try.prog W 0 (fun _ => true) true Try.f6.params.toList args.toList ds p := hA0
  rw [Try.params6] at hA hval
  obtain ⟨v0, vs0, d0, ds0, p0, q0, hargs, rfl, rfl, h0, r0⟩ := trodAll_cons hA
  obtain ⟨rfl, rfl, rfl⟩ := trodAll_nil r0
  obtain rfl : args = #[v0] := by cases args; simp_all
  obtain ⟨rfl, rfl⟩ := trodVars_none hV
  obtain ⟨a0, len0, cap0, rfl⟩ := okWide_slice Try.underlying24 (hval 0 24 v0 rfl rfl)
  have k0 := h0
  have lt0 : ∀ x ∈ p0, x.block < W.heap.size := by obtain ⟨m, hm⟩ := k0; exact DataW.trod_lt m _ _ _ hm
  obtain ⟨S0, w0⟩ : ∃ S, IsTxt W a0 len0 S := by
    obtain ⟨fuel, hf⟩ := h0
    rcases Go.Deep.open_strs Try.underlying24 Try.underlying9 (by kernel_rfl) hf with ⟨hcs, _⟩ | ⟨x, l, c, m, Sx, hcs, _, hl, hm, hmm, _, hcell⟩
    · simp [Value.cells] at hcs
      obtain ⟨rfl, rfl, rfl⟩ := hcs
      exact ⟨fun _ => ByteArray.empty, fun i hi => absurd hi (Nat.not_lt_zero _), Nat.zero_le _, fun i hi => absurd hi (Nat.not_lt_zero _)⟩
    · simp [Value.cells] at hcs
      obtain ⟨rfl, rfl, rfl⟩ := hcs
      exact ⟨Sx, isTxt_of hl hm (by rw [hmm]; split <;> omega) hcell⟩
  clear hA0 hval0
  refine (walk_FnExactRoot a0 len0 cap0 S0 W w0).mono fun e W' ⟨he, bel⟩ => ?_
  subst he
  exact ⟨_, rfl, _, _, _, [], _, [], hW', trodAll_mk1 (shut_bool Try.underlying4 _), (trodAll_cons_mk (Below.trod laidOut (by kernel_rfl) (of_decide_eq_true (by kernel_rfl)) k0 bel lt0) trodAll_mk0), rfl, bel.frame _, fun h => by cases h⟩
theorem over : Rows.fnExactRootRow.holds Try.pinned (OpenSpec.ofChange Rows.fnExactRootSpec) :=
  OpenClaim.holds_of_wide 6 Try.f6 rfl rfl rfl rfl rfl rfl rfl ⟨rfl, rfl, rfl, rfl, rfl⟩ rfl rfl rfl rfl rfl (by kernel_rfl) Try.func6 (by kernel_rfl)
    (of_decide_eq_true (by kernel_rfl)) (by unfold Func.isWrapper; first | (rw [if_pos (by decide +kernel)]; kernel_rfl) | (rw [if_neg (by decide +kernel)]; exact ⟨rfl, rfl⟩))
    (fun os started H enc _ => lifted os started H enc)
theorem proved : Rows.FnExactRootSaid := over
#print axioms proved
end Go.Proofs.Ytlnpjpdphhpomaa.fnExactRoot
