/- For every input: the function Rank of the program answers as its model does, whatever its matrix is, and leaves it as it was. No condition. -/
import Derived.Test.YtojklpahobmleaaMBring
import Derived.Test.YtojklpahobmleaaMLawB
import Derived.Test.YtojklpahobmleaaMBound
namespace Go.Proofs.Ytojklpahobmleaa
open Go.ChangeShapes Go.WideShapes Go.ChangeAt Go.RowKit
set_option maxRecDepth 100000 in
set_option maxHeartbeats 4000000 in
theorem walk_FnExactRank (a0 : Option Addr) (len0 cap0 : Nat) (L0 : Nat → Nat) (Z0 : Nat → Nat → Int) (w : World) (w0 : IsMat w a0 len0 L0 Z0) :
    Calls Try.prog 10 #[.slice a0 len0 cap0] w fun e w' => e = .returned (.bool true) ∧ Below w.heap.size w w' := by
  have hM0 := w0.1
  have hn0 := w0.2.1
  have hl0 := w0.2.2
  clear w0
  have hz0 := fun w h hh => szSS_any a0 len0 cap0 L0 Z0 1048576 w h hh hn0 hl0
  by_cases h0 : len0 + tot L0 len0 ≤ 1048576
  case neg =>
    have e0 : szF L0 len0 1048576 = -1 := by unfold szF; rw [if_neg h0]
    rw [e0] at hz0
    go_enter Try.func10, Try.ntmps10
    go_wp2_with fail
    refine (hz0 _ hM0 (by omega)).mono ?_
    rintro e w' ⟨rfl, hw⟩
    obtain rfl := hw.symm
    go_wp2
    go_ret
    exact ⟨rfl, Below.refl _ _⟩
  obtain ⟨left0, hleft0⟩ : ∃ q, 1048576 - (len0 + tot L0 len0) = q := ⟨_, rfl⟩
  have e0 : szF L0 len0 1048576 = (left0 : Int) := by unfold szF; rw [if_pos h0, hleft0]
  rw [e0] at hz0
  have neg0 : ¬ ((left0 : Int) < 0) := by omega
  have bn0 : len0 ≤ 1048576 := by omega
  have bl0 : ∀ i, i < len0 → L0 i ≤ 1048576 := fun i hi => by have := tot_le L0 hi; omega
  have A0 := hM0.arg
  have hS := fun a w h => sRank_any a len0 len0 L0 Z0 w h bl0
  have hI := fun a w h => rank_any a len0 len0 L0 Z0 w h bl0
  generalize rankI len0 L0 Z0 = rk0 at hS hI
  have hfl : (rk0 != rk0) = false := by simp
  go_enter Try.func10, Try.ntmps10
  go_wp2_with fail
  refine (hz0 _ hM0 (by omega)).mono ?_
  rintro e w' ⟨rfl, hw⟩
  obtain rfl := hw.symm
  clear hw hz0 hM0
  go_wp2_with fail
  refine Calls.mono (toSS_any _ len0 cap0 L0 Z0 _ A0.at bn0 bl0) ?_
  rintro e v1 ⟨rfl, ⟨AA1, p0⟩, b1⟩
  replace A0 := A0.keep b1
  have cum := b1
  clear b1
  go_wp2_with fail
  refine Calls.mono (hS _ _ p0.at) ?_
  rintro e v2 ⟨rfl, b2⟩
  replace A0 := A0.keep (b2.mono cum.size)
  replace cum := below2 cum b2
  clear b2 p0
  go_wp2_with fail
  refine Calls.mono (toSS_any _ len0 cap0 L0 Z0 _ A0.at bn0 bl0) ?_
  rintro e v3 ⟨rfl, ⟨AA3, x0⟩, b3⟩
  replace A0 := A0.keep (b3.mono cum.size)
  replace cum := below2 cum b3
  clear b3
  go_wp2_with fail
  refine Calls.mono (hI _ _ x0.at) ?_
  rintro e v4 ⟨rfl, b4⟩
  replace A0 := A0.keep (b4.mono cum.size)
  replace x0 := x0.below b4
  replace cum := below2 cum b4
  clear b4
  go_wp2_with fail
  refine Calls.mono (toSS_any _ len0 cap0 L0 Z0 _ A0.at bn0 bl0) ?_
  rintro e v5 ⟨rfl, ⟨AA5, y0⟩, b5⟩
  replace x0 := x0.below b5
  replace cum := below2 cum b5
  clear b5
  go_wp2_with fail
  refine Calls.mono (eqSS_same _ _ _ _ _ _ _ _ x0.at y0.at bn0 bl0) ?_
  rintro e v6 ⟨rfl, b6⟩
  replace cum := below2 cum b6
  clear b6 x0 y0
  go_wp2
  go_ret
  exact ⟨rfl, cum⟩
end Go.Proofs.Ytojklpahobmleaa
namespace Go.Proofs.Ytojklpahobmleaa.fnExactRank
open Go.ChangeShapes Go.WideShapes Go.ChangeAt Go.RowKit
open Go.ChangeMaps (open_string shut_string)
set_option linter.unusedVariables false
theorem own : ownKnob Try.prog.godebug = none := by kernel_rfl
theorem laidOut : laidOutB Try.prog = true := by kernel_rfl
set_option maxRecDepth 100000 in
theorem lifted (os : Os) (started : os.Started) (H : Type) (enc : TypeId × Value → H) :
    ReturnsInHanded {} Try.checked os 10 .any (Rows.fnExactRankSpec.pre6 enc Try.prog Try.f10 Rows.fnExactRankRow.domain false) (Rows.fnExactRankSpec.post enc Try.prog Try.f10 false true false false) := by
  refine returnsInHanded_of_change (C := Try.checked) own started (by kernel_rfl) Try.func10
    (ChangeSpec.witness6 (enc := enc) (C := Try.checked) false ⟨#[], #[.slice none 0 0], []⟩ 8 (by kernel_rfl) (by kernel_rfl) (by kernel_rfl) (by kernel_rfl)) ?_
  intro W base args ds gs before hval0 hW hcnd _
  have hval : ∀ (j : Nat) t v, Try.f10.params[j]? = some t → args[j]? = some v → Value.okWide Try.prog W .any base t v := hval0
  have hW' := hW
  obtain ⟨p, q, hA0, hV, rfl, hfz, hnd⟩ := hW
  have hA : DataW.TrodAll enc Try.prog W 0 (fun _ => true) true Try.f10.params.toList args.toList ds p := hA0
  rw [Try.params10] at hA hval
  obtain ⟨v0, vs0, d0, ds0, p0, q0, hargs, rfl, rfl, h0, r0⟩ := trodAll_cons hA
  obtain ⟨rfl, rfl, rfl⟩ := trodAll_nil r0
  obtain rfl : args = #[v0] := by cases args; simp_all
  obtain ⟨rfl, rfl⟩ := trodVars_none hV
  obtain ⟨a0, len0, cap0, rfl⟩ := okWide_slice Try.underlying24 (hval 0 24 v0 rfl rfl)
  have k0 := h0
  have lt0 : ∀ x ∈ p0, x.block < W.heap.size := by obtain ⟨m, hm⟩ := k0; exact DataW.trod_lt m _ _ _ hm
  obtain ⟨L0, Z0, w0⟩ : ∃ L Z, IsMat W a0 len0 L Z := by
    obtain ⟨fuel, hf⟩ := h0
    rcases Go.Deep.open_int_rows Try.underlying24 Try.underlying31 Try.underlying3 (by kernel_rfl) (by kernel_rfl) hf with ⟨hcs, _⟩ | ⟨x, l, c, A, L, C, Z, hcs, _, hl, hm, _, hrow⟩
    · simp [Value.cells] at hcs
      obtain ⟨rfl, rfl, rfl⟩ := hcs
      exact ⟨fun _ => 0, fun _ _ => 0, fun i hi => absurd hi (Nat.not_lt_zero _), Nat.zero_le _, fun i hi => absurd hi (Nat.not_lt_zero _)⟩
    · simp [Value.cells] at hcs
      obtain ⟨rfl, rfl, rfl⟩ := hcs
      exact ⟨L, _, isMat_of hl hm hrow⟩
  clear hA0 hval0
  refine (walk_FnExactRank a0 len0 cap0 L0 Z0 W w0).mono fun e W' ⟨he, bel⟩ => ?_
  subst he
  exact ⟨_, rfl, _, _, _, [], _, [], hW', trodAll_mk1 (shut_bool Try.underlying4 _), (trodAll_cons_mk (Below.trod laidOut (by kernel_rfl) (of_decide_eq_true (by kernel_rfl)) k0 bel lt0) trodAll_mk0), rfl, bel.frame _, fun h => by cases h⟩
theorem over : Rows.fnExactRankRow.holds Try.pinned (OpenSpec.ofChange Rows.fnExactRankSpec) :=
  OpenClaim.holds_of_wide 10 Try.f10 rfl rfl rfl rfl rfl rfl rfl ⟨rfl, rfl, rfl, rfl, rfl⟩ rfl rfl rfl rfl rfl (by kernel_rfl) Try.func10 (by kernel_rfl)
    (of_decide_eq_true (by kernel_rfl)) (by unfold Func.isWrapper; first | (rw [if_pos (by decide +kernel)]; kernel_rfl) | (rw [if_neg (by decide +kernel)]; exact ⟨rfl, rfl⟩))
    (fun os started H enc _ => lifted os started H enc)
theorem proved : Rows.FnExactRankSaid := over
#print axioms proved
end Go.Proofs.Ytojklpahobmleaa.fnExactRank
