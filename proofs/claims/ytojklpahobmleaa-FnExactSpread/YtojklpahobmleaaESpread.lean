/- For every input: the function Spread of the program answers as its model does, whatever its arguments are, leaves them as they were, and its answer owns its memory. No condition. -/
import Derived.Test.YtojklpahobmleaaMSpecC
import Derived.Test.YtojklpahobmleaaMLawB
import Derived.Test.YtojklpahobmleaaMBound
namespace Go.Proofs.Ytojklpahobmleaa
open Go.ChangeShapes Go.WideShapes Go.ChangeAt Go.RowKit
set_option maxRecDepth 100000 in
set_option maxHeartbeats 4000000 in
theorem walk_FnExactSpread (a0 : Int) (a1 : Int) (w : World) (_w0 : (Lit.int .i64 a0).wf = true) (_w1 : (Lit.int .i64 a1).wf = true) :
    Calls Try.prog 12 #[.int .i64 a0, .int .i64 a1] w fun e w' => e = .returned (.bool true) ∧ Below w.heap.size w w' := by
  have hS := fun w => sSpread_any a0 a1 w
  have hI := fun w => spread_any a0 a1 w
  have hr : sprR a0 a1 ≤ 16 := (sprR_le a0 a1).1
  have hcc : 0 < sprR a0 a1 → a0.toNat ≤ 16 := (sprR_le a0 a1).2
  generalize sprR a0 a1 = r at *
  generalize sprOk a0 a1 = okf at *
  generalize Gm.sprd a0.toNat = F at *
  generalize a0.toNat = c at *
  have hc : ∀ i, i < r → c ≤ 1048576 := fun i _ => by omega
  have ht : tot (fun _ => c) r ≤ 1048576 := tot_small hr hcc
  have hfl : (okf != okf) = false := by simp
  have hr20 : r ≤ 1048576 := by omega
  obtain ⟨tq, htq⟩ : ∃ tq, 1 + tot (fun _ => c) r = tq := ⟨_, rfl⟩
  have htq0 : ¬ ((tq : Int) < 0) := by omega
  go_enter Try.func12, Try.ntmps12
  go_wp2_with fail
  refine Calls.mono (hS _) ?_
  rintro e v1 ⟨u1, rfl, ⟨aW, cW, AW, CW, rfl, W⟩, b1⟩
  have s1 := b1.size
  have cum := b1
  have cumS := cum.size
  clear b1
  go_wp2_with fail
  refine Calls.mono (hI _) ?_
  rintro e v2 ⟨u2, rfl, ⟨aG, cG, AG, CG, rfl, G⟩, b2⟩
  have s2 := b2.size
  replace W := W.below b2
  replace cum := below2 cum b2
  replace cumS := cum.size
  clear b2
  go_wp2_with fail
  refine Calls.mono (eqSS_same _ _ _ _ _ _ _ _ G.at W.at hr20 hc) ?_
  rintro e v3 ⟨rfl, b3⟩
  have s3 := b3.size
  replace W := W.below b3
  replace G := G.below b3
  replace cum := below2 cum b3
  replace cumS := cum.size
  clear b3
  go_wp2_with fail
  refine Calls.mono (markSS_any _ _ _ _ _ _ _ _ _ 1 tq _ G hr20 ht (by omega) (by omega)) ?_
  rintro e v4 ⟨rfl, G', T4⟩
  have s4 := T4.size
  replace W := W.turned T4 (by omega)
  replace cum := cum.trans (T4.below (by omega) (by omega))
  replace cumS := cum.size
  clear T4
  clear G
  have G := G'
  clear G'
  go_wp2_with fail
  refine Calls.mono (heldSS_any _ _ _ _ 1 tq _ G.at hr20 ht (by omega) htq) ?_
  rintro e w' ⟨rfl, hw⟩
  obtain rfl := hw.symm
  clear hw
  go_wp2_with fail
  refine Calls.mono (hI _) ?_
  rintro e v5 ⟨u5, rfl, ⟨aH, cH, AH, CH, rfl, H⟩, b5⟩
  have s5 := b5.size
  replace W := W.below b5
  replace G := G.below b5
  replace cum := below2 cum b5
  replace cumS := cum.size
  clear b5
  go_wp2_with fail
  refine Calls.mono (eqSS_same _ _ _ _ _ _ _ _ H.at W.at hr20 hc) ?_
  rintro e v6 ⟨rfl, b6⟩
  have s6 := b6.size
  replace W := W.below b6
  replace G := G.below b6
  replace H := H.below b6
  replace cum := below2 cum b6
  replace cumS := cum.size
  clear b6
  go_wp2_with fail
  refine Calls.mono (heldSS_any _ _ _ _ 1 tq _ G.at hr20 ht (by omega) htq) ?_
  rintro e w' ⟨rfl, hw⟩
  obtain rfl := hw.symm
  clear hw
  go_wp2
  go_ret
  exact ⟨rfl, cum⟩
end Go.Proofs.Ytojklpahobmleaa
namespace Go.Proofs.Ytojklpahobmleaa.fnExactSpread
open Go.ChangeShapes Go.WideShapes Go.ChangeAt Go.RowKit
open Go.ChangeMaps (open_string shut_string)
set_option linter.unusedVariables false
theorem own : ownKnob Try.prog.godebug = none := by kernel_rfl
set_option maxRecDepth 100000 in
theorem lifted (os : Os) (started : os.Started) (H : Type) (enc : TypeId × Value → H) :
    ReturnsInHanded {} Try.checked os 12 .any (Rows.fnExactSpreadSpec.pre6 enc Try.prog Try.f12 Rows.fnExactSpreadRow.domain false) (Rows.fnExactSpreadSpec.post enc Try.prog Try.f12 false true false false) := by
  refine returnsInHanded_of_change (C := Try.checked) own started (by kernel_rfl) Try.func12
    (ChangeSpec.witness6 (enc := enc) (C := Try.checked) false ⟨#[], #[.int .i64 0, .int .i64 0], []⟩ 8 (by kernel_rfl) (by kernel_rfl) (by kernel_rfl) (by kernel_rfl)) ?_
  intro W base args ds gs before hval0 hW hcnd _
  have hval : ∀ (j : Nat) t v, Try.f12.params[j]? = some t → args[j]? = some v → Value.okWide Try.prog W .any base t v := hval0
  have hW' := hW
  obtain ⟨p, q, hA0, hV, rfl, hfz, hnd⟩ := hW
  have hA : DataW.TrodAll enc Try.prog W 0 (fun _ => true) true Try.f12.params.toList args.toList ds p := hA0
  rw [Try.params12] at hA hval
  obtain ⟨v0, vs0, d0, ds0, p0, q0, hargs, rfl, rfl, h0, r0⟩ := trodAll_cons hA
  obtain ⟨v1, vs1, d1, ds1, p1, q1, rfl, rfl, rfl, h1, r1⟩ := trodAll_cons r0
  obtain ⟨rfl, rfl, rfl⟩ := trodAll_nil r1
  obtain rfl : args = #[v0, v1] := by cases args; simp_all
  obtain ⟨rfl, rfl⟩ := trodVars_none hV
  obtain ⟨a0, rfl, rfl, rfl, w0⟩ := open_int Try.underlying3 (hval 0 3 v0 rfl rfl) h0
  obtain ⟨a1, rfl, rfl, rfl, w1⟩ := open_int Try.underlying3 (hval 1 3 v1 rfl rfl) h1
  clear hA0 hval0
  simp only [List.append_nil] at hW'
  refine (walk_FnExactSpread a0 a1 W w0 w1).mono fun e W' ⟨he, bel⟩ => ?_
  subst he
  exact ⟨_, rfl, _, _, _, [], [], [], hW', trodAll_mk1 (shut_bool Try.underlying4 _), (trodAll_cons_mk (shut_int Try.underlying3 w0) (trodAll_cons_mk (shut_int Try.underlying3 w1) trodAll_mk0)), rfl, bel.frame _, fun h => by cases h⟩
theorem over : Rows.fnExactSpreadRow.holds Try.pinned (OpenSpec.ofChange Rows.fnExactSpreadSpec) :=
  OpenClaim.holds_of_wide 12 Try.f12 rfl rfl rfl rfl rfl rfl rfl ⟨rfl, rfl, rfl, rfl, rfl⟩ rfl rfl rfl rfl rfl (by kernel_rfl) Try.func12 (by kernel_rfl)
    (of_decide_eq_true (by kernel_rfl)) (by unfold Func.isWrapper; first | (rw [if_pos (by decide +kernel)]; kernel_rfl) | (rw [if_neg (by decide +kernel)]; exact ⟨rfl, rfl⟩))
    (fun os started H enc _ => lifted os started H enc)
theorem proved : Rows.FnExactSpreadSaid := over
#print axioms proved
end Go.Proofs.Ytojklpahobmleaa.fnExactSpread
