/- For every input: the function Unit of the program answers as its model does, whatever its arguments are, leaves them as they were, and its answer owns its memory. No condition. -/
import Derived.Test.YtojklpahobmleaaMSpecC
import Derived.Test.YtojklpahobmleaaMLawB
import Derived.Test.YtojklpahobmleaaMBound
namespace Go.Proofs.Ytojklpahobmleaa
open Go.ChangeShapes Go.WideShapes Go.ChangeAt Go.RowKit
set_option maxRecDepth 100000 in
set_option maxHeartbeats 4000000 in
theorem walk_FnExactUnit (a0 : Int) (w : World) (_w0 : (Lit.int .i64 a0).wf = true) :
    Calls Try.prog 7 #[.int .i64 a0] w fun e w' => e = .returned (.bool true) ∧ Below w.heap.size w w' := by
  have hS := fun w => sUnit_any a0 w
  have hI := fun w => unit_any a0 w
  obtain ⟨r, er⟩ : ∃ r, unitN a0 = r := ⟨_, rfl⟩
  have hr : r ≤ 16 := by rw [← er]; exact unitN_le a0
  obtain ⟨okf, ek⟩ : ∃ k, side a0 = k := ⟨_, rfl⟩
  rw [er, ek] at hS hI
  clear er ek
  obtain ⟨c, ec⟩ : ∃ c, c = r := ⟨_, rfl⟩
  have hS : ∀ w, Calls Try.prog 37 #[.int .i64 a0] w fun e w' => ∃ v, e = .returned (.tuple #[v, .bool okf]) ∧ ResM w w' v r c Gm.dl ∧ Below w.heap.size w w' := by rw [ec]; exact hS
  have hI : ∀ w, Calls Try.prog 23 #[.int .i64 a0] w fun e w' => ∃ v, e = .returned (.tuple #[v, .bool okf]) ∧ ResM w w' v r c Gm.dl ∧ Below w.heap.size w w' := by rw [ec]; exact hI
  have hc : ∀ i, i < r → c ≤ 1048576 := fun i _ => by omega
  have ht : tot (fun _ => c) r ≤ 1048576 := tot_small hr (fun _ => by omega)
  clear ec
  have hfl : (okf != okf) = false := by simp
  have hr20 : r ≤ 1048576 := by omega
  obtain ⟨tq, htq⟩ : ∃ tq, 1 + tot (fun _ => c) r = tq := ⟨_, rfl⟩
  have htq0 : ¬ ((tq : Int) < 0) := by omega
  go_enter Try.func7, Try.ntmps7
  go_wp2_with fail
  refine Calls.mono (hS _) ?_
  rintro e v1 ⟨u1, rfl, ⟨aW, cW, AW, CW, rfl, W⟩, b1⟩
  have s1 := b1.size
  have cum := b1
  have cumS := cum.size
  clear b1
  go_wp2_with fail
  refine Calls.mono (hI _) ?_
  rintro e v2 ⟨u2, rfl, ⟨aG, cG, AG, CG, rfl, G⟩, b2⟩
  have s2 := b2.size
  replace W := W.below b2
  replace cum := below2 cum b2
  replace cumS := cum.size
  clear b2
  go_wp2_with fail
  refine Calls.mono (eqSS_same _ _ _ _ _ _ _ _ G.at W.at hr20 hc) ?_
  rintro e v3 ⟨rfl, b3⟩
  have s3 := b3.size
  replace W := W.below b3
  replace G := G.below b3
  replace cum := below2 cum b3
  replace cumS := cum.size
  clear b3
  go_wp2_with fail
  refine Calls.mono (markSS_any _ _ _ _ _ _ _ _ _ 1 tq _ G hr20 ht (by omega) (by omega)) ?_
  rintro e v4 ⟨rfl, G', T4⟩
  have s4 := T4.size
  replace W := W.turned T4 (by omega)
  replace cum := cum.trans (T4.below (by omega) (by omega))
  replace cumS := cum.size
  clear T4
  clear G
  have G := G'
  clear G'
  go_wp2_with fail
  refine Calls.mono (heldSS_any _ _ _ _ 1 tq _ G.at hr20 ht (by omega) htq) ?_
  rintro e w' ⟨rfl, hw⟩
  obtain rfl := hw.symm
  clear hw
  go_wp2_with fail
  refine Calls.mono (hI _) ?_
  rintro e v5 ⟨u5, rfl, ⟨aH, cH, AH, CH, rfl, H⟩, b5⟩
  have s5 := b5.size
  replace W := W.below b5
  replace G := G.below b5
  replace cum := below2 cum b5
  replace cumS := cum.size
  clear b5
  go_wp2_with fail
  refine Calls.mono (eqSS_same _ _ _ _ _ _ _ _ H.at W.at hr20 hc) ?_
  rintro e v6 ⟨rfl, b6⟩
  have s6 := b6.size
  replace W := W.below b6
  replace G := G.below b6
  replace H := H.below b6
  replace cum := below2 cum b6
  replace cumS := cum.size
  clear b6
  go_wp2_with fail
  refine Calls.mono (heldSS_any _ _ _ _ 1 tq _ G.at hr20 ht (by omega) htq) ?_
  rintro e w' ⟨rfl, hw⟩
  obtain rfl := hw.symm
  clear hw
  go_wp2
  go_ret
  exact ⟨rfl, cum⟩
end Go.Proofs.Ytojklpahobmleaa
namespace Go.Proofs.Ytojklpahobmleaa.fnExactUnit
open Go.ChangeShapes Go.WideShapes Go.ChangeAt Go.RowKit
open Go.ChangeMaps (open_string shut_string)
set_option linter.unusedVariables false
theorem own : ownKnob Try.prog.godebug = none := by kernel_rfl
set_option maxRecDepth 100000 in
theorem lifted (os : Os) (started : os.Started) (H : Type) (enc : TypeId × Value → H) :
    ReturnsInHanded {} Try.checked os 7 .any (Rows.fnExactUnitSpec.pre6 enc Try.prog Try.f7 Rows.fnExactUnitRow.domain false) (Rows.fnExactUnitSpec.post enc Try.prog Try.f7 false true false false) := by
  refine returnsInHanded_of_change (C := Try.checked) own started (by kernel_rfl) Try.func7
    (ChangeSpec.witness6 (enc := enc) (C := Try.checked) false ⟨#[], #[.int .i64 0], []⟩ 8 (by kernel_rfl) (by kernel_rfl) (by kernel_rfl) (by kernel_rfl)) ?_
  intro W base args ds gs before hval0 hW hcnd _
  have hval : ∀ (j : Nat) t v, Try.f7.params[j]? = some t → args[j]? = some v → Value.okWide Try.prog W .any base t v := hval0
  have hW' := hW
  obtain ⟨p, q, hA0, hV, rfl, hfz, hnd⟩ := hW
  have hA : DataW.TrodAll enc Try.prog W 0 (fun _ => true) true Try.f7.params.toList args.toList ds p := hA0
  rw [Try.params7] at hA hval
  obtain ⟨v0, vs0, d0, ds0, p0, q0, hargs, rfl, rfl, h0, r0⟩ := trodAll_cons hA
  obtain ⟨rfl, rfl, rfl⟩ := trodAll_nil r0
  obtain rfl : args = #[v0] := by cases args; simp_all
  obtain ⟨rfl, rfl⟩ := trodVars_none hV
  obtain ⟨a0, rfl, rfl, rfl, w0⟩ := open_int Try.underlying3 (hval 0 3 v0 rfl rfl) h0
  clear hA0 hval0
  simp only [List.append_nil] at hW'
  refine (walk_FnExactUnit a0 W w0).mono fun e W' ⟨he, bel⟩ => ?_
  subst he
  exact ⟨_, rfl, _, _, _, [], [], [], hW', trodAll_mk1 (shut_bool Try.underlying4 _), (trodAll_cons_mk (shut_int Try.underlying3 w0) trodAll_mk0), rfl, bel.frame _, fun h => by cases h⟩
theorem over : Rows.fnExactUnitRow.holds Try.pinned (OpenSpec.ofChange Rows.fnExactUnitSpec) :=
  OpenClaim.holds_of_wide 7 Try.f7 rfl rfl rfl rfl rfl rfl rfl ⟨rfl, rfl, rfl, rfl, rfl⟩ rfl rfl rfl rfl rfl (by kernel_rfl) Try.func7 (by kernel_rfl)
    (of_decide_eq_true (by kernel_rfl)) (by unfold Func.isWrapper; first | (rw [if_pos (by decide +kernel)]; kernel_rfl) | (rw [if_neg (by decide +kernel)]; exact ⟨rfl, rfl⟩))
    (fun os started H enc _ => lifted os started H enc)
theorem proved : Rows.FnExactUnitSaid := over
#print axioms proved
end Go.Proofs.Ytojklpahobmleaa.fnExactUnit
