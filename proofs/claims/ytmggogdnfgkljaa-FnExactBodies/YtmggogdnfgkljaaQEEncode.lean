/- For every input: the function Encode of the program answers as its model does, whatever its text and its numbers are, and its answer owns its memory. No condition. -/
import Derived.Test.YtmggogdnfgkljaaK7
namespace Go.Proofs.Ytmggogdnfgkljaa
open Go.ChangeShapes Go.WideShapes Go.ChangeAt Go.RowKit
theorem encR_le (s : ByteArray) (k n : Int) : encR s k n ≤ 16 := by
  unfold encR
  split
  · rename_i h
    have : sprOk k n = true := by unfold encOk at h; simp at h; exact h.2
    have := sprOk_parts this
    omega
  · omega
theorem ResT.row {w w' : World} {v : Value} {n : Nat} {S : Nat → ByteArray} (h : ResT w w' v n S) : ∃ a cap, v = .slice a n cap ∧ RowT w' w.heap.size w'.heap.size a n cap S := by
  obtain ⟨a, cap, rfl, ho⟩ := h
  exact ⟨a, cap, rfl, ho.row⟩
set_option maxRecDepth 100000 in
set_option maxHeartbeats 4000000 in
theorem walk_FnExactEncode (a0 : ByteArray) (a1 a2 : Int) (w : World) (_w0 : a0.size ≤ maxLen) (_w1 : (Lit.int .i64 a1).wf = true) (_w2 : (Lit.int .i64 a2).wf = true) :
    Calls Try.prog 10 #[.string a0, .int .i64 a1, .int .i64 a2] w fun e w' => e = .returned (.bool true) ∧ Below w.heap.size w w' := by
  clear _w0 _w1 _w2
  by_cases h0 : 1048576 < a0.size
  · have h0' : (1048576 : Int) < (a0.size : Int) := by omega
    go_enter Try.func10, Try.ntmps10
    go_wp2
    go_ret
    exact ⟨rfl, Below.refl _ _⟩
  have h0' : ¬ (1048576 : Int) < (a0.size : Int) := by omega
  have hS := fun w => sEncode_any a0 a1 a2 w (by omega)
  have hI := fun w => encode_any a0 a1 a2 w (by omega)
  have hr := encR_le a0 a1 a2
  generalize encR a0 a1 a2 = r at hS hI hr
  generalize encOk a0 a1 a2 = okf at hS hI
  generalize encS a0 a1.toNat = S at hS hI
  have hfl : (okf != okf) = false := by simp
  obtain ⟨tq, htq⟩ : ∃ tq, 1 + r = tq := ⟨_, rfl⟩
  have htq0 : ¬ ((tq : Int) < 0) := by omega
  have hqq : ((tq : Int) != (tq : Int)) = false := by simp
  go_enter Try.func10, Try.ntmps10
  go_wp2_with fail
  refine Calls.mono (hS _) ?_
  rintro e v1 ⟨u1, rfl, RW, cum⟩
  obtain ⟨aW, cW, rfl, W⟩ := RW.row
  have s1 := cum.size
  clear RW
  go_wp2_with fail
  refine Calls.mono (hI _) ?_
  rintro e v2 ⟨u2, rfl, RG, b2⟩
  obtain ⟨aG, cG, rfl, G⟩ := RG.row
  replace W := W.below b2
  replace cum := below2 cum b2
  have s2 := b2.size
  clear RG b2
  go_wp2_with fail
  refine Calls.mono (eqT_same _ _ _ _ _ _ _ G.at W.at (by omega)) ?_
  rintro e v3 ⟨rfl, b3⟩
  replace W := W.below b3
  replace G := G.below b3
  replace cum := below2 cum b3
  have s3 := b3.size
  clear b3
  go_wp2_with fail
  refine Calls.mono (markT_any _ _ _ _ _ _ 1 tq _ G (by omega) (by omega) htq) ?_
  rintro e v4 ⟨rfl, G', T4⟩
  replace W := W.turned T4 (by omega)
  replace cum := cum.trans (T4.below (by omega) (by omega))
  have s4 := T4.size
  clear G T4
  go_wp2_with fail
  refine Calls.mono (heldT_any _ _ _ 1 tq _ G'.at (by omega) (by omega) htq) ?_
  rintro e v5 ⟨rfl, b5⟩
  replace W := W.below b5
  replace G' := G'.below b5
  replace cum := below2 cum b5
  clear b5
  go_wp2_with fail
  refine Calls.mono (hI _) ?_
  rintro e v6 ⟨u6, rfl, RH, b6⟩
  obtain ⟨aH, cH, rfl, H⟩ := RH.row
  replace W := W.below b6
  replace G' := G'.below b6
  replace cum := below2 cum b6
  clear RH b6
  go_wp2_with fail
  refine Calls.mono (eqT_same _ _ _ _ _ _ _ H.at W.at (by omega)) ?_
  rintro e v7 ⟨rfl, b7⟩
  replace G' := G'.below b7
  replace cum := below2 cum b7
  clear b7 W H
  go_wp2_with fail
  refine Calls.mono (heldT_any _ _ _ 1 tq _ G'.at (by omega) (by omega) htq) ?_
  rintro e v8 ⟨rfl, b8⟩
  replace cum := below2 cum b8
  clear b8 G'
  go_wp2
  go_ret
  exact ⟨rfl, cum⟩
end Go.Proofs.Ytmggogdnfgkljaa
namespace Go.Proofs.Ytmggogdnfgkljaa.fnExactEncode
open Go.ChangeShapes Go.WideShapes Go.ChangeAt Go.RowKit
open Go.ChangeMaps (open_string shut_string)
set_option linter.unusedVariables false
theorem own : ownKnob Try.prog.godebug = none := by kernel_rfl
set_option maxRecDepth 100000 in
theorem lifted (os : Os) (started : os.Started) (H : Type) (enc : TypeId × Value → H) :
    ReturnsInHanded {} Try.checked os 10 .any (Rows.fnExactEncodeSpec.pre6 enc Try.prog Try.f10 Rows.fnExactEncodeRow.domain false) (Rows.fnExactEncodeSpec.post enc Try.prog Try.f10 false true false false) := by
  refine returnsInHanded_of_change (C := Try.checked) own started (by kernel_rfl) Try.func10
    (ChangeSpec.witness6 (enc := enc) (C := Try.checked) false ⟨#[], #[.string ByteArray.empty, .int .i64 0, .int .i64 0], []⟩ 8 (by kernel_rfl) (by kernel_rfl) (by kernel_rfl) (by kernel_rfl)) ?_
  intro W base args ds gs before hval0 hW hcnd _
  have hval : ∀ (j : Nat) t v, Try.f10.params[j]? = some t → args[j]? = some v → Value.okWide Try.prog W .any base t v := hval0
  have hW' := hW
  obtain ⟨p, q, hA0, hV, rfl, hfz, hnd⟩ := hW
  have hA : DataW.TrodAll enc Try.prog W 0 (fun _ => true) true Try.f10.params.toList args.toList ds p := hA0
  rw [Try.params10] at hA hval
  obtain ⟨v0, vs0, d0, ds0, p0, q0, hargs, rfl, rfl, h0, r0⟩ := trodAll_cons hA
  obtain ⟨v1, vs1, d1, ds1, p1, q1, rfl, rfl, rfl, h1, r1⟩ := trodAll_cons r0
  obtain ⟨v2, vs2, d2, ds2, p2, q2, rfl, rfl, rfl, h2, r2⟩ := trodAll_cons r1
  obtain ⟨rfl, rfl, rfl⟩ := trodAll_nil r2
  obtain rfl : args = #[v0, v1, v2] := by cases args; simp_all
  obtain ⟨rfl, rfl⟩ := trodVars_none hV
  obtain ⟨a0, rfl, rfl, rfl, w0⟩ := open_string Try.underlying9 (hval 0 9 v0 rfl rfl) h0
  obtain ⟨a1, rfl, rfl, rfl, w1⟩ := open_int Try.underlying3 (hval 1 3 v1 rfl rfl) h1
  obtain ⟨a2, rfl, rfl, rfl, w2⟩ := open_int Try.underlying3 (hval 2 3 v2 rfl rfl) h2
  clear hA0 hval0
  simp only [List.append_nil] at hW'
  refine (walk_FnExactEncode a0 a1 a2 W w0 w1 w2).mono fun e W' ⟨he, bel⟩ => ?_
  subst he
  exact ⟨_, rfl, _, _, _, [], [], [], hW', trodAll_mk1 (shut_bool Try.underlying4 _), (trodAll_cons_mk (shut_string Try.underlying9 w0) (trodAll_cons_mk (shut_int Try.underlying3 w1) (trodAll_cons_mk (shut_int Try.underlying3 w2) trodAll_mk0))), rfl, bel.frame _, fun h => by cases h⟩
theorem over : Rows.fnExactEncodeRow.holds Try.pinned (OpenSpec.ofChange Rows.fnExactEncodeSpec) :=
  OpenClaim.holds_of_wide 10 Try.f10 rfl rfl rfl rfl rfl rfl rfl ⟨rfl, rfl, rfl, rfl, rfl⟩ rfl rfl rfl rfl rfl (by kernel_rfl) Try.func10 (by kernel_rfl)
    (of_decide_eq_true (by kernel_rfl)) (by unfold Func.isWrapper; first | (rw [if_pos (by decide +kernel)]; kernel_rfl) | (rw [if_neg (by decide +kernel)]; exact ⟨rfl, rfl⟩))
    (fun os started H enc _ => lifted os started H enc)
theorem proved : Rows.FnExactEncodeSaid := over
#print axioms proved
end Go.Proofs.Ytmggogdnfgkljaa.fnExactEncode
