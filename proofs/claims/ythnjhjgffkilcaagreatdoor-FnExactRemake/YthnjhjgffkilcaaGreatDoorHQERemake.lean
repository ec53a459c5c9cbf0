/- For every input: the function Remake of the program answers as its model does, whatever its root, its pieces and its number are, leaves the pieces as they were, and its answer owns its memory. It holds where the library's variable errors.errorType stands as the program's text lays it. -/
import Derived.Test.YthnjhjgffkilcaaGreatDoorH46
namespace Go.Proofs.YthnjhjgffkilcaaGreatDoor.fnExactRemake
open Go.ChangeShapes Go.WideShapes Go.ChangeAt Go.RowKit
open Go.ChangeMaps (open_string shut_string)
set_option linter.unusedVariables false
theorem own : ownKnob Tryz.prog.godebug = none := by kernel_rfl
theorem laidOut : laidOutB Tryz.prog = true := by kernel_rfl
set_option maxRecDepth 100000 in
theorem lifted (os : Os) (started : os.Started) (H : Type) (enc : TypeId × Value → H) :
    ReturnsInHanded {} Tryz.checked os 8 .any (fun w args => (Rows.fnExactRemakeSpec.pre enc Tryz.prog Tryz.f8 [] false w args ∧ laidMetH Tryz.prog laidE w) ∧ sizedMet enc Tryz.prog Tryz.f8 (OpenSpec.ofChange Rows.fnExactRemakeSpec) false w args)
      (Rows.fnExactRemakeSpec.post enc Tryz.prog Tryz.f8 false true false false) := by
  refine returnsInHanded_of_change_and (C := Tryz.checked) (X := fun w _ => laidMetH Tryz.prog laidE w) (fun _ _ _ hh h => h.of_heap hh) own started (by kernel_rfl) Tryz.func8
    (ChangeSpec.witness_at (enc := enc) (C := Tryz.checked) (os := os) (X := fun w _ => laidMetH Tryz.prog laidE w) false (laidWorld os) #[.string ByteArray.empty, .slice none 0 0, .int .i64 0] 8 rfl (by kernel_rfl) (by kernel_rfl) (by kernel_rfl) (by kernel_rfl) (by kernel_rfl) (laidWorld_met os _)) ?_
  intro W base args ds gs before hval0 hW _ _ hL _
  have hval : ∀ (j : Nat) t v, Tryz.f8.params[j]? = some t → args[j]? = some v → Value.okWide Tryz.prog W .any base t v := hval0
  have hW' := hW
  obtain ⟨p, q, hA0, hV, rfl, hfz, hnd⟩ := hW
  have hA : DataW.TrodAll enc Tryz.prog W 0 (fun _ => true) true Tryz.f8.params.toList args.toList ds p := hA0
  rw [Tryz.params8] at hA hval
  obtain ⟨v0, vs0, d0, ds0, p0, q0, hargs, rfl, rfl, h0, r0⟩ := trodAll_cons hA
  obtain ⟨v1, vs1, d1, ds1, p1, q1, rfl, rfl, rfl, h1, r1⟩ := trodAll_cons r0
  obtain ⟨v2, vs2, d2, ds2, p2, q2, rfl, rfl, rfl, h2, r2⟩ := trodAll_cons r1
  obtain ⟨rfl, rfl, rfl⟩ := trodAll_nil r2
  obtain rfl : args = #[v0, v1, v2] := by cases args; simp_all
  obtain ⟨rfl, rfl⟩ := trodVars_none hV
  obtain ⟨a0, rfl, rfl, rfl, w0⟩ := open_string Tryz.underlying9 (hval 0 9 v0 rfl rfl) h0
  obtain ⟨a1, len1, cap1, rfl⟩ := okWide_slice Tryz.underlying56 (hval 1 56 v1 rfl rfl)
  have k1 := h1
  have lt1 : ∀ x ∈ p1, x.block < W.heap.size := by obtain ⟨m, hm⟩ := k1; exact DataW.trod_lt m _ _ _ hm
  obtain ⟨P1, w1⟩ : ∃ P : Nat → Pc, PiAt W a1 len1 P ∧ len1 ≤ maxLen ∧ ∀ i, i < len1 → PcB (P i) := by
    obtain ⟨fuel, hf⟩ := h1
    exact open_pieces (by simpa [Value.cells] using hf)
  obtain ⟨a2, rfl, rfl, rfl, w2⟩ := open_int Tryz.underlying3 (hval 2 3 v2 rfl rfl) h2
  clear hA0 hval0
  refine (walk_FnExactRemake a0 a1 len1 cap1 P1 a2 W w0 w1 w2 (errT_of_laid hL)).mono fun e W' ⟨he, bel⟩ => ?_
  subst he
  exact ⟨_, rfl, _, _, _, [], _, [], hW', trodAll_mk1 (shut_bool Tryz.underlying4 _), (trodAll_cons_mk (shut_string Tryz.underlying9 w0) (trodAll_cons_mk (Below.trod laidOut (by kernel_rfl) (of_decide_eq_true (by kernel_rfl)) k1 bel lt1) (trodAll_cons_mk (shut_int Tryz.underlying3 w2) trodAll_mk0))), rfl, bel.frame _, fun h => by cases h⟩
theorem over_fn : Tryz.prog.funcNamed Rows.fnExactRemakeRow.func = some 8 := by kernel_rfl
theorem over_jf : joinedFacts Tryz.prog 8 Tryz.f8 Rows.fnExactRemakeSpec Rows.fnExactRemakeRow = true := by kernel_rfl
theorem over_in : Tryz.f8.isInstance Tryz.prog Rows.fnExactRemakeRow.origin Rows.fnExactRemakeRow.targs := of_decide_eq_true (by kernel_rfl)
theorem over_wr : Tryz.f8.isWrapper Tryz.prog Rows.fnExactRemakeRow.wrapper Rows.fnExactRemakeRow.mainSum := by unfold Func.isWrapper; first | (rw [if_pos (by decide +kernel)]; kernel_rfl) | (rw [if_neg (by decide +kernel)]; exact ⟨rfl, rfl⟩)
theorem over_h (os : Os) (started : os.Started) (H : Type) (enc : TypeId × Value → H) : ReturnsInHanded Rows.fnExactRemakeRow.assume Tryz.checked os 8 .any (Rows.fnExactRemakeRow.pre enc Tryz.prog Tryz.f8 (OpenSpec.ofChange Rows.fnExactRemakeSpec)) (Rows.fnExactRemakeSpec.post enc Tryz.prog Tryz.f8 Rows.fnExactRemakeRow.apart Rows.fnExactRemakeRow.fresh Rows.fnExactRemakeRow.handsOn Rows.fnExactRemakeRow.again) := lifted os started H enc
theorem over : Rows.fnExactRemakeRow.holds Tryz.pinned (OpenSpec.ofChange Rows.fnExactRemakeSpec) :=
  OpenClaim.holds_of_wide 8 Tryz.f8 rfl rfl rfl rfl rfl rfl rfl ⟨rfl, rfl, rfl, rfl, rfl⟩ rfl rfl rfl rfl rfl over_fn Tryz.func8 over_jf over_in over_wr (fun os started H enc _ => over_h os started H enc)
theorem said : Rows.FnExactRemakeSaid := over
theorem proved : Rows.FnExactRemakeCardSaid :=
  Claim7.holds_tied_plain_at .later [] [.handle] true (true, Rows.fnExactRemakeCard.stood.harness.2) true
    said (fun _ h => by cases h) (by kernel_rfl) (fun _ h => by cases h) fnExactRemake_row_tie rfl ⟨rfl, rfl⟩ (by kernel_rfl) rfl
    (fun f fn hf hfn => by
      obtain rfl : f = 8 := Option.some.inj ((show Tryz.prog.funcNamed Rows.fnExactRemakeRow.func = some 8 by kernel_rfl).symm.trans hf) |>.symm
      obtain rfl : fn = Tryz.f8 := (Option.some.inj (Tryz.func8.symm.trans hfn)).symm
      exact ⟨by kernel_rfl, fun j t ht => by
        rw [Tryz.params8] at ht
        have hm : t ∈ [9, 56, 3] := by simpa using Array.mem_of_getElem? ht
        have hall : ([9, 56, 3].all fun u => !Tryz.prog.wantsStandIn u) = true := by kernel_rfl
        exact (show Tryz.prog.wantsStandIn t = false by simpa using List.all_eq_true.1 hall t hm)⟩)
    (by kernel_rfl)
#print axioms proved
end Go.Proofs.YthnjhjgffkilcaaGreatDoor.fnExactRemake
