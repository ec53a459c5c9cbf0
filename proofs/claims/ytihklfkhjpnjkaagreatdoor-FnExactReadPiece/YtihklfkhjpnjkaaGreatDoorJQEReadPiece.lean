/- For every input: the function ReadPiece of the program answers as its model does, whatever the text is, and its answer owns its memory. It holds where the library's variables that the row lists stand as the program's text lays them. -/
import Derived.Test.YtihklfkhjpnjkaaGreatDoorJ33
import Derived.Test.YtihklfkhjpnjkaaGreatDoorJ27
set_option maxHeartbeats 8000000
set_option maxRecDepth 2000
namespace Go.Proofs.YtihklfkhjpnjkaaGreatDoor.fnExactReadPiece
open Go.ChangeShapes Go.WideShapes Go.ChangeAt Go.RowKit
open Go.ChangeMaps (open_string shut_string)
set_option linter.unusedVariables false
theorem own : ownKnob Tryz.prog.godebug = none := by kernel_rfl
set_option maxRecDepth 100000 in
theorem lifted (os : Os) (started : os.Started) (H : Type) (enc : TypeId × Value → H) :
  ReturnsInHanded {} Tryz.checked os 5 .any (fun w args => (Rows.fnExactReadPieceSpec.pre enc Tryz.prog Tryz.f5 [] false w args ∧ laidMetH Tryz.prog laid8 w) ∧ sizedMet enc Tryz.prog Tryz.f5 (OpenSpec.ofChange Rows.fnExactReadPieceSpec) false w args)
   (Rows.fnExactReadPieceSpec.post enc Tryz.prog Tryz.f5 false true false false) := by
 refine handed_shaped (C := Tryz.checked) (X := fun w _ => laidMetH Tryz.prog laid8 w) (fun _ _ _ hh h => h.of_heap hh) own started (by kernel_rfl) Tryz.func5
  (ChangeSpec.witness_shaped (enc := enc) (C := Tryz.checked) (os := os) (X := fun w _ => laidMetH Tryz.prog laid8 w) false (laidW8 os) #[.string ByteArray.empty] 8 rfl (World.shaped_of_RefB (by kernel_rfl) (by kernel_rfl)) (by kernel_rfl) (by kernel_rfl) (by kernel_rfl) (laidW8_met os _)) ?_
 intro W base args ds gs before hval0 hW hL hSh
 have hval : ∀ (j : Nat) t v, Tryz.f5.params[j]? = some t → args[j]? = some v → Value.okWide Tryz.prog W .any base t v := hval0
 have hW' := hW
 obtain ⟨p, q, hA0, hV, rfl, hfz, hnd⟩ := hW
 have hA : DataW.TrodAll enc Tryz.prog W 0 (fun _ => true) true Tryz.f5.params.toList args.toList ds p := hA0
 rw [Tryz.params5] at hA hval
 obtain ⟨v0, vs0, d0, ds0, p0, q0, hargs, rfl, rfl, h0, r0⟩ := trodAll_cons hA
 obtain ⟨rfl, rfl, rfl⟩ := trodAll_nil r0
 obtain rfl : args = #[v0] := by cases args; simp_all
 obtain ⟨rfl, rfl⟩ := trodVars_none hV
 obtain ⟨a0, rfl, rfl, rfl, w0⟩ := open_string Tryz.underlying9 (hval 0 9 v0 rfl rfl) h0
 clear hA0 hval0
 simp only [List.append_nil] at hW'
 refine (walk_FnExactReadPiece a0 W w0 (num_of_laid8 hL hSh) (errT_of_laid8 hL) (tab_of_laid8 hL)).mono fun e W' ⟨he, bel⟩ => ?_
 subst he
 exact ⟨_, rfl, _, _, _, [], [], [], hW', trodAll_mk1 (shut_bool Tryz.underlying4 _), (trodAll_cons_mk (shut_string Tryz.underlying9 w0) trodAll_mk0), rfl, bel.frame _, fun h => by cases h⟩
theorem over_fn : Tryz.prog.funcNamed Rows.fnExactReadPieceRow.func = some 5 := by kernel_rfl
theorem over_jf : joinedFacts Tryz.prog 5 Tryz.f5 Rows.fnExactReadPieceSpec Rows.fnExactReadPieceRow = true := by kernel_rfl
theorem over_in : Tryz.f5.isInstance Tryz.prog Rows.fnExactReadPieceRow.origin Rows.fnExactReadPieceRow.targs := of_decide_eq_true (by kernel_rfl)
theorem over_wr : Tryz.f5.isWrapper Tryz.prog Rows.fnExactReadPieceRow.wrapper Rows.fnExactReadPieceRow.mainSum := by unfold Func.isWrapper; first | (rw [if_pos (by decide +kernel)]; kernel_rfl) | (rw [if_neg (by decide +kernel)]; exact ⟨rfl, rfl⟩)
theorem over_h (os : Os) (started : os.Started) (H : Type) (enc : TypeId × Value → H) : ReturnsInHanded Rows.fnExactReadPieceRow.assume Tryz.checked os 5 .any (Rows.fnExactReadPieceRow.pre enc Tryz.prog Tryz.f5 (OpenSpec.ofChange Rows.fnExactReadPieceSpec)) (Rows.fnExactReadPieceSpec.post enc Tryz.prog Tryz.f5 Rows.fnExactReadPieceRow.apart Rows.fnExactReadPieceRow.fresh Rows.fnExactReadPieceRow.handsOn Rows.fnExactReadPieceRow.again) := lifted os started H enc
theorem over : Rows.fnExactReadPieceRow.holds Tryz.pinned (OpenSpec.ofChange Rows.fnExactReadPieceSpec) :=
 OpenClaim.holds_of_wide 5 Tryz.f5 rfl rfl rfl rfl rfl rfl rfl ⟨rfl, rfl, rfl, rfl, rfl⟩ rfl rfl rfl rfl rfl over_fn Tryz.func5 over_jf over_in over_wr (fun os started H enc _ => over_h os started H enc)
theorem said : Rows.FnExactReadPieceSaid := over
theorem proved : Rows.FnExactReadPieceCardSaid :=
 Claim7.holds_tied_plain_at .later [] [.data, .data, .data, .data, .handle, .sentinel, .sentinel, .pinned] true (true, Rows.fnExactReadPieceCard.stood.harness.2) true
  said (fun _ h => by cases h) (by kernel_rfl) (fun _ h => by cases h) fnExactReadPiece_row_tie rfl ⟨rfl, rfl⟩ (by kernel_rfl) rfl
  (fun f fn hf hfn => by
   obtain rfl : f = 5 := Option.some.inj ((show Tryz.prog.funcNamed Rows.fnExactReadPieceRow.func = some 5 by kernel_rfl).symm.trans hf) |>.symm
   obtain rfl : fn = Tryz.f5 := (Option.some.inj (Tryz.func5.symm.trans hfn)).symm
   exact ⟨by kernel_rfl, fun j t ht => by
    rw [Tryz.params5] at ht
    have hm : t ∈ [9] := by simpa using Array.mem_of_getElem? ht
    have hall : ([9].all fun u => !Tryz.prog.wantsStandIn u) = true := by kernel_rfl
    exact (show Tryz.prog.wantsStandIn t = false by simpa using List.all_eq_true.1 hall t hm)⟩)
  (by kernel_rfl)
#print axioms proved
end Go.Proofs.YtihklfkhjpnjkaaGreatDoor.fnExactReadPiece
