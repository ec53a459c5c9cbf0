/- For every input: the function NetGet of the program answers as its model does, whatever its net, its root and its lies are, and leaves the net and the lies as they were. It holds where the library's variable errors.errorType stands as the program's text lays it. -/
import Derived.Test.YtmhcdkbgjjibeaaGreatDoorG29
import Derived.Test.YtmhcdkbgjjibeaaGreatDoorG19
set_option maxHeartbeats 8000000
set_option maxRecDepth 2000
namespace Go.Proofs.YtmhcdkbgjjibeaaGreatDoor.fnExactNetGet
open Go.ChangeShapes Go.WideShapes Go.ChangeAt Go.RowKit
open Go.ChangeMaps (open_string shut_string)
set_option linter.unusedVariables false
theorem own : ownKnob Tryz.prog.godebug = none := by kernel_rfl
theorem laidOut : laidOutB Tryz.prog = true := by kernel_rfl
set_option maxRecDepth 100000 in
theorem lifted (os : Os) (started : os.Started) (H : Type) (enc : TypeId × Value → H) :
  ReturnsInHanded {} Tryz.checked os 3 .any (fun w args => (Rows.fnExactNetGetSpec.pre enc Tryz.prog Tryz.f3 [] false w args ∧ laidMetH Tryz.prog laidE w) ∧ sizedMet enc Tryz.prog Tryz.f3 (OpenSpec.ofChange Rows.fnExactNetGetSpec) false w args)
   (Rows.fnExactNetGetSpec.post enc Tryz.prog Tryz.f3 false true false false) := by
 refine returnsInHanded_of_change_and (C := Tryz.checked) (X := fun w _ => laidMetH Tryz.prog laidE w) (fun _ _ _ hh h => h.of_heap hh) own started (by kernel_rfl) Tryz.func3
  (ChangeSpec.witness_at (enc := enc) (C := Tryz.checked) (os := os) (X := fun w _ => laidMetH Tryz.prog laidE w) false (laidWorld os) #[.agg #[.int .i64 0, .slice none 0 0, .slice none 0 0, .slice none 0 0], .string ByteArray.empty, .slice none 0 0] 8 rfl (by kernel_rfl) (by kernel_rfl) (by kernel_rfl) (by kernel_rfl) (by kernel_rfl) (laidWorld_met os _)) ?_
 intro W base args ds gs before hval0 hW _ _ hL _
 have hval : ∀ (j : Nat) t v, Tryz.f3.params[j]? = some t → args[j]? = some v → Value.okWide Tryz.prog W .any base t v := hval0
 have hW' := hW
 obtain ⟨p, q, hA0, hV, rfl, hfz, hnd⟩ := hW
 have hA : DataW.TrodAll enc Tryz.prog W 0 (fun _ => true) true Tryz.f3.params.toList args.toList ds p := hA0
 rw [Tryz.params3] at hA hval
 obtain ⟨v0, vs0, d0, ds0, p0, q0, hargs, rfl, rfl, h0, r0⟩ := trodAll_cons hA
 obtain ⟨v1, vs1, d1, ds1, p1, q1, rfl, rfl, rfl, h1, r1⟩ := trodAll_cons r0
 obtain ⟨v2, vs2, d2, ds2, p2, q2, rfl, rfl, rfl, h2, r2⟩ := trodAll_cons r1
 obtain ⟨rfl, rfl, rfl⟩ := trodAll_nil r2
 obtain rfl : args = #[v0, v1, v2] := by cases args; simp_all
 obtain ⟨rfl, rfl⟩ := trodVars_none hV
 obtain ⟨cs0, rfl, _, _⟩ : ∃ cs, v0 = .agg cs ∧ cs.size = Tryz.prog.cellsOf 26 ∧ Row.okWide Tryz.prog W .any base 26 cs := by
  have := hval 0 26 v0 rfl rfl
  simpa [Value.okWide, Tryz.underlying26] using this
 have k0 := h0
 have lt0 : ∀ x ∈ p0, x.block < W.heap.size := by obtain ⟨m, hm⟩ := k0; exact DataW.trod_lt m _ _ _ hm
 obtain ⟨r0f, r0a, r0n, r0c, r0l, r0z, r0d, r0e, r0m, r0g, r0N, r0Y, hcs0, w0⟩ : ∃ (f : Int) (a : Option Addr) (n c : Nat) (l : Option Addr) (zs : List Int) (d : Nat) (e : Option Addr) (m g : Nat) (N : Nat → Nd) (Y : Nat → Sy), cs0.toList = [.int .i64 f, .slice a n c, .slice l zs.length d, .slice e m g] ∧ NetA W a n c l zs e m g N Y := by
  obtain ⟨fuel, hf⟩ := h0
  exact open_net (by simpa [Value.cells] using hf)
 obtain ⟨l0⟩ := cs0
 obtain rfl : l0 = _ := hcs0
 obtain ⟨a1, rfl, rfl, rfl, w1⟩ := open_string Tryz.underlying9 (hval 1 9 v1 rfl rfl) h1
 obtain ⟨a2, len2, cap2, rfl⟩ := okWide_slice Tryz.underlying27 (hval 2 27 v2 rfl rfl)
 have k2 := h2
 have lt2 : ∀ x ∈ p2, x.block < W.heap.size := by obtain ⟨m, hm⟩ := k2; exact DataW.trod_lt m _ _ _ hm
 obtain ⟨P2, w2⟩ : ∃ P : Nat → Pc, PiAt W a2 len2 P ∧ len2 ≤ maxLen ∧ ∀ i, i < len2 → PcB (P i) := by
  obtain ⟨fuel, hf⟩ := h2
  exact open_pieces (by simpa [Value.cells] using hf)
 clear hA0 hval0
 refine (walk_FnExactNetGet r0f r0a r0n r0c r0l r0z r0d r0e r0m r0g r0N r0Y a1 a2 len2 cap2 P2 W w0 w1 w2 (errT_of_laid hL)).mono fun e W' ⟨he, bel⟩ => ?_
 subst he
 exact ⟨_, rfl, _, _, _, [], _, [], hW', trodAll_mk1 (shut_bool Tryz.underlying4 _), (trodAll_cons_mk (Below.trod laidOut (by kernel_rfl) (of_decide_eq_true (by kernel_rfl)) k0 bel lt0) (trodAll_cons_mk (shut_string Tryz.underlying9 w1) (trodAll_cons_mk (Below.trod laidOut (by kernel_rfl) (of_decide_eq_true (by kernel_rfl)) k2 bel lt2) trodAll_mk0))), rfl, bel.frame _, fun h => by cases h⟩
theorem over_fn : Tryz.prog.funcNamed Rows.fnExactNetGetRow.func = some 3 := by kernel_rfl
theorem over_jf : joinedFacts Tryz.prog 3 Tryz.f3 Rows.fnExactNetGetSpec Rows.fnExactNetGetRow = true := by kernel_rfl
theorem over_in : Tryz.f3.isInstance Tryz.prog Rows.fnExactNetGetRow.origin Rows.fnExactNetGetRow.targs := of_decide_eq_true (by kernel_rfl)
theorem over_wr : Tryz.f3.isWrapper Tryz.prog Rows.fnExactNetGetRow.wrapper Rows.fnExactNetGetRow.mainSum := by unfold Func.isWrapper; first | (rw [if_pos (by decide +kernel)]; kernel_rfl) | (rw [if_neg (by decide +kernel)]; exact ⟨rfl, rfl⟩)
theorem over_h (os : Os) (started : os.Started) (H : Type) (enc : TypeId × Value → H) : ReturnsInHanded Rows.fnExactNetGetRow.assume Tryz.checked os 3 .any (Rows.fnExactNetGetRow.pre enc Tryz.prog Tryz.f3 (OpenSpec.ofChange Rows.fnExactNetGetSpec)) (Rows.fnExactNetGetSpec.post enc Tryz.prog Tryz.f3 Rows.fnExactNetGetRow.apart Rows.fnExactNetGetRow.fresh Rows.fnExactNetGetRow.handsOn Rows.fnExactNetGetRow.again) := lifted os started H enc
theorem over : Rows.fnExactNetGetRow.holds Tryz.pinned (OpenSpec.ofChange Rows.fnExactNetGetSpec) :=
 OpenClaim.holds_of_wide 3 Tryz.f3 rfl rfl rfl rfl rfl rfl rfl ⟨rfl, rfl, rfl, rfl, rfl⟩ rfl rfl rfl rfl rfl over_fn Tryz.func3 over_jf over_in over_wr (fun os started H enc _ => over_h os started H enc)
theorem said : Rows.FnExactNetGetSaid := over
theorem proved : Rows.FnExactNetGetCardSaid :=
 Claim7.holds_tied_plain_at .later [] [.handle] true (true, Rows.fnExactNetGetCard.stood.harness.2) true
  said (fun _ h => by cases h) (by kernel_rfl) (fun _ h => by cases h) fnExactNetGet_row_tie rfl ⟨rfl, rfl⟩ (by kernel_rfl) rfl
  (fun f fn hf hfn => by
   obtain rfl : f = 3 := Option.some.inj ((show Tryz.prog.funcNamed Rows.fnExactNetGetRow.func = some 3 by kernel_rfl).symm.trans hf) |>.symm
   obtain rfl : fn = Tryz.f3 := (Option.some.inj (Tryz.func3.symm.trans hfn)).symm
   exact ⟨by kernel_rfl, fun j t ht => by
    rw [Tryz.params3] at ht
    have hm : t ∈ [26, 9, 27] := by simpa using Array.mem_of_getElem? ht
    have hall : ([26, 9, 27].all fun u => !Tryz.prog.wantsStandIn u) = true := by kernel_rfl
    exact (show Tryz.prog.wantsStandIn t = false by simpa using List.all_eq_true.1 hall t hm)⟩)
  (by kernel_rfl)
#print axioms proved
end Go.Proofs.YtmhcdkbgjjibeaaGreatDoor.fnExactNetGet
