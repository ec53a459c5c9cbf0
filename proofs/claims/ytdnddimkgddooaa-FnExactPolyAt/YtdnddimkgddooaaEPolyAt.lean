/- For every input: the function PolyAt of the program answers as its model does, whatever its list and number are, and leaves the list as it was. No condition. -/
import Derived.Test.YtdnddimkgddooaaPSpecB
namespace Go.Proofs.Ytdnddimkgddooaa
open Go.ChangeShapes Go.WideShapes Go.ChangeAt Go.RowKit
set_option maxHeartbeats 1000000 in
theorem walk_FnExactPolyAt (a0 : Option Addr) (len0 cap0 : Nat) (z0 : List Int) (a1 : Int) (w : World) (w0 : IsRow .i64 w a0 len0 cap0 z0) (_w1 : (Lit.int .i64 a1).wf = true) :
    Calls Try.prog 10 #[.slice a0 len0 cap0, .int .i64 a1] w fun e w' => e = .returned (.bool true) ∧ Below w.heap.size w w' := by
  obtain ⟨_, hA, _⟩ := w0.ints
  clear w0 _w1
  by_cases h0 : 1048576 < len0
  · have h0' : (1048576 : Int) < (len0 : Int) := by omega
    go_enter Try.func10, Try.ntmps10
    go_wp2
    go_ret
    exact ⟨rfl, Below.refl _ _⟩
  · have h0' : ¬ (1048576 : Int) < (len0 : Int) := by omega
    have n0 : len0 ≤ 1048576 := by omega
    generalize z0.take len0 = xs at hA
    have heq : (atP xs a1 != atP xs a1) = false := by simp
    go_enter Try.func10, Try.ntmps10
    go_wp2_with fail
    refine (toIntS_any a0 len0 cap0 xs _ hA n0).mono ?_
    rintro e v1 ⟨rfl, o1, b1⟩
    have p1 := ownsRow.ints o1
    have hA1 := hA.below b1
    clear o1 hA
    go_wp2_with fail
    refine (sPolyAt_any _ _ _ xs _ _ p1 n0).mono ?_
    rintro e v2 ⟨rfl, b2⟩
    have hA2 := hA1.below b2
    clear p1 hA1
    go_wp2_with fail
    refine (toIntS_any a0 len0 cap0 xs _ hA2 n0).mono ?_
    rintro e v3 ⟨rfl, o3, b3⟩
    have p3 := ownsRow.ints o3
    have hA3 := hA2.below b3
    clear o3 hA2
    go_wp2_with fail
    refine (polyAt_any _ _ _ xs _ _ p3 n0).mono ?_
    rintro e v4 ⟨rfl, b4⟩
    have p4 := p3.below b4
    have hA4 := hA3.below b4
    clear p3 hA3
    go_wp2_with fail
    refine (toIntS_any a0 len0 cap0 xs _ hA4 n0).mono ?_
    rintro e v5 ⟨rfl, o5, b5⟩
    have r5 := ownsRow.ints o5
    have p5 := p4.below b5
    clear o5 hA4 p4
    go_wp2_with fail
    refine (eqIntS_same _ _ _ _ _ xs _ p5 r5 n0).mono ?_
    rintro e v6 ⟨rfl, b6⟩
    go_wp2
    go_ret
    exact ⟨rfl, below2 (below2 (below2 (below2 (below2 b1 b2) b3) b4) b5) b6⟩
end Go.Proofs.Ytdnddimkgddooaa
namespace Go.Proofs.Ytdnddimkgddooaa.fnExactPolyAt
open Go.ChangeShapes Go.WideShapes Go.ChangeAt Go.RowKit
open Go.ChangeMaps (open_string shut_string)
set_option linter.unusedVariables false
theorem own : ownKnob Try.prog.godebug = none := by kernel_rfl
theorem laidOut : laidOutB Try.prog = true := by kernel_rfl
set_option maxRecDepth 100000 in
theorem lifted (os : Os) (started : os.Started) (H : Type) (enc : TypeId × Value → H) :
    ReturnsInHanded {} Try.checked os 10 .any (Rows.fnExactPolyAtSpec.pre6 enc Try.prog Try.f10 Rows.fnExactPolyAtRow.domain false) (Rows.fnExactPolyAtSpec.post enc Try.prog Try.f10 false true false false) := by
  refine returnsInHanded_of_change (C := Try.checked) own started (by kernel_rfl) Try.func10
    (ChangeSpec.witness6 (enc := enc) (C := Try.checked) false ⟨#[], #[.slice none 0 0, .int .i64 0], []⟩ 8 (by kernel_rfl) (by kernel_rfl) (by kernel_rfl) (by kernel_rfl)) ?_
  intro W base args ds gs before hval0 hW hcnd _
  have hval : ∀ (j : Nat) t v, Try.f10.params[j]? = some t → args[j]? = some v → Value.okWide Try.prog W .any base t v := hval0
  have hW' := hW
  obtain ⟨p, q, hA0, hV, rfl, hfz, hnd⟩ := hW
  have hA : DataW.TrodAll enc Try.prog W 0 (fun _ => true) true Try.f10.params.toList args.toList ds p := hA0
  rw [Try.params10] at hA hval
  obtain ⟨v0, vs0, d0, ds0, p0, q0, hargs, rfl, rfl, h0, r0⟩ := trodAll_cons hA
  obtain ⟨v1, vs1, d1, ds1, p1, q1, rfl, rfl, rfl, h1, r1⟩ := trodAll_cons r0
  obtain ⟨rfl, rfl, rfl⟩ := trodAll_nil r1
  obtain rfl : args = #[v0, v1] := by cases args; simp_all
  obtain ⟨rfl, rfl⟩ := trodVars_none hV
  obtain ⟨a0, len0, cap0, rfl⟩ := okWide_slice Try.underlying24 (hval 0 24 v0 rfl rfl)
  have k0 := h0
  have lt0 : ∀ x ∈ p0, x.block < W.heap.size := by obtain ⟨m, hm⟩ := k0; exact DataW.trod_lt m _ _ _ hm
  obtain ⟨z0, w0⟩ : ∃ zs, IsRow .i64 W a0 len0 cap0 zs := by
    obtain ⟨fuel, hf⟩ := h0
    rcases open_ints Try.underlying24 Try.underlying3 (by kernel_rfl) hf with ⟨hcs, _⟩ | ⟨x, l, c, zs, hcs, _, hl, hm, hz, _, hcell, hwz⟩
    · simp [Value.cells] at hcs
      obtain ⟨rfl, rfl, rfl⟩ := hcs
      exact ⟨[], .inl ⟨rfl, rfl, rfl, rfl⟩⟩
    · simp [Value.cells] at hcs
      obtain ⟨rfl, rfl, rfl⟩ := hcs
      exact ⟨zs, .inr ⟨_, rfl, hl, hm, by simpa using hz, hcell, hwz⟩⟩
  obtain ⟨a1, rfl, rfl, rfl, w1⟩ := open_int Try.underlying3 (hval 1 3 v1 rfl rfl) h1
  clear hA0 hval0
  refine (walk_FnExactPolyAt a0 len0 cap0 z0 a1 W w0 w1).mono fun e W' ⟨he, bel⟩ => ?_
  subst he
  exact ⟨_, rfl, _, _, _, [], _, [], hW', trodAll_mk1 (shut_bool Try.underlying4 _), (trodAll_cons_mk (Below.trod laidOut (by kernel_rfl) (of_decide_eq_true (by kernel_rfl)) k0 bel lt0) (trodAll_cons_mk (shut_int Try.underlying3 w1) trodAll_mk0)), rfl, bel.frame _, fun h => by cases h⟩
theorem over : Rows.fnExactPolyAtRow.holds Try.pinned (OpenSpec.ofChange Rows.fnExactPolyAtSpec) :=
  OpenClaim.holds_of_wide 10 Try.f10 rfl rfl rfl rfl rfl rfl rfl ⟨rfl, rfl, rfl, rfl, rfl⟩ rfl rfl rfl rfl rfl (by kernel_rfl) Try.func10 (by kernel_rfl)
    (of_decide_eq_true (by kernel_rfl)) (by unfold Func.isWrapper; first | (rw [if_pos (by decide +kernel)]; kernel_rfl) | (rw [if_neg (by decide +kernel)]; exact ⟨rfl, rfl⟩))
    (fun os started H enc _ => lifted os started H enc)
theorem proved : Rows.FnExactPolyAtSaid := over
#print axioms proved
end Go.Proofs.Ytdnddimkgddooaa.fnExactPolyAt
