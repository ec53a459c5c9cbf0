/- For every input: the function Proof of the program answers as its model does, whatever its arguments are, leaves them as they were, and its answer owns its memory. No condition. -/
import Derived.Test.YtlnpjpdphhpomaaTProofS
import Derived.Test.YtlnpjpdphhpomaaTMarkB
namespace Go.Proofs.Ytlnpjpdphhpomaa
set_option maxRecDepth 2000
open Go.ChangeShapes Go.WideShapes Go.ChangeAt Go.RowKit
set_option maxRecDepth 100000 in
set_option maxHeartbeats 4000000 in
theorem walk_FnExactProof (a0 : Option Addr) (len0 cap0 : Nat) (S0 : Nat → ByteArray) (a1 : Int) (w : World) (w0 : IsTxt w a0 len0 S0) (_w1 : (Lit.int .i64 a1).wf = true) :
    Calls Try.prog 7 #[.slice a0 len0 cap0, .int .i64 a1] w fun e w' => e = .returned (.bool true) ∧ Below w.heap.size w w' := by
  clear _w1
  have hM0 := w0.1
  have hn0 := w0.2.1
  have hl0 := w0.2.2
  clear w0
  have hz0 := fun w h => szT_any a0 len0 cap0 S0 1048576 w h (by omega) hn0 hl0
  by_cases h0 : len0 + tot (fun i => (S0 i).size) len0 ≤ 1048576
  case neg =>
    have e0 : szF (fun i => (S0 i).size) len0 1048576 = -1 := by unfold szF; rw [if_neg h0]
    rw [e0] at hz0
    go_enter Try.func7, Try.ntmps7
    go_wp2_with fail
    refine (hz0 _ hM0).mono ?_
    rintro e w' ⟨rfl, hw⟩
    obtain rfl := hw.symm
    go_wp2
    go_ret
    exact ⟨rfl, Below.refl _ _⟩
  obtain ⟨left0, hleft0⟩ : ∃ q, 1048576 - (len0 + tot (fun i => (S0 i).size) len0) = q := ⟨_, rfl⟩
  have e0 : szF (fun i => (S0 i).size) len0 1048576 = (left0 : Int) := by unfold szF; rw [if_pos h0, hleft0]
  rw [e0] at hz0
  have neg0 : ¬ ((left0 : Int) < 0) := by omega
  have bn0 : len0 ≤ 1048576 := by omega
  have bl0 : ∀ i, i < len0 → (S0 i).size ≤ 1048576 := fun i hi => by have := tot_le (fun i => (S0 i).size) hi; omega
  have b00 : 0 < len0 → (S0 0).size ≤ 1048576 := fun h => bl0 0 h
  have A0 := hM0.arg
  clear e0 h0 hleft0 hn0 hl0
  have bm0 : ∀ i, i < len0 → (S0 i).size ≤ maxLen := fun i hi => by have := bl0 i hi; unfold maxLen; omega
  have hS := fun a w h => sProof_any a len0 len0 S0 a1 w h bn0 bm0
  have hI := fun a w h => proof_any a len0 len0 S0 a1 w h bn0 bm0
  have hr := pfR_le len0 S0 a1
  generalize pfR len0 S0 a1 = r at hS hI hr
  generalize pfB len0 S0 a1 = okf at hS hI
  generalize pfF len0 S0 a1 = F at hS hI
  have hfl : (okf != okf) = false := by simp
  obtain ⟨tq, htq⟩ : ∃ tq, 1 + r = tq := ⟨_, rfl⟩
  have htq0 : ¬ ((tq : Int) < 0) := by omega
  have hqq : ((tq : Int) != (tq : Int)) = false := by simp
  clear bm0
  clear bl0 b00
  go_enter Try.func7, Try.ntmps7
  go_wp2_with fail
  refine (hz0 _ hM0).mono ?_
  rintro e w' ⟨rfl, hw⟩
  obtain rfl := hw.symm
  clear hw hz0 hM0
  go_wp2_with fail
  refine Calls.mono (toT_any _ len0 cap0 S0 _ A0.1 bn0) ?_
  rintro e v1 ⟨rfl, o1, b1⟩
  have p0 := OwnT.row o1
  have t1 := (World.ownsRow.lt o1 _ rfl).2
  clear o1
  have s1 := b1.size
  replace A0 := A0.below b1
  have cum := b1
  have cumS := cum.size
  clear b1
  go_wp2_with fail
  refine Calls.mono (hS _ _ p0.at) ?_
  rintro e v2 ⟨u2, rfl, R2, b2⟩
  obtain ⟨aW, cW, rfl, W⟩ := R2.row
  clear R2
  have s2 := b2.size
  replace A0 := A0.below b2
  replace p0 := p0.below b2
  replace cum := below2 cum b2
  replace cumS := cum.size
  clear b2
  clear p0
  go_wp2_with fail
  refine Calls.mono (toT_any _ len0 cap0 S0 _ A0.1 bn0) ?_
  rintro e v3 ⟨rfl, o3, b3⟩
  have x0 := OwnT.row o3
  have t3 := (World.ownsRow.lt o3 _ rfl).2
  clear o3
  have s3 := b3.size
  replace A0 := A0.below b3
  replace W := W.below b3
  replace cum := below2 cum b3
  replace cumS := cum.size
  clear b3
  go_wp2_with fail
  refine Calls.mono (hI _ _ x0.at) ?_
  rintro e v4 ⟨u4, rfl, R4, b4⟩
  obtain ⟨aG, cG, rfl, G⟩ := R4.row
  clear R4
  have s4 := b4.size
  replace A0 := A0.below b4
  replace W := W.below b4
  replace x0 := x0.below b4
  replace cum := below2 cum b4
  replace cumS := cum.size
  clear b4
  go_wp2_with fail
  refine Calls.mono (eqT_same _ _ _ _ _ _ _ G.at W.at (by omega)) ?_
  rintro e v5 ⟨rfl, b5⟩
  have s5 := b5.size
  replace A0 := A0.below b5
  replace W := W.below b5
  replace x0 := x0.below b5
  replace G := G.below b5
  replace cum := below2 cum b5
  replace cumS := cum.size
  clear b5
  go_wp2_with fail
  refine Calls.mono (toT_any _ len0 cap0 S0 _ A0.1 bn0) ?_
  rintro e v6 ⟨rfl, o6, b6⟩
  have y0 := OwnT.row o6
  have t6 := (World.ownsRow.lt o6 _ rfl).2
  clear o6
  have s6 := b6.size
  replace A0 := A0.below b6
  replace W := W.below b6
  replace x0 := x0.below b6
  replace G := G.below b6
  replace cum := below2 cum b6
  replace cumS := cum.size
  clear b6
  go_wp2_with fail
  refine Calls.mono (eqT_same _ _ _ _ _ _ _ x0.at y0.at bn0) ?_
  rintro e v7 ⟨rfl, b7⟩
  have s7 := b7.size
  replace A0 := A0.below b7
  replace W := W.below b7
  replace x0 := x0.below b7
  replace G := G.below b7
  replace y0 := y0.below b7
  replace cum := below2 cum b7
  replace cumS := cum.size
  clear b7
  clear y0
  obtain ⟨q0, hq0⟩ : ∃ q, 1 + len0 = q := ⟨_, rfl⟩
  go_wp2_with fail
  refine Calls.mono (markT2_any _ _ _ _ _ _ 1 q0 _ x0 (by omega) (by omega) (by omega)) ?_
  rintro e v8 ⟨rfl, x0', T8⟩
  have s8 := T8.size
  replace A0 := A0.keep (T8.below (by omega) (by omega))
  replace W := W.turned T8 (by omega)
  replace G := G.turned T8 (by omega)
  replace cum := cum.trans (T8.below (by omega) (by omega))
  replace cumS := cum.size
  clear T8
  clear x0
  have x0 := x0'
  clear x0'
  clear x0
  have hk0 : ¬ ((q0 : Int) < 0) := by omega
  go_wp2_with fail
  refine Calls.mono (eqT_same _ _ _ _ _ _ _ G.at W.at (by omega)) ?_
  rintro e v9 ⟨rfl, b9⟩
  have s9 := b9.size
  replace A0 := A0.below b9
  replace W := W.below b9
  replace G := G.below b9
  replace cum := below2 cum b9
  replace cumS := cum.size
  clear b9
  go_wp2_with fail
  refine Calls.mono (markT2_any _ _ _ _ _ _ 1 tq _ G (by omega) (by omega) (by omega)) ?_
  rintro e v10 ⟨rfl, G', T10⟩
  have s10 := T10.size
  replace A0 := A0.keep (T10.below (by omega) (by omega))
  replace W := W.turned T10 (by omega)
  replace cum := cum.trans (T10.below (by omega) (by omega))
  replace cumS := cum.size
  clear T10
  clear G
  have G := G'
  clear G'
  go_wp2_with fail
  refine Calls.mono (heldT_any _ _ _ 1 tq _ G.at (by omega) (by omega) htq) ?_
  rintro e v11 ⟨rfl, b11⟩
  have s11 := b11.size
  replace A0 := A0.below b11
  replace W := W.below b11
  replace G := G.below b11
  replace cum := below2 cum b11
  replace cumS := cum.size
  clear b11
  go_wp2_with fail
  refine Calls.mono (toT_any _ len0 cap0 S0 _ A0.1 bn0) ?_
  rintro e v12 ⟨rfl, o12, b12⟩
  have z0c := OwnT.row o12
  have t12 := (World.ownsRow.lt o12 _ rfl).2
  clear o12
  have s12 := b12.size
  replace A0 := A0.below b12
  replace W := W.below b12
  replace G := G.below b12
  replace cum := below2 cum b12
  replace cumS := cum.size
  clear b12
  go_wp2_with fail
  refine Calls.mono (hI _ _ z0c.at) ?_
  rintro e v13 ⟨u13, rfl, R13, b13⟩
  obtain ⟨aH, cH, rfl, H⟩ := R13.row
  clear R13
  have s13 := b13.size
  replace A0 := A0.below b13
  replace W := W.below b13
  replace G := G.below b13
  replace z0c := z0c.below b13
  replace cum := below2 cum b13
  replace cumS := cum.size
  clear b13
  clear z0c
  go_wp2_with fail
  refine Calls.mono (eqT_same _ _ _ _ _ _ _ H.at W.at (by omega)) ?_
  rintro e v14 ⟨rfl, b14⟩
  have s14 := b14.size
  replace A0 := A0.below b14
  replace W := W.below b14
  replace G := G.below b14
  replace H := H.below b14
  replace cum := below2 cum b14
  replace cumS := cum.size
  clear b14
  go_wp2_with fail
  refine Calls.mono (heldT_any _ _ _ 1 tq _ G.at (by omega) (by omega) htq) ?_
  rintro e v15 ⟨rfl, b15⟩
  have s15 := b15.size
  replace A0 := A0.below b15
  replace W := W.below b15
  replace G := G.below b15
  replace H := H.below b15
  replace cum := below2 cum b15
  replace cumS := cum.size
  clear b15
  go_wp2
  go_ret
  exact ⟨rfl, cum⟩
end Go.Proofs.Ytlnpjpdphhpomaa
namespace Go.Proofs.Ytlnpjpdphhpomaa.fnExactProof
open Go.ChangeShapes Go.WideShapes Go.ChangeAt Go.RowKit
open Go.ChangeMaps (open_string shut_string)
set_option linter.unusedVariables false
theorem own : ownKnob Try.prog.godebug = none := by kernel_rfl
theorem laidOut : laidOutB Try.prog = true := by kernel_rfl
set_option maxRecDepth 100000 in
theorem lifted (os : Os) (started : os.Started) (H : Type) (enc : TypeId × Value → H) :
    ReturnsInHanded {} Try.checked os 7 .any (Rows.fnExactProofSpec.pre6 enc Try.prog Try.f7 Rows.fnExactProofRow.domain false) (Rows.fnExactProofSpec.post enc Try.prog Try.f7 false true false false) := by
  refine returnsInHanded_of_change (C := Try.checked) own started (by kernel_rfl) Try.func7
    (ChangeSpec.witness6 (enc := enc) (C := Try.checked) false ⟨#[], #[.slice none 0 0, .int .i64 0], []⟩ 8 (by kernel_rfl) (by kernel_rfl) (by kernel_rfl) (by kernel_rfl)) ?_
  intro W base args ds gs before hval0 hW hcnd _
  have hval : ∀ (j : Nat) t v, Try.f7.params[j]? = some t → args[j]? = some v → Value.okWide Try.prog W .any base t v := hval0
  have hW' := hW
  obtain ⟨p, q, hA0, hV, rfl, hfz, hnd⟩ := hW
  have hA : DataW.TrodAll enc Try.prog W 0 (fun _ => true) true Try.f7.params.toList args.toList ds p := hA0
  rw [Try.params7] at hA hval
  obtain ⟨v0, vs0, d0, ds0, p0, q0, hargs, rfl, rfl, h0, r0⟩ := trodAll_cons hA
  obtain ⟨v1, vs1, d1, ds1, p1, q1, rfl, rfl, rfl, h1, r1⟩ := trodAll_cons r0
  obtain ⟨rfl, rfl, rfl⟩ := trodAll_nil r1
  obtain rfl : args = #[v0, v1] := by cases args; simp_all
  obtain ⟨rfl, rfl⟩ := trodVars_none hV
  obtain ⟨a0, len0, cap0, rfl⟩ := okWide_slice Try.underlying24 (hval 0 24 v0 rfl rfl)
  have k0 := h0
  have lt0 : ∀ x ∈ p0, x.block < W.heap.size := by obtain ⟨m, hm⟩ := k0; exact DataW.trod_lt m _ _ _ hm
  obtain ⟨S0, w0⟩ : ∃ S, IsTxt W a0 len0 S := by
    obtain ⟨fuel, hf⟩ := h0
    rcases Go.Deep.open_strs Try.underlying24 Try.underlying9 (by kernel_rfl) hf with ⟨hcs, _⟩ | ⟨x, l, c, m, Sx, hcs, _, hl, hm, hmm, _, hcell⟩
    · simp [Value.cells] at hcs
      obtain ⟨rfl, rfl, rfl⟩ := hcs
      exact ⟨fun _ => ByteArray.empty, fun i hi => absurd hi (Nat.not_lt_zero _), Nat.zero_le _, fun i hi => absurd hi (Nat.not_lt_zero _)⟩
    · simp [Value.cells] at hcs
      obtain ⟨rfl, rfl, rfl⟩ := hcs
      exact ⟨Sx, isTxt_of hl hm (by rw [hmm]; split <;> omega) hcell⟩
  obtain ⟨a1, rfl, rfl, rfl, w1⟩ := open_int Try.underlying3 (hval 1 3 v1 rfl rfl) h1
  clear hA0 hval0
  refine (walk_FnExactProof a0 len0 cap0 S0 a1 W w0 w1).mono fun e W' ⟨he, bel⟩ => ?_
  subst he
  exact ⟨_, rfl, _, _, _, [], _, [], hW', trodAll_mk1 (shut_bool Try.underlying4 _), (trodAll_cons_mk (Below.trod laidOut (by kernel_rfl) (of_decide_eq_true (by kernel_rfl)) k0 bel lt0) (trodAll_cons_mk (shut_int Try.underlying3 w1) trodAll_mk0)), rfl, bel.frame _, fun h => by cases h⟩
theorem over : Rows.fnExactProofRow.holds Try.pinned (OpenSpec.ofChange Rows.fnExactProofSpec) :=
  OpenClaim.holds_of_wide 7 Try.f7 rfl rfl rfl rfl rfl rfl rfl ⟨rfl, rfl, rfl, rfl, rfl⟩ rfl rfl rfl rfl rfl (by kernel_rfl) Try.func7 (by kernel_rfl)
    (of_decide_eq_true (by kernel_rfl)) (by unfold Func.isWrapper; first | (rw [if_pos (by decide +kernel)]; kernel_rfl) | (rw [if_neg (by decide +kernel)]; exact ⟨rfl, rfl⟩))
    (fun os started H enc _ => lifted os started H enc)
theorem proved : Rows.FnExactProofSaid := over
#print axioms proved
end Go.Proofs.Ytlnpjpdphhpomaa.fnExactProof
