/- For every input: the function MatMul of the program answers as its model does, whatever its arguments are, leaves them as they were, and its answer owns its memory. No condition. -/
import Derived.Test.YtojklpahobmleaaMSpecD
import Derived.Test.YtojklpahobmleaaMLawB
import Derived.Test.YtojklpahobmleaaMBound
namespace Go.Proofs.Ytojklpahobmleaa
open Go.ChangeShapes Go.WideShapes Go.ChangeAt Go.RowKit
set_option maxRecDepth 100000 in
set_option maxHeartbeats 4000000 in
theorem walk_FnExactMatMul (a0 : Option Addr) (len0 cap0 : Nat) (L0 : Nat → Nat) (Z0 : Nat → Nat → Int) (a1 : Option Addr) (len1 cap1 : Nat) (L1 : Nat → Nat) (Z1 : Nat → Nat → Int) (w : World) (w0 : IsMat w a0 len0 L0 Z0) (w1 : IsMat w a1 len1 L1 Z1) :
    Calls Try.prog 8 #[.slice a0 len0 cap0, .slice a1 len1 cap1] w fun e w' => e = .returned (.bool true) ∧ Below w.heap.size w w' := by
  have hM0 := w0.1
  have hn0 := w0.2.1
  have hl0 := w0.2.2
  clear w0
  have hz0 := fun w h hh => szSS_any a0 len0 cap0 L0 Z0 1048576 w h hh hn0 hl0
  by_cases h0 : len0 + tot L0 len0 ≤ 1048576
  case neg =>
    have e0 : szF L0 len0 1048576 = -1 := by unfold szF; rw [if_neg h0]
    rw [e0] at hz0
    go_enter Try.func8, Try.ntmps8
    go_wp2_with fail
    refine (hz0 _ hM0 (by omega)).mono ?_
    rintro e w' ⟨rfl, hw⟩
    obtain rfl := hw.symm
    go_wp2
    go_ret
    exact ⟨rfl, Below.refl _ _⟩
  obtain ⟨left0, hleft0⟩ : ∃ q, 1048576 - (len0 + tot L0 len0) = q := ⟨_, rfl⟩
  have e0 : szF L0 len0 1048576 = (left0 : Int) := by unfold szF; rw [if_pos h0, hleft0]
  rw [e0] at hz0
  have neg0 : ¬ ((left0 : Int) < 0) := by omega
  have bt0 : tot L0 len0 ≤ 1048576 := by omega
  have bn0 : len0 ≤ 1048576 := by omega
  have bl0 : ∀ i, i < len0 → L0 i ≤ 1048576 := fun i hi => by have := tot_le L0 hi; omega
  have A0 := hM0.arg
  have hM1 := w1.1
  have hn1 := w1.2.1
  have hl1 := w1.2.2
  clear w1
  have hz1 := fun w h hh => szSS_any a1 len1 cap1 L1 Z1 left0 w h hh hn1 hl1
  by_cases h1 : len1 + tot L1 len1 ≤ left0
  case neg =>
    have e1 : szF L1 len1 left0 = -1 := by unfold szF; rw [if_neg h1]
    rw [e1] at hz1
    go_enter Try.func8, Try.ntmps8
    go_wp2_with fail
    refine (hz0 _ hM0 (by omega)).mono ?_
    rintro e w' ⟨rfl, hw⟩
    obtain rfl := hw.symm
    clear hw
    go_wp2_with fail
    refine (hz1 _ hM1 (by omega)).mono ?_
    rintro e w' ⟨rfl, hw⟩
    obtain rfl := hw.symm
    go_wp2
    go_ret
    exact ⟨rfl, Below.refl _ _⟩
  obtain ⟨left1, hleft1⟩ : ∃ q, left0 - (len1 + tot L1 len1) = q := ⟨_, rfl⟩
  have e1 : szF L1 len1 left0 = (left1 : Int) := by unfold szF; rw [if_pos h1, hleft1]
  rw [e1] at hz1
  have neg1 : ¬ ((left1 : Int) < 0) := by omega
  have bt1 : tot L1 len1 ≤ 1048576 := by omega
  have bn1 : len1 ≤ 1048576 := by omega
  have bl1 : ∀ i, i < len1 → L1 i ≤ 1048576 := fun i hi => by have := tot_le L1 hi; omega
  have A1 := hM1.arg
  have hS := fun a a' w h h' => sMul_mat a len0 len0 L0 Z0 a' len1 len1 L1 Z1 w h h' bl0 bl1
  have hI := fun a a' w h h' => mulM_any a len0 len0 L0 Z0 a' len1 len1 L1 Z1 w h h' bl0 bl1
  have hr : muR len0 L0 Z0 len1 L1 Z1 ≤ 16 := (muR_le len0 L0 Z0 len1 L1 Z1).1
  have hcc : 0 < muR len0 L0 Z0 len1 L1 Z1 → L1 0 ≤ 16 := (muR_le len0 L0 Z0 len1 L1 Z1).2
  generalize muR len0 L0 Z0 len1 L1 Z1 = r at hS hI hr hcc
  generalize muOk len0 L0 Z0 len1 L1 Z1 = okf at hS hI
  generalize Gm.mp len1 (bZ len0 L0 Z0) (bZ len1 L1 Z1) = F at hS hI
  generalize L1 0 = c at hS hI hcc
  have hc : ∀ i, i < r → c ≤ 1048576 := fun i _ => by omega
  have ht : tot (fun _ => c) r ≤ 1048576 := tot_small hr hcc
  clear hcc
  have hfl : (okf != okf) = false := by simp
  have hr20 : r ≤ 1048576 := by omega
  obtain ⟨tq, htq⟩ : ∃ tq, 1 + tot (fun _ => c) r = tq := ⟨_, rfl⟩
  have htq0 : ¬ ((tq : Int) < 0) := by omega
  go_enter Try.func8, Try.ntmps8
  go_wp2_with fail
  refine (hz0 _ hM0 (by omega)).mono ?_
  rintro e w' ⟨rfl, hw⟩
  obtain rfl := hw.symm
  clear hw hz0
  go_wp2_with fail
  refine (hz1 _ hM1 (by omega)).mono ?_
  rintro e w' ⟨rfl, hw⟩
  obtain rfl := hw.symm
  clear hw hz1
  clear hM0 hM1
  go_wp2_with fail
  refine Calls.mono (toSS_any _ len0 cap0 L0 Z0 _ A0.at bn0 bl0) ?_
  rintro e v1 ⟨rfl, ⟨AA1, p0⟩, b1⟩
  have s1 := b1.size
  replace A0 := A0.keep b1
  replace A1 := A1.keep b1
  have cum := b1
  have cumS := cum.size
  clear b1
  go_wp2_with fail
  refine Calls.mono (toSS_any _ len1 cap1 L1 Z1 _ A1.at bn1 bl1) ?_
  rintro e v2 ⟨rfl, ⟨AA2, p1⟩, b2⟩
  have s2 := b2.size
  replace A0 := A0.keep (b2.mono cumS)
  replace A1 := A1.keep (b2.mono cumS)
  replace p0 := p0.below b2
  replace cum := below2 cum b2
  replace cumS := cum.size
  clear b2
  go_wp2_with fail
  refine Calls.mono (hS _ _ _ p0.at p1.at) ?_
  rintro e v3 ⟨u3, rfl, ⟨aW, cW, AW, CW, rfl, W⟩, b3⟩
  have s3 := b3.size
  replace A0 := A0.keep (b3.mono cumS)
  replace A1 := A1.keep (b3.mono cumS)
  replace p0 := p0.below b3
  replace p1 := p1.below b3
  replace cum := below2 cum b3
  replace cumS := cum.size
  clear b3
  clear p0 p1
  go_wp2_with fail
  refine Calls.mono (toSS_any _ len0 cap0 L0 Z0 _ A0.at bn0 bl0) ?_
  rintro e v4 ⟨rfl, ⟨AA4, x0⟩, b4⟩
  have s4 := b4.size
  replace A0 := A0.keep (b4.mono cumS)
  replace A1 := A1.keep (b4.mono cumS)
  replace W := W.below b4
  replace cum := below2 cum b4
  replace cumS := cum.size
  clear b4
  go_wp2_with fail
  refine Calls.mono (toSS_any _ len1 cap1 L1 Z1 _ A1.at bn1 bl1) ?_
  rintro e v5 ⟨rfl, ⟨AA5, x1⟩, b5⟩
  have s5 := b5.size
  replace A0 := A0.keep (b5.mono cumS)
  replace A1 := A1.keep (b5.mono cumS)
  replace W := W.below b5
  replace x0 := x0.below b5
  replace cum := below2 cum b5
  replace cumS := cum.size
  clear b5
  go_wp2_with fail
  refine Calls.mono (hI _ _ _ x0.at x1.at) ?_
  rintro e v6 ⟨u6, rfl, ⟨aG, cG, AG, CG, rfl, G⟩, b6⟩
  have s6 := b6.size
  replace A0 := A0.keep (b6.mono cumS)
  replace A1 := A1.keep (b6.mono cumS)
  replace W := W.below b6
  replace x0 := x0.below b6
  replace x1 := x1.below b6
  replace cum := below2 cum b6
  replace cumS := cum.size
  clear b6
  go_wp2_with fail
  refine Calls.mono (eqSS_same _ _ _ _ _ _ _ _ G.at W.at hr20 hc) ?_
  rintro e v7 ⟨rfl, b7⟩
  have s7 := b7.size
  replace A0 := A0.keep (b7.mono cumS)
  replace A1 := A1.keep (b7.mono cumS)
  replace W := W.below b7
  replace x0 := x0.below b7
  replace x1 := x1.below b7
  replace G := G.below b7
  replace cum := below2 cum b7
  replace cumS := cum.size
  clear b7
  go_wp2_with fail
  refine Calls.mono (toSS_any _ len0 cap0 L0 Z0 _ A0.at bn0 bl0) ?_
  rintro e v8 ⟨rfl, ⟨AA8, y0⟩, b8⟩
  have s8 := b8.size
  replace A0 := A0.keep (b8.mono cumS)
  replace A1 := A1.keep (b8.mono cumS)
  replace W := W.below b8
  replace x0 := x0.below b8
  replace x1 := x1.below b8
  replace G := G.below b8
  replace cum := below2 cum b8
  replace cumS := cum.size
  clear b8
  go_wp2_with fail
  refine Calls.mono (eqSS_same _ _ _ _ _ _ _ _ x0.at y0.at bn0 bl0) ?_
  rintro e v9 ⟨rfl, b9⟩
  have s9 := b9.size
  replace A0 := A0.keep (b9.mono cumS)
  replace A1 := A1.keep (b9.mono cumS)
  replace W := W.below b9
  replace x0 := x0.below b9
  replace x1 := x1.below b9
  replace G := G.below b9
  replace y0 := y0.below b9
  replace cum := below2 cum b9
  replace cumS := cum.size
  clear b9
  clear y0
  go_wp2_with fail
  refine Calls.mono (toSS_any _ len1 cap1 L1 Z1 _ A1.at bn1 bl1) ?_
  rintro e v10 ⟨rfl, ⟨AA10, y1⟩, b10⟩
  have s10 := b10.size
  replace A0 := A0.keep (b10.mono cumS)
  replace A1 := A1.keep (b10.mono cumS)
  replace W := W.below b10
  replace x0 := x0.below b10
  replace x1 := x1.below b10
  replace G := G.below b10
  replace cum := below2 cum b10
  replace cumS := cum.size
  clear b10
  go_wp2_with fail
  refine Calls.mono (eqSS_same _ _ _ _ _ _ _ _ x1.at y1.at bn1 bl1) ?_
  rintro e v11 ⟨rfl, b11⟩
  have s11 := b11.size
  replace A0 := A0.keep (b11.mono cumS)
  replace A1 := A1.keep (b11.mono cumS)
  replace W := W.below b11
  replace x0 := x0.below b11
  replace x1 := x1.below b11
  replace G := G.below b11
  replace y1 := y1.below b11
  replace cum := below2 cum b11
  replace cumS := cum.size
  clear b11
  clear y1
  obtain ⟨q0, hq0⟩ : ∃ q, 1 + tot L0 len0 = q := ⟨_, rfl⟩
  go_wp2_with fail
  refine Calls.mono (markSS_any _ _ _ _ _ _ _ _ _ 1 q0 _ x0 bn0 bt0 (by omega) (by omega)) ?_
  rintro e v12 ⟨rfl, x0', T12⟩
  have s12 := T12.size
  replace A0 := A0.keep (T12.below (by omega) (by omega))
  replace A1 := A1.keep (T12.below (by omega) (by omega))
  replace W := W.turned T12 (by omega)
  replace x1 := x1.turned T12 (by omega)
  replace G := G.turned T12 (by omega)
  replace cum := cum.trans (T12.below (by omega) (by omega))
  replace cumS := cum.size
  clear T12
  clear x0
  have x0 := x0'
  clear x0'
  clear x0
  obtain ⟨q1, hq1⟩ : ∃ q, q0 + tot L1 len1 = q := ⟨_, rfl⟩
  go_wp2_with fail
  refine Calls.mono (markSS_any _ _ _ _ _ _ _ _ _ q0 q1 _ x1 bn1 bt1 (by omega) (by omega)) ?_
  rintro e v13 ⟨rfl, x1', T13⟩
  have s13 := T13.size
  replace A0 := A0.keep (T13.below (by omega) (by omega))
  replace A1 := A1.keep (T13.below (by omega) (by omega))
  replace W := W.turned T13 (by omega)
  replace G := G.turned T13 (by omega)
  replace cum := cum.trans (T13.below (by omega) (by omega))
  replace cumS := cum.size
  clear T13
  clear x1
  have x1 := x1'
  clear x1'
  clear x1
  have hk0 : ¬ ((q1 : Int) < 0) := by omega
  go_wp2_with fail
  refine Calls.mono (eqSS_same _ _ _ _ _ _ _ _ G.at W.at hr20 hc) ?_
  rintro e v14 ⟨rfl, b14⟩
  have s14 := b14.size
  replace A0 := A0.keep (b14.mono cumS)
  replace A1 := A1.keep (b14.mono cumS)
  replace W := W.below b14
  replace G := G.below b14
  replace cum := below2 cum b14
  replace cumS := cum.size
  clear b14
  go_wp2_with fail
  refine Calls.mono (markSS_any _ _ _ _ _ _ _ _ _ 1 tq _ G hr20 ht (by omega) (by omega)) ?_
  rintro e v15 ⟨rfl, G', T15⟩
  have s15 := T15.size
  replace A0 := A0.keep (T15.below (by omega) (by omega))
  replace A1 := A1.keep (T15.below (by omega) (by omega))
  replace W := W.turned T15 (by omega)
  replace cum := cum.trans (T15.below (by omega) (by omega))
  replace cumS := cum.size
  clear T15
  clear G
  have G := G'
  clear G'
  go_wp2_with fail
  refine Calls.mono (heldSS_any _ _ _ _ 1 tq _ G.at hr20 ht (by omega) htq) ?_
  rintro e w' ⟨rfl, hw⟩
  obtain rfl := hw.symm
  clear hw
  go_wp2_with fail
  refine Calls.mono (toSS_any _ len0 cap0 L0 Z0 _ A0.at bn0 bl0) ?_
  rintro e v16 ⟨rfl, ⟨AA16, z0c⟩, b16⟩
  have s16 := b16.size
  replace A0 := A0.keep (b16.mono cumS)
  replace A1 := A1.keep (b16.mono cumS)
  replace W := W.below b16
  replace G := G.below b16
  replace cum := below2 cum b16
  replace cumS := cum.size
  clear b16
  go_wp2_with fail
  refine Calls.mono (toSS_any _ len1 cap1 L1 Z1 _ A1.at bn1 bl1) ?_
  rintro e v17 ⟨rfl, ⟨AA17, z1c⟩, b17⟩
  have s17 := b17.size
  replace A0 := A0.keep (b17.mono cumS)
  replace A1 := A1.keep (b17.mono cumS)
  replace W := W.below b17
  replace G := G.below b17
  replace z0c := z0c.below b17
  replace cum := below2 cum b17
  replace cumS := cum.size
  clear b17
  go_wp2_with fail
  refine Calls.mono (hI _ _ _ z0c.at z1c.at) ?_
  rintro e v18 ⟨u18, rfl, ⟨aH, cH, AH, CH, rfl, H⟩, b18⟩
  have s18 := b18.size
  replace A0 := A0.keep (b18.mono cumS)
  replace A1 := A1.keep (b18.mono cumS)
  replace W := W.below b18
  replace G := G.below b18
  replace z0c := z0c.below b18
  replace z1c := z1c.below b18
  replace cum := below2 cum b18
  replace cumS := cum.size
  clear b18
  clear z0c z1c
  go_wp2_with fail
  refine Calls.mono (eqSS_same _ _ _ _ _ _ _ _ H.at W.at hr20 hc) ?_
  rintro e v19 ⟨rfl, b19⟩
  have s19 := b19.size
  replace A0 := A0.keep (b19.mono cumS)
  replace A1 := A1.keep (b19.mono cumS)
  replace W := W.below b19
  replace G := G.below b19
  replace H := H.below b19
  replace cum := below2 cum b19
  replace cumS := cum.size
  clear b19
  go_wp2_with fail
  refine Calls.mono (heldSS_any _ _ _ _ 1 tq _ G.at hr20 ht (by omega) htq) ?_
  rintro e w' ⟨rfl, hw⟩
  obtain rfl := hw.symm
  clear hw
  go_wp2
  go_ret
  exact ⟨rfl, cum⟩
end Go.Proofs.Ytojklpahobmleaa
namespace Go.Proofs.Ytojklpahobmleaa.fnExactMatMul
open Go.ChangeShapes Go.WideShapes Go.ChangeAt Go.RowKit
open Go.ChangeMaps (open_string shut_string)
set_option linter.unusedVariables false
theorem own : ownKnob Try.prog.godebug = none := by kernel_rfl
theorem laidOut : laidOutB Try.prog = true := by kernel_rfl
set_option maxRecDepth 100000 in
theorem lifted (os : Os) (started : os.Started) (H : Type) (enc : TypeId × Value → H) :
    ReturnsInHanded {} Try.checked os 8 .any (Rows.fnExactMatMulSpec.pre6 enc Try.prog Try.f8 Rows.fnExactMatMulRow.domain false) (Rows.fnExactMatMulSpec.post enc Try.prog Try.f8 false true false false) := by
  refine returnsInHanded_of_change (C := Try.checked) own started (by kernel_rfl) Try.func8
    (ChangeSpec.witness6 (enc := enc) (C := Try.checked) false ⟨#[], #[.slice none 0 0, .slice none 0 0], []⟩ 8 (by kernel_rfl) (by kernel_rfl) (by kernel_rfl) (by kernel_rfl)) ?_
  intro W base args ds gs before hval0 hW hcnd _
  have hval : ∀ (j : Nat) t v, Try.f8.params[j]? = some t → args[j]? = some v → Value.okWide Try.prog W .any base t v := hval0
  have hW' := hW
  obtain ⟨p, q, hA0, hV, rfl, hfz, hnd⟩ := hW
  have hA : DataW.TrodAll enc Try.prog W 0 (fun _ => true) true Try.f8.params.toList args.toList ds p := hA0
  rw [Try.params8] at hA hval
  obtain ⟨v0, vs0, d0, ds0, p0, q0, hargs, rfl, rfl, h0, r0⟩ := trodAll_cons hA
  obtain ⟨v1, vs1, d1, ds1, p1, q1, rfl, rfl, rfl, h1, r1⟩ := trodAll_cons r0
  obtain ⟨rfl, rfl, rfl⟩ := trodAll_nil r1
  obtain rfl : args = #[v0, v1] := by cases args; simp_all
  obtain ⟨rfl, rfl⟩ := trodVars_none hV
  obtain ⟨a0, len0, cap0, rfl⟩ := okWide_slice Try.underlying24 (hval 0 24 v0 rfl rfl)
  have k0 := h0
  have lt0 : ∀ x ∈ p0, x.block < W.heap.size := by obtain ⟨m, hm⟩ := k0; exact DataW.trod_lt m _ _ _ hm
  obtain ⟨L0, Z0, w0⟩ : ∃ L Z, IsMat W a0 len0 L Z := by
    obtain ⟨fuel, hf⟩ := h0
    rcases Go.Deep.open_int_rows Try.underlying24 Try.underlying31 Try.underlying3 (by kernel_rfl) (by kernel_rfl) hf with ⟨hcs, _⟩ | ⟨x, l, c, A, L, C, Z, hcs, _, hl, hm, _, hrow⟩
    · simp [Value.cells] at hcs
      obtain ⟨rfl, rfl, rfl⟩ := hcs
      exact ⟨fun _ => 0, fun _ _ => 0, fun i hi => absurd hi (Nat.not_lt_zero _), Nat.zero_le _, fun i hi => absurd hi (Nat.not_lt_zero _)⟩
    · simp [Value.cells] at hcs
      obtain ⟨rfl, rfl, rfl⟩ := hcs
      exact ⟨L, _, isMat_of hl hm hrow⟩
  obtain ⟨a1, len1, cap1, rfl⟩ := okWide_slice Try.underlying24 (hval 1 24 v1 rfl rfl)
  have k1 := h1
  have lt1 : ∀ x ∈ p1, x.block < W.heap.size := by obtain ⟨m, hm⟩ := k1; exact DataW.trod_lt m _ _ _ hm
  obtain ⟨L1, Z1, w1⟩ : ∃ L Z, IsMat W a1 len1 L Z := by
    obtain ⟨fuel, hf⟩ := h1
    rcases Go.Deep.open_int_rows Try.underlying24 Try.underlying31 Try.underlying3 (by kernel_rfl) (by kernel_rfl) hf with ⟨hcs, _⟩ | ⟨x, l, c, A, L, C, Z, hcs, _, hl, hm, _, hrow⟩
    · simp [Value.cells] at hcs
      obtain ⟨rfl, rfl, rfl⟩ := hcs
      exact ⟨fun _ => 0, fun _ _ => 0, fun i hi => absurd hi (Nat.not_lt_zero _), Nat.zero_le _, fun i hi => absurd hi (Nat.not_lt_zero _)⟩
    · simp [Value.cells] at hcs
      obtain ⟨rfl, rfl, rfl⟩ := hcs
      exact ⟨L, _, isMat_of hl hm hrow⟩
  clear hA0 hval0
  refine (walk_FnExactMatMul a0 len0 cap0 L0 Z0 a1 len1 cap1 L1 Z1 W w0 w1).mono fun e W' ⟨he, bel⟩ => ?_
  subst he
  exact ⟨_, rfl, _, _, _, [], _, [], hW', trodAll_mk1 (shut_bool Try.underlying4 _), (trodAll_cons_mk (Below.trod laidOut (by kernel_rfl) (of_decide_eq_true (by kernel_rfl)) k0 bel lt0) (trodAll_cons_mk (Below.trod laidOut (by kernel_rfl) (of_decide_eq_true (by kernel_rfl)) k1 bel lt1) trodAll_mk0)), rfl, bel.frame _, fun h => by cases h⟩
theorem over : Rows.fnExactMatMulRow.holds Try.pinned (OpenSpec.ofChange Rows.fnExactMatMulSpec) :=
  OpenClaim.holds_of_wide 8 Try.f8 rfl rfl rfl rfl rfl rfl rfl ⟨rfl, rfl, rfl, rfl, rfl⟩ rfl rfl rfl rfl rfl (by kernel_rfl) Try.func8 (by kernel_rfl)
    (of_decide_eq_true (by kernel_rfl)) (by unfold Func.isWrapper; first | (rw [if_pos (by decide +kernel)]; kernel_rfl) | (rw [if_neg (by decide +kernel)]; exact ⟨rfl, rfl⟩))
    (fun os started H enc _ => lifted os started H enc)
theorem proved : Rows.FnExactMatMulSaid := over
#print axioms proved
end Go.Proofs.Ytojklpahobmleaa.fnExactMatMul
