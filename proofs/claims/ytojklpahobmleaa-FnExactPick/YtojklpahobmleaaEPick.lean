/- For every input: the function Pick of the program answers as its model does, whatever its arguments are, leaves them as they were, and its answer owns its memory. No condition. -/
import Derived.Test.YtojklpahobmleaaMSpecE
import Derived.Test.YtojklpahobmleaaMLawB
import Derived.Test.YtojklpahobmleaaMBound
namespace Go.Proofs.Ytojklpahobmleaa
open Go.ChangeShapes Go.WideShapes Go.ChangeAt Go.RowKit
set_option maxRecDepth 100000 in
set_option maxHeartbeats 4000000 in
theorem walk_FnExactPick (a0 : Option Addr) (len0 cap0 : Nat) (L0 : Nat → Nat) (Z0 : Nat → Nat → Int) (a1 : Option Addr) (len1 cap1 : Nat) (z1 : List Int) (w : World) (w0 : IsMat w a0 len0 L0 Z0) (w1 : IsRow .i64 w a1 len1 cap1 z1) :
    Calls Try.prog 11 #[.slice a0 len0 cap0, .slice a1 len1 cap1] w fun e w' => e = .returned (.bool true) ∧ Below w.heap.size w w' := by
  obtain ⟨_, hA1, _⟩ := w1.ints
  clear w1
  by_cases h1 : 1048576 < len1
  case pos =>
    have h1' : (1048576 : Int) < (len1 : Int) := by omega
    go_enter Try.func11, Try.ntmps11
    go_wp2
    go_ret
    exact ⟨rfl, Below.refl _ _⟩
  have h1' : ¬ (1048576 : Int) < (len1 : Int) := by omega
  have n1 : len1 ≤ 1048576 := by omega
  generalize z1.take len1 = zs at hA1
  have A1 := hA1.arg
  have HL1 : Hid (zs.length = len1) := hA1.1
  have hM0 := w0.1
  have hn0 := w0.2.1
  have hl0 := w0.2.2
  clear w0
  have hz0 := fun w h hh => szSS_any a0 len0 cap0 L0 Z0 1048576 w h hh hn0 hl0
  by_cases h0 : len0 + tot L0 len0 ≤ 1048576
  case neg =>
    have e0 : szF L0 len0 1048576 = -1 := by unfold szF; rw [if_neg h0]
    rw [e0] at hz0
    go_enter Try.func11, Try.ntmps11
    go_wp2_with fail
    refine (hz0 _ hM0 (by omega)).mono ?_
    rintro e w' ⟨rfl, hw⟩
    obtain rfl := hw.symm
    go_wp2
    go_ret
    exact ⟨rfl, Below.refl _ _⟩
  obtain ⟨left0, hleft0⟩ : ∃ q, 1048576 - (len0 + tot L0 len0) = q := ⟨_, rfl⟩
  have e0 : szF L0 len0 1048576 = (left0 : Int) := by unfold szF; rw [if_pos h0, hleft0]
  rw [e0] at hz0
  have neg0 : ¬ ((left0 : Int) < 0) := by omega
  have bt0 : tot L0 len0 ≤ 1048576 := by omega
  have bn0 : len0 ≤ 1048576 := by omega
  have bl0 : ∀ i, i < len0 → L0 i ≤ 1048576 := fun i hi => by have := tot_le L0 hi; omega
  have A0 := hM0.arg
  have hS := fun a ra w h hz => sPick_any a len0 len0 L0 Z0 ra len1 len1 zs w h hz bl0 n1
  have hI := fun a ra w h hz => pickM_any a len0 len0 L0 Z0 ra len1 len1 zs w h hz bl0 n1
  have hr : pkR len0 L0 Z0 zs ≤ 16 := (pkR_le len0 L0 Z0 zs).1
  have hcc : 0 < pkR len0 L0 Z0 zs → L0 0 ≤ 16 := (pkR_le len0 L0 Z0 zs).2
  generalize pkR len0 L0 Z0 zs = r at hS hI hr hcc
  generalize pkOk len0 L0 Z0 zs = okf at hS hI
  generalize pkF (bZ len0 L0 Z0) zs = F at hS hI
  generalize L0 0 = c at hS hI hcc
  have hc : ∀ i, i < r → c ≤ 1048576 := fun i _ => by omega
  have ht : tot (fun _ => c) r ≤ 1048576 := tot_small hr hcc
  clear hcc
  have hfl : (okf != okf) = false := by simp
  have hr20 : r ≤ 1048576 := by omega
  obtain ⟨tq, htq⟩ : ∃ tq, 1 + tot (fun _ => c) r = tq := ⟨_, rfl⟩
  have htq0 : ¬ ((tq : Int) < 0) := by omega
  go_enter Try.func11, Try.ntmps11
  go_wp2_with fail
  refine (hz0 _ hM0 (by omega)).mono ?_
  rintro e w' ⟨rfl, hw⟩
  obtain rfl := hw.symm
  clear hw hz0
  clear hM0
  go_wp2_with fail
  refine Calls.mono (toSS_any _ len0 cap0 L0 Z0 _ A0.at bn0 bl0) ?_
  rintro e v1 ⟨rfl, ⟨AA1, p0⟩, b1⟩
  have s1 := b1.size
  replace A1 := A1.below b1
  replace A0 := A0.keep b1
  have cum := b1
  have cumS := cum.size
  clear b1
  go_wp2_with fail
  refine Calls.mono (toIntS_any _ len1 cap1 zs _ A1.1 n1) ?_
  rintro e v2 ⟨rfl, o2, b2⟩
  have p1 := row_toIntS HL1.out o2
  have t2 := (World.ownsRow.lt o2 _ rfl).2
  clear o2
  have s2 := b2.size
  replace A1 := A1.below b2
  replace A0 := A0.keep (b2.mono cumS)
  replace p0 := p0.below b2
  replace cum := below2 cum b2
  replace cumS := cum.size
  clear b2
  go_wp2_with fail
  refine Calls.mono (hS _ _ _ p0.at p1.ints) ?_
  rintro e v3 ⟨u3, rfl, ⟨aW, cW, AW, CW, rfl, W⟩, b3⟩
  have s3 := b3.size
  replace A1 := A1.below b3
  replace A0 := A0.keep (b3.mono cumS)
  replace p0 := p0.below b3
  replace p1 := p1.below b3
  replace cum := below2 cum b3
  replace cumS := cum.size
  clear b3
  clear p0 p1
  go_wp2_with fail
  refine Calls.mono (toSS_any _ len0 cap0 L0 Z0 _ A0.at bn0 bl0) ?_
  rintro e v4 ⟨rfl, ⟨AA4, x0⟩, b4⟩
  have s4 := b4.size
  replace A1 := A1.below b4
  replace A0 := A0.keep (b4.mono cumS)
  replace W := W.below b4
  replace cum := below2 cum b4
  replace cumS := cum.size
  clear b4
  go_wp2_with fail
  refine Calls.mono (toIntS_any _ len1 cap1 zs _ A1.1 n1) ?_
  rintro e v5 ⟨rfl, o5, b5⟩
  have x1 := row_toIntS HL1.out o5
  have t5 := (World.ownsRow.lt o5 _ rfl).2
  clear o5
  have s5 := b5.size
  replace A1 := A1.below b5
  replace A0 := A0.keep (b5.mono cumS)
  replace W := W.below b5
  replace x0 := x0.below b5
  replace cum := below2 cum b5
  replace cumS := cum.size
  clear b5
  go_wp2_with fail
  refine Calls.mono (hI _ _ _ x0.at x1.ints) ?_
  rintro e v6 ⟨u6, rfl, ⟨aG, cG, AG, CG, rfl, G⟩, b6⟩
  have s6 := b6.size
  replace A1 := A1.below b6
  replace A0 := A0.keep (b6.mono cumS)
  replace W := W.below b6
  replace x0 := x0.below b6
  replace x1 := x1.below b6
  replace cum := below2 cum b6
  replace cumS := cum.size
  clear b6
  go_wp2_with fail
  refine Calls.mono (eqSS_same _ _ _ _ _ _ _ _ G.at W.at hr20 hc) ?_
  rintro e v7 ⟨rfl, b7⟩
  have s7 := b7.size
  replace A1 := A1.below b7
  replace A0 := A0.keep (b7.mono cumS)
  replace W := W.below b7
  replace x0 := x0.below b7
  replace x1 := x1.below b7
  replace G := G.below b7
  replace cum := below2 cum b7
  replace cumS := cum.size
  clear b7
  go_wp2_with fail
  refine Calls.mono (toSS_any _ len0 cap0 L0 Z0 _ A0.at bn0 bl0) ?_
  rintro e v8 ⟨rfl, ⟨AA8, y0⟩, b8⟩
  have s8 := b8.size
  replace A1 := A1.below b8
  replace A0 := A0.keep (b8.mono cumS)
  replace W := W.below b8
  replace x0 := x0.below b8
  replace x1 := x1.below b8
  replace G := G.below b8
  replace cum := below2 cum b8
  replace cumS := cum.size
  clear b8
  go_wp2_with fail
  refine Calls.mono (eqSS_same _ _ _ _ _ _ _ _ x0.at y0.at bn0 bl0) ?_
  rintro e v9 ⟨rfl, b9⟩
  have s9 := b9.size
  replace A1 := A1.below b9
  replace A0 := A0.keep (b9.mono cumS)
  replace W := W.below b9
  replace x0 := x0.below b9
  replace x1 := x1.below b9
  replace G := G.below b9
  replace y0 := y0.below b9
  replace cum := below2 cum b9
  replace cumS := cum.size
  clear b9
  clear y0
  go_wp2_with fail
  refine Calls.mono (toIntS_any _ len1 cap1 zs _ A1.1 n1) ?_
  rintro e v10 ⟨rfl, o10, b10⟩
  have y1 := row_toIntS HL1.out o10
  have t10 := (World.ownsRow.lt o10 _ rfl).2
  clear o10
  have s10 := b10.size
  replace A1 := A1.below b10
  replace A0 := A0.keep (b10.mono cumS)
  replace W := W.below b10
  replace x0 := x0.below b10
  replace x1 := x1.below b10
  replace G := G.below b10
  replace cum := below2 cum b10
  replace cumS := cum.size
  clear b10
  go_wp2_with fail
  refine Calls.mono (eqIntS_same _ _ _ _ _ zs _ x1.ints y1.ints n1) ?_
  rintro e v11 ⟨rfl, b11⟩
  have s11 := b11.size
  replace A1 := A1.below b11
  replace A0 := A0.keep (b11.mono cumS)
  replace W := W.below b11
  replace x0 := x0.below b11
  replace x1 := x1.below b11
  replace G := G.below b11
  replace y1 := y1.below b11
  replace cum := below2 cum b11
  replace cumS := cum.size
  clear b11
  clear y1
  obtain ⟨q0, hq0⟩ : ∃ q, 1 + tot L0 len0 = q := ⟨_, rfl⟩
  go_wp2_with fail
  refine Calls.mono (markSS_any _ _ _ _ _ _ _ _ _ 1 q0 _ x0 bn0 bt0 (by omega) (by omega)) ?_
  rintro e v12 ⟨rfl, x0', T12⟩
  have s12 := T12.size
  replace A1 := A1.keep (T12.below (by omega) (by omega))
  replace A0 := A0.keep (T12.below (by omega) (by omega))
  replace W := W.turned T12 (by omega)
  replace x1 := x1.turnM T12 (by omega)
  replace G := G.turned T12 (by omega)
  replace cum := cum.trans (T12.below (by omega) (by omega))
  replace cumS := cum.size
  clear T12
  clear x0
  have x0 := x0'
  clear x0'
  clear x0
  obtain ⟨q1, hq1⟩ : ∃ q, q0 + len1 = q := ⟨_, rfl⟩
  go_wp2_with fail
  refine Calls.mono (mark_q _ _ _ _ _ q0 q1 _ _ x1 (by omega) (by omega) (by omega)) ?_
  rintro e v13 ⟨rfl, x1', T13'⟩
  have T13 := T13'.m
  clear T13'
  have s13 := T13.size
  replace A1 := A1.keep (T13.below (by omega) (by omega))
  replace A0 := A0.keep (T13.below (by omega) (by omega))
  replace W := W.turned T13 (by omega)
  replace G := G.turned T13 (by omega)
  replace cum := cum.trans (T13.below (by omega) (by omega))
  replace cumS := cum.size
  clear T13
  clear x1
  have x1 := x1'
  clear x1'
  clear x1
  have hk0 : ¬ ((q1 : Int) < 0) := by omega
  go_wp2_with fail
  refine Calls.mono (eqSS_same _ _ _ _ _ _ _ _ G.at W.at hr20 hc) ?_
  rintro e v14 ⟨rfl, b14⟩
  have s14 := b14.size
  replace A1 := A1.below b14
  replace A0 := A0.keep (b14.mono cumS)
  replace W := W.below b14
  replace G := G.below b14
  replace cum := below2 cum b14
  replace cumS := cum.size
  clear b14
  go_wp2_with fail
  refine Calls.mono (markSS_any _ _ _ _ _ _ _ _ _ 1 tq _ G hr20 ht (by omega) (by omega)) ?_
  rintro e v15 ⟨rfl, G', T15⟩
  have s15 := T15.size
  replace A1 := A1.keep (T15.below (by omega) (by omega))
  replace A0 := A0.keep (T15.below (by omega) (by omega))
  replace W := W.turned T15 (by omega)
  replace cum := cum.trans (T15.below (by omega) (by omega))
  replace cumS := cum.size
  clear T15
  clear G
  have G := G'
  clear G'
  go_wp2_with fail
  refine Calls.mono (heldSS_any _ _ _ _ 1 tq _ G.at hr20 ht (by omega) htq) ?_
  rintro e w' ⟨rfl, hw⟩
  obtain rfl := hw.symm
  clear hw
  go_wp2_with fail
  refine Calls.mono (toSS_any _ len0 cap0 L0 Z0 _ A0.at bn0 bl0) ?_
  rintro e v16 ⟨rfl, ⟨AA16, z0c⟩, b16⟩
  have s16 := b16.size
  replace A1 := A1.below b16
  replace A0 := A0.keep (b16.mono cumS)
  replace W := W.below b16
  replace G := G.below b16
  replace cum := below2 cum b16
  replace cumS := cum.size
  clear b16
  go_wp2_with fail
  refine Calls.mono (toIntS_any _ len1 cap1 zs _ A1.1 n1) ?_
  rintro e v17 ⟨rfl, o17, b17⟩
  have z1c := row_toIntS HL1.out o17
  have t17 := (World.ownsRow.lt o17 _ rfl).2
  clear o17
  have s17 := b17.size
  replace A1 := A1.below b17
  replace A0 := A0.keep (b17.mono cumS)
  replace W := W.below b17
  replace G := G.below b17
  replace z0c := z0c.below b17
  replace cum := below2 cum b17
  replace cumS := cum.size
  clear b17
  go_wp2_with fail
  refine Calls.mono (hI _ _ _ z0c.at z1c.ints) ?_
  rintro e v18 ⟨u18, rfl, ⟨aH, cH, AH, CH, rfl, H⟩, b18⟩
  have s18 := b18.size
  replace A1 := A1.below b18
  replace A0 := A0.keep (b18.mono cumS)
  replace W := W.below b18
  replace G := G.below b18
  replace z0c := z0c.below b18
  replace z1c := z1c.below b18
  replace cum := below2 cum b18
  replace cumS := cum.size
  clear b18
  clear z0c z1c
  go_wp2_with fail
  refine Calls.mono (eqSS_same _ _ _ _ _ _ _ _ H.at W.at hr20 hc) ?_
  rintro e v19 ⟨rfl, b19⟩
  have s19 := b19.size
  replace A1 := A1.below b19
  replace A0 := A0.keep (b19.mono cumS)
  replace W := W.below b19
  replace G := G.below b19
  replace H := H.below b19
  replace cum := below2 cum b19
  replace cumS := cum.size
  clear b19
  go_wp2_with fail
  refine Calls.mono (heldSS_any _ _ _ _ 1 tq _ G.at hr20 ht (by omega) htq) ?_
  rintro e w' ⟨rfl, hw⟩
  obtain rfl := hw.symm
  clear hw
  go_wp2
  go_ret
  exact ⟨rfl, cum⟩
end Go.Proofs.Ytojklpahobmleaa
namespace Go.Proofs.Ytojklpahobmleaa.fnExactPick
open Go.ChangeShapes Go.WideShapes Go.ChangeAt Go.RowKit
open Go.ChangeMaps (open_string shut_string)
set_option linter.unusedVariables false
theorem own : ownKnob Try.prog.godebug = none := by kernel_rfl
theorem laidOut : laidOutB Try.prog = true := by kernel_rfl
set_option maxRecDepth 100000 in
theorem lifted (os : Os) (started : os.Started) (H : Type) (enc : TypeId × Value → H) :
    ReturnsInHanded {} Try.checked os 11 .any (Rows.fnExactPickSpec.pre6 enc Try.prog Try.f11 Rows.fnExactPickRow.domain false) (Rows.fnExactPickSpec.post enc Try.prog Try.f11 false true false false) := by
  refine returnsInHanded_of_change (C := Try.checked) own started (by kernel_rfl) Try.func11
    (ChangeSpec.witness6 (enc := enc) (C := Try.checked) false ⟨#[], #[.slice none 0 0, .slice none 0 0], []⟩ 8 (by kernel_rfl) (by kernel_rfl) (by kernel_rfl) (by kernel_rfl)) ?_
  intro W base args ds gs before hval0 hW hcnd _
  have hval : ∀ (j : Nat) t v, Try.f11.params[j]? = some t → args[j]? = some v → Value.okWide Try.prog W .any base t v := hval0
  have hW' := hW
  obtain ⟨p, q, hA0, hV, rfl, hfz, hnd⟩ := hW
  have hA : DataW.TrodAll enc Try.prog W 0 (fun _ => true) true Try.f11.params.toList args.toList ds p := hA0
  rw [Try.params11] at hA hval
  obtain ⟨v0, vs0, d0, ds0, p0, q0, hargs, rfl, rfl, h0, r0⟩ := trodAll_cons hA
  obtain ⟨v1, vs1, d1, ds1, p1, q1, rfl, rfl, rfl, h1, r1⟩ := trodAll_cons r0
  obtain ⟨rfl, rfl, rfl⟩ := trodAll_nil r1
  obtain rfl : args = #[v0, v1] := by cases args; simp_all
  obtain ⟨rfl, rfl⟩ := trodVars_none hV
  obtain ⟨a0, len0, cap0, rfl⟩ := okWide_slice Try.underlying24 (hval 0 24 v0 rfl rfl)
  have k0 := h0
  have lt0 : ∀ x ∈ p0, x.block < W.heap.size := by obtain ⟨m, hm⟩ := k0; exact DataW.trod_lt m _ _ _ hm
  obtain ⟨L0, Z0, w0⟩ : ∃ L Z, IsMat W a0 len0 L Z := by
    obtain ⟨fuel, hf⟩ := h0
    rcases Go.Deep.open_int_rows Try.underlying24 Try.underlying31 Try.underlying3 (by kernel_rfl) (by kernel_rfl) hf with ⟨hcs, _⟩ | ⟨x, l, c, A, L, C, Z, hcs, _, hl, hm, _, hrow⟩
    · simp [Value.cells] at hcs
      obtain ⟨rfl, rfl, rfl⟩ := hcs
      exact ⟨fun _ => 0, fun _ _ => 0, fun i hi => absurd hi (Nat.not_lt_zero _), Nat.zero_le _, fun i hi => absurd hi (Nat.not_lt_zero _)⟩
    · simp [Value.cells] at hcs
      obtain ⟨rfl, rfl, rfl⟩ := hcs
      exact ⟨L, _, isMat_of hl hm hrow⟩
  obtain ⟨a1, len1, cap1, rfl⟩ := okWide_slice Try.underlying31 (hval 1 31 v1 rfl rfl)
  have k1 := h1
  have lt1 : ∀ x ∈ p1, x.block < W.heap.size := by obtain ⟨m, hm⟩ := k1; exact DataW.trod_lt m _ _ _ hm
  obtain ⟨z1, w1⟩ : ∃ zs, IsRow .i64 W a1 len1 cap1 zs := by
    obtain ⟨fuel, hf⟩ := h1
    rcases open_ints Try.underlying31 Try.underlying3 (by kernel_rfl) hf with ⟨hcs, _⟩ | ⟨x, l, c, zs, hcs, _, hl, hm, hz, _, hcell, hwz⟩
    · simp [Value.cells] at hcs
      obtain ⟨rfl, rfl, rfl⟩ := hcs
      exact ⟨[], .inl ⟨rfl, rfl, rfl, rfl⟩⟩
    · simp [Value.cells] at hcs
      obtain ⟨rfl, rfl, rfl⟩ := hcs
      exact ⟨zs, .inr ⟨_, rfl, hl, hm, by simpa using hz, hcell, hwz⟩⟩
  clear hA0 hval0
  refine (walk_FnExactPick a0 len0 cap0 L0 Z0 a1 len1 cap1 z1 W w0 w1).mono fun e W' ⟨he, bel⟩ => ?_
  subst he
  exact ⟨_, rfl, _, _, _, [], _, [], hW', trodAll_mk1 (shut_bool Try.underlying4 _), (trodAll_cons_mk (Below.trod laidOut (by kernel_rfl) (of_decide_eq_true (by kernel_rfl)) k0 bel lt0) (trodAll_cons_mk (Below.trod laidOut (by kernel_rfl) (of_decide_eq_true (by kernel_rfl)) k1 bel lt1) trodAll_mk0)), rfl, bel.frame _, fun h => by cases h⟩
theorem over : Rows.fnExactPickRow.holds Try.pinned (OpenSpec.ofChange Rows.fnExactPickSpec) :=
  OpenClaim.holds_of_wide 11 Try.f11 rfl rfl rfl rfl rfl rfl rfl ⟨rfl, rfl, rfl, rfl, rfl⟩ rfl rfl rfl rfl rfl (by kernel_rfl) Try.func11 (by kernel_rfl)
    (of_decide_eq_true (by kernel_rfl)) (by unfold Func.isWrapper; first | (rw [if_pos (by decide +kernel)]; kernel_rfl) | (rw [if_neg (by decide +kernel)]; exact ⟨rfl, rfl⟩))
    (fun os started H enc _ => lifted os started H enc)
theorem proved : Rows.FnExactPickSaid := over
#print axioms proved
end Go.Proofs.Ytojklpahobmleaa.fnExactPick
