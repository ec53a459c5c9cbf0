/- For every input: a matrix times its inverse is the unit, both ways; there is one just where the rank is as great as can be; and the program's answers are the model's. No condition. -/
import Derived.Test.YtmggogdnfgkljaaQLTurned
import Derived.Test.YtmggogdnfgkljaaQMInvS
namespace Go.Proofs.Ytmggogdnfgkljaa
open Go.ChangeShapes Go.WideShapes Go.ChangeAt Go.RowKit

set_option maxRecDepth 100000 in
set_option maxHeartbeats 8000000 in
theorem walk_FnInverse (a0 : Option Addr) (len0 cap0 : Nat) (z0 : List Int) (w : World) (w0 : IsRow .u8 w a0 len0 cap0 z0) :
    Calls Try.prog 3 #[.slice a0 len0 cap0] w fun e w' => e = .returned (.bool true) ∧ Below w.heap.size w w' := by
  by_cases h0 : 1048576 < len0
  · clear w0
    have h0' : (1048576 : Int) < (len0 : Int) := by omega
    go_enter Try.func3, Try.ntmps3
    go_wp2_with (go_at_call 14; refine (big_any _ _ _ _).mono ?_; rintro e w' ⟨rfl, rfl⟩)
    go_ret
    exact ⟨rfl, Below.refl _ _⟩
  have hc := w0.code (by omega)
  clear w0
  have h0' : ¬ (1048576 : Int) < (len0 : Int) := by omega
  go_enter Try.func3, Try.ntmps3
  go_wp2_with fail
  refine (big_any _ _ _ _).mono ?_
  rintro e w' ⟨rfl, hw⟩
  obtain rfl := hw.symm
  go_wp2_with fail
  refine (drawMatInv_any _ _ _ _ hc).mono ?_
  rintro e v1 ⟨va, rfl, ⟨Ga, n, ca, L, Z, rfl, hn, MA, hL⟩, cum⟩
  clear hc hw
  have bl : ∀ i, i < n → L i ≤ 1048576 := fun i hi => by have := hL i hi; omega
  have rl := ivR_le n L Z
  have KI : Hid _ := inv_any' (some ⟨Ga, 0, none⟩) n ca L Z v1 MA bl
  go_wp2_with fail
  refine Calls.mono KI.out ?_
  rintro e v2 ⟨ui, rfl, RI, b2⟩
  obtain ⟨ai, ci, rfl, MI⟩ := RI.at
  replace MA := MA.below b2
  replace cum := below2 cum b2
  clear RI b2 KI
  have KS : Hid _ := sInv_mat (some ⟨Ga, 0, none⟩) n ca L Z v2 MA bl
  go_wp2_with fail
  refine Calls.mono KS.out ?_
  rintro e v3 ⟨uw, rfl, RW, b3⟩
  obtain ⟨aw, cw, rfl, MW⟩ := RW.at
  replace MA := MA.below b3
  replace MI := MI.below b3
  replace cum := below2 cum b3
  clear RW b3 KS
  obtain ⟨okf, ek⟩ : ∃ k, ivOk n L Z = k := ⟨_, rfl⟩
  have KEK : Hid (ivOk n L Z = okf) := ek
  have hfl : (okf != okf) = false := by simp
  rw [ek]
  clear ek
  have KR : Hid (∀ w, MatAt w (some ⟨Ga, 0, none⟩) n L Z → Calls Try.prog 19 #[.slice (some ⟨Ga, 0, none⟩) n ca] w fun e w' => e = .returned (.int .i64 (rankI n L Z)) ∧ Below w.heap.size w w') := fun w h => rank_any _ n ca L Z w h bl
  have KRS : Hid (∀ w, MatAt w (some ⟨Ga, 0, none⟩) n L Z → Calls Try.prog 20 #[.slice (some ⟨Ga, 0, none⟩) n ca] w fun e w' => e = .returned (.int .i64 (rankI n L Z)) ∧ Below w.heap.size w w') := fun w h => sRank_any _ n ca L Z w h bl
  have KO : Hid (∀ w, MatAt w (some ⟨Ga, 0, none⟩) n L Z → Calls Try.prog 21 #[.slice (some ⟨Ga, 0, none⟩) n ca] w fun e w' => e = .returned (.bool (okM n L Z)) ∧ Below w.heap.size w w') := fun w h => matOk_any _ n ca L Z w h bl
  have KOS : Hid (∀ w, MatAt w (some ⟨Ga, 0, none⟩) n L Z → Calls Try.prog 22 #[.slice (some ⟨Ga, 0, none⟩) n ca] w fun e w' => e = .returned (.bool (okM n L Z)) ∧ Below w.heap.size w w') := fun w h => sMatOk_any _ n ca L Z w h bl
  obtain ⟨rk, erk⟩ : ∃ k, rankI n L Z = k := ⟨_, rfl⟩
  have KRK : Hid (rankI n L Z = rk) := erk
  have hrr : (rk != rk) = false := by simp
  obtain ⟨mo, emo⟩ : ∃ k, okM n L Z = k := ⟨_, rfl⟩
  have KMO : Hid (okM n L Z = mo) := emo
  have hmm : (mo != mo) = false := by simp
  rw [erk] at KR KRS
  rw [emo] at KO KOS
  clear erk emo
  go_wp2_with fail
  refine Calls.mono (sameRows_z _ _ _ _ _ _ _ _ MI MW (by omega) (fun i hi => by have := rl.2 (by omega); omega)) ?_
  rintro e v4 ⟨rfl, b4⟩
  replace MA := MA.below b4
  replace MI := MI.below b4
  replace cum := below2 cum b4
  clear b4 MW
  go_wp2_with fail
  refine Calls.mono (KR.out _ MA) ?_
  rintro e v5 ⟨rfl, b5⟩
  replace MA := MA.below b5
  replace MI := MI.below b5
  replace cum := below2 cum b5
  clear b5
  go_wp2_with fail
  refine Calls.mono (KRS.out _ MA) ?_
  rintro e v6 ⟨rfl, b6⟩
  replace MA := MA.below b6
  replace MI := MI.below b6
  replace cum := below2 cum b6
  clear b6 KRS
  go_wp2_with fail
  refine Calls.mono (KO.out _ MA) ?_
  rintro e v7 ⟨rfl, b7⟩
  replace MA := MA.below b7
  replace MI := MI.below b7
  replace cum := below2 cum b7
  clear b7 KO
  go_wp2_with fail
  refine Calls.mono (KOS.out _ MA) ?_
  rintro e v8 ⟨rfl, b8⟩
  replace MA := MA.below b8
  replace MI := MI.below b8
  replace cum := below2 cum b8
  clear b8
  go_wp2_with fail
  refine Calls.mono (KOS.out _ MA) ?_
  rintro e v9 ⟨rfl, b9⟩
  replace MA := MA.below b9
  replace MI := MI.below b9
  replace cum := below2 cum b9
  clear b9 KOS
  cases mo
  case false =>
    have hno : ¬ OkM n L Z := fun h => by have := okM_yes h; rw [KMO.out] at this; cases this
    obtain rfl : okf = false := by rw [← KEK.out]; exact ivOk_no (fun h => hno h.1)
    clear MA MI
    go_wp2
    go_ret
    exact ⟨rfl, cum⟩
  have ok := okM_iff KMO.out
  have hL0 : L 0 ≤ 16 := ok.2.2.2.1
  have hn16 : n ≤ 16 := ok.2.1
  have hn1 : 1 ≤ n := ok.1
  obtain ⟨bb, oo, ai', ci', eb, hc0, _⟩ := MA 0 (by omega)
  cases eb
  rw [Nat.zero_add] at hc0
  by_cases hnl : n = L 0
  case neg =>
    obtain rfl : okf = false := by rw [← KEK.out]; exact ivOk_no (fun h => hnl h.2.1)
    have hne : ((n : Int) != (L 0 : Int)) = true := by simp; omega
    clear MA MI
    generalize L 0 = l at *
    go_wp2
    go_ret
    exact ⟨rfl, cum⟩
  have hne : ((n : Int) != (L 0 : Int)) = false := by simp; omega
  have KNL : Hid (n = L 0) := hnl
  have hrkn : rk = ((Gm.rk (bZ n L Z) n n : Nat) : Int) := by
    rw [← KRK.out]
    unfold rankI
    rw [if_pos KMO.out, ← hnl]
  clear hnl
  by_cases hfull : Gm.rk (bZ n L Z) n n = n
  case neg =>
    have hno : ¬ InvOk n L Z := fun h => hfull h.2.2
    obtain rfl : okf = false := by rw [← KEK.out]; exact ivOk_no hno
    have hR : ivR n L Z = 0 := ivR_no hno
    have hrn : (rk == (n : Int)) = false := by rw [hrkn]; simp; omega
    rw [hR]
    clear hrkn hR hfull hno
    generalize L 0 = l at *
    go_wp2_with fail
    refine Calls.mono (KR.out _ MA) ?_
    rintro e v10 ⟨rfl, b10⟩
    replace cum := below2 cum b10
    clear MA MI b10
    go_wp2
    go_ret
    exact ⟨rfl, cum⟩
  have io : InvOk n L Z := ⟨ok, KNL.out, hfull⟩
  obtain rfl : okf = true := by rw [← KEK.out]; exact ivOk_yes io
  have hR : ivR n L Z = n := ivR_yes io
  obtain rfl : rk = (n : Int) := by rw [hrkn, hfull]
  rw [hR]
  rw [hR] at MI
  have KFU : Hid (Gm.rk (bZ n L Z) n n = n) := hfull
  clear hrkn hR hfull io
  go_wp2_with fail
  refine Calls.mono (KR.out _ MA) ?_
  rintro e v10 ⟨rfl, b10⟩
  replace MA := MA.below b10
  replace MI := MI.below b10
  replace cum := below2 cum b10
  clear b10 KR hc0
  have hsd : side (n : Int) = true := by rw [side_nat]; simp; omega
  have hun : unitN (n : Int) = n := by unfold unitN; rw [if_pos hsd]; simp
  have KU : Hid _ := unit_any (n : Int) v10
  rw [hun, hsd] at KU
  go_wp2_with fail
  refine Calls.mono KU.out ?_
  rintro e v11 ⟨uu, rfl, RU, b11⟩
  obtain ⟨au, cu, rfl, MU⟩ := RU.at
  replace MA := MA.below b11
  replace MI := MI.below b11
  replace cum := below2 cum b11
  clear RU b11 KU
  have hAb := bZ_byt n L Z
  have hIb := Gm.iv_byt hAb n
  have ok2 : OkM n (fun _ => n) (fun i j => ((Gm.iv (bZ n L Z) n i j : Nat) : Int)) := okM_of hn1 hn16 hn1 hn16 hIb
  have mo1 : MulOk n L Z n (fun _ => n) (fun i j => ((Gm.iv (bZ n L Z) n i j : Nat) : Int)) := ⟨ok, ok2, KNL.out.symm⟩
  have mo2 : MulOk n (fun _ => n) (fun i j => ((Gm.iv (bZ n L Z) n i j : Nat) : Int)) n L Z := ⟨ok2, ok, rfl⟩
  have KA : Hid _ := mulM_any (some ⟨Ga, 0, none⟩) n ca L Z ai n ci (fun _ => n) (fun i j => ((Gm.iv (bZ n L Z) n i j : Nat) : Int)) v11 MA MI bl (fun i _ => by omega)
  go_wp2_with fail
  refine Calls.mono KA.out ?_
  rintro e v12 ⟨ux, rfl, RX, b12⟩
  have hm1 : muR n L Z n (fun _ => n) (fun i j => ((Gm.iv (bZ n L Z) n i j : Nat) : Int)) = n := by unfold muR; rw [if_pos (muOk_yes mo1)]
  rw [hm1] at RX
  obtain ⟨ax, cx, rfl, MX⟩ := RX.at
  replace MX := MX.congr (Z' := fun i j => ((Gm.dl i j : Nat) : Int)) (fun i hi => ⟨rfl, fun j hj => by
    rw [Gm.mp_congr (A' := bZ n L Z) (B' := Gm.iv (bZ n L Z) n) (fun t _ => rfl) (fun t ht => bZ_at ht hj (hIb t j)), (Gm.iv_both hAb KFU.out i j hi hj).1]⟩)
  replace MA := MA.below b12
  replace MI := MI.below b12
  replace MU := MU.below b12
  replace cum := below2 cum b12
  clear RX b12 KA hm1
  have KB : Hid _ := mulM_any ai n ci (fun _ => n) (fun i j => ((Gm.iv (bZ n L Z) n i j : Nat) : Int)) (some ⟨Ga, 0, none⟩) n ca L Z v12 MI MA (fun i _ => by omega) bl
  go_wp2_with fail
  refine Calls.mono KB.out ?_
  rintro e v13 ⟨uy, rfl, RY, b13⟩
  have hm2 : muR n (fun _ => n) (fun i j => ((Gm.iv (bZ n L Z) n i j : Nat) : Int)) n L Z = n := by unfold muR; rw [if_pos (muOk_yes mo2)]
  rw [hm2] at RY
  obtain ⟨ay, cy, rfl, MY⟩ := RY.at
  replace MY := MY.congr (L' := fun _ => n) (Z' := fun i j => ((Gm.dl i j : Nat) : Int)) (fun i hi => ⟨KNL.out.symm, fun j hj => by
    rw [Gm.mp_congr (A' := Gm.iv (bZ n L Z) n) (B' := bZ n L Z) (fun t ht => bZ_at hi ht (hIb i t)) (fun t _ => rfl), (Gm.iv_both hAb KFU.out i j hi (by have := KNL.out; omega)).2]⟩)
  replace MX := MX.below b13
  replace MU := MU.below b13
  replace cum := below2 cum b13
  clear RY b13 KB hm2 MA MI
  go_wp2_with fail
  refine Calls.mono (sameRows_z _ _ _ _ _ _ _ _ MX MU (by omega) (fun i _ => by omega)) ?_
  rintro e v14 ⟨rfl, b14⟩
  replace MY := MY.below b14
  replace MU := MU.below b14
  replace cum := below2 cum b14
  clear b14 MX
  go_wp2_with fail
  refine Calls.mono (sameRows_z _ _ _ _ _ _ _ _ MY MU (by omega) (fun i _ => by omega)) ?_
  rintro e v15 ⟨rfl, b15⟩
  replace cum := below2 cum b15
  clear b15 MY MU
  go_wp2
  go_ret
  exact ⟨rfl, cum⟩
end Go.Proofs.Ytmggogdnfgkljaa
namespace Go.Proofs.Ytmggogdnfgkljaa.fnInverse
open Go.ChangeShapes Go.WideShapes Go.ChangeAt Go.RowKit
open Go.ChangeMaps (open_string shut_string)
set_option linter.unusedVariables false
theorem own : ownKnob Try.prog.godebug = none := by kernel_rfl
theorem laidOut : laidOutB Try.prog = true := by kernel_rfl
set_option maxRecDepth 100000 in
theorem lifted (os : Os) (started : os.Started) (H : Type) (enc : TypeId × Value → H) :
    ReturnsInHanded {} Try.checked os 3 .any (Rows.fnInverseSpec.pre6 enc Try.prog Try.f3 Rows.fnInverseRow.domain false) (Rows.fnInverseSpec.post enc Try.prog Try.f3 false true false false) := by
  refine returnsInHanded_of_change (C := Try.checked) own started (by kernel_rfl) Try.func3
    (ChangeSpec.witness6 (enc := enc) (C := Try.checked) false ⟨#[], #[.slice none 0 0], []⟩ 8 (by kernel_rfl) (by kernel_rfl) (by kernel_rfl) (by kernel_rfl)) ?_
  intro W base args ds gs before hval0 hW hcnd _
  have hval : ∀ (j : Nat) t v, Try.f3.params[j]? = some t → args[j]? = some v → Value.okWide Try.prog W .any base t v := hval0
  have hW' := hW
  obtain ⟨p, q, hA0, hV, rfl, hfz, hnd⟩ := hW
  have hA : DataW.TrodAll enc Try.prog W 0 (fun _ => true) true Try.f3.params.toList args.toList ds p := hA0
  rw [Try.params3] at hA hval
  obtain ⟨v0, vs0, d0, ds0, p0, q0, hargs, rfl, rfl, h0, r0⟩ := trodAll_cons hA
  obtain ⟨rfl, rfl, rfl⟩ := trodAll_nil r0
  obtain rfl : args = #[v0] := by cases args; simp_all
  obtain ⟨rfl, rfl⟩ := trodVars_none hV
  obtain ⟨a0, len0, cap0, rfl⟩ := okWide_slice Try.underlying22 (hval 0 22 v0 rfl rfl)
  have k0 := h0
  have lt0 : ∀ x ∈ p0, x.block < W.heap.size := by obtain ⟨m, hm⟩ := k0; exact DataW.trod_lt m _ _ _ hm
  obtain ⟨z0, w0⟩ : ∃ zs, IsRow .u8 W a0 len0 cap0 zs := by
    obtain ⟨fuel, hf⟩ := h0
    rcases open_ints Try.underlying22 Try.underlying5 (by kernel_rfl) hf with ⟨hcs, _⟩ | ⟨x, l, c, zs, hcs, _, hl, hm, hz, _, hcell, hwz⟩
    · simp [Value.cells] at hcs
      obtain ⟨rfl, rfl, rfl⟩ := hcs
      exact ⟨[], .inl ⟨rfl, rfl, rfl, rfl⟩⟩
    · simp [Value.cells] at hcs
      obtain ⟨rfl, rfl, rfl⟩ := hcs
      exact ⟨zs, .inr ⟨_, rfl, hl, hm, by simpa using hz, hcell, hwz⟩⟩
  clear hA0 hval0
  refine (walk_FnInverse a0 len0 cap0 z0 W w0).mono fun e W' ⟨he, bel⟩ => ?_
  subst he
  exact ⟨_, rfl, _, _, _, [], _, [], hW', trodAll_mk1 (shut_bool Try.underlying4 _), (trodAll_cons_mk (Below.trod laidOut (by kernel_rfl) (of_decide_eq_true (by kernel_rfl)) k0 bel lt0) trodAll_mk0), rfl, bel.frame _, fun h => by cases h⟩
theorem over : Rows.fnInverseRow.holds Try.pinned (OpenSpec.ofChange Rows.fnInverseSpec) :=
  OpenClaim.holds_of_wide 3 Try.f3 rfl rfl rfl rfl rfl rfl rfl ⟨rfl, rfl, rfl, rfl, rfl⟩ rfl rfl rfl rfl rfl (by kernel_rfl) Try.func3 (by kernel_rfl)
    (of_decide_eq_true (by kernel_rfl)) (by unfold Func.isWrapper; first | (rw [if_pos (by decide +kernel)]; kernel_rfl) | (rw [if_neg (by decide +kernel)]; exact ⟨rfl, rfl⟩))
    (fun os started H enc _ => lifted os started H enc)
theorem proved : Rows.FnInverseSaid := over
#print axioms proved
end Go.Proofs.Ytmggogdnfgkljaa.fnInverse
