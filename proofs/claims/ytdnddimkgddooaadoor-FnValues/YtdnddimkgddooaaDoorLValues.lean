/- For every input: the value of a sum is the sum of the values, that of a product their product; the program's answers are the model's. Condition: the library's tables start as the program's text lays them (the card ties them). -/
import Derived.Test.YtdnddimkgddooaaDoorDrawV
import Derived.Test.YtdnddimkgddooaaDoorPMath
import Derived.Test.YtdnddimkgddooaaDoorPSpecB
import Derived.Test.YtdnddimkgddooaaDoorMarks
import Derived.Test.YtdnddimkgddooaaDoorDoorF
namespace Go.Proofs.YtdnddimkgddooaaDoor
open Go.ChangeShapes Go.WideShapes Go.ChangeAt Go.RowKit
theorem OwnI.look {w : World} {B : Nat} {v : Value} {zs : List Int} (h : OwnI w B v zs) : ∃ a cap, v = .slice a zs.length cap ∧ IntsAt w a zs.length zs := by
  obtain ⟨a, cap, e, hi, _⟩ := h.view
  exact ⟨a, cap, e, hi⟩
theorem atP_ps {xs : List Int} {x : Nat} (h : okB xs = true) (hx : x < 256) : atP xs (x : Int) = ((Gp.ps (coP xs) x xs.length : Nat) : Int) ∧ Gp.ps (coP xs) x xs.length < 256 := by
  have px := (okB_parts h).2.2.1
  refine ⟨?_, by rw [← Gp.ev_ps px.1]; exact Gp.hn_lt px.1 _ _ _⟩
  unfold atP
  rw [if_pos ⟨h, isB_ofNat hx⟩, Int.toNat_natCast, Gp.ev_ps px.1]
theorem val_mul {xs ys : List Int} (h : (mulP xs ys).2 = true) {x : Nat} (hx : x < 256) : atP (mulP xs ys).1 (x : Int) = mulI (atP xs (x : Int)) (atP ys (x : Int)) := by
  by_cases hc : okB xs = true ∧ okB ys = true ∧ Gp.tl (Gp.cv (coP xs) (coP ys) xs.length) (xs.length + ys.length) ≤ 40
  · obtain ⟨h1, h2, h3⟩ := hc
    have py := (okB_parts h2).2.2.1
    have e : mulP xs ys = (eI (Gp.cv (coP xs) (coP ys) xs.length) (Gp.tl (Gp.cv (coP xs) (coP ys) xs.length) (xs.length + ys.length)), true) := by unfold mulP; rw [if_pos ⟨h1, h2, h3⟩]
    have pC : Gp.Pol (Gp.cv (coP xs) (coP ys) xs.length) (Gp.tl (Gp.cv (coP xs) (coP ys) xs.length) (xs.length + ys.length)) := (Gp.cv_pol py).tl
    have okC := okB_eI pC h3 (tl_good _ _)
    rw [e]
    obtain ⟨e1, l1⟩ := atP_ps h1 hx
    obtain ⟨e2, l2⟩ := atP_ps h2 hx
    obtain ⟨e3, _⟩ := atP_ps okC hx
    show atP (eI _ _) _ = _
    rw [e3, e1, e2, coP_eI pC, eI_len, ← Gp.ps_more pC.2 x (xs.length + ys.length) (Gp.tl_le _ _), Gp.ps_cv _ _ ys.length x (xs.length + ys.length) xs.length py.2 (Nat.le_refl _)]
    unfold mulI
    rw [if_pos ⟨isB_ofNat l1, isB_ofNat l2⟩, Int.toNat_natCast, Int.toNat_natCast, Gp.m_nat l1 l2, Gp.m_comm]
  · exfalso
    unfold mulP at h
    rw [if_neg hc] at h
    cases h
theorem val_add {xs ys : List Int} (h : (addP xs ys).2 = true) {x : Nat} (hx : x < 256) : atP (addP xs ys).1 (x : Int) = addI (atP xs (x : Int)) (atP ys (x : Int)) ∧ okB (addP xs ys).1 = true := by
  by_cases hc : okB xs = true ∧ okB ys = true
  · obtain ⟨h1, h2⟩ := hc
    have px := (okB_parts h1).2.2.1
    have py := (okB_parts h2).2.2.1
    have k1 := (okB_parts h1).1
    have k2 := (okB_parts h2).1
    have e : addP xs ys = (eI (Gp.ad (coP xs) (coP ys)) (Gp.tl (Gp.ad (coP xs) (coP ys)) (max xs.length ys.length)), true) := by unfold addP; rw [if_pos ⟨h1, h2⟩]
    have pA := Gp.ad_pol px py
    have okA := okB_eI pA.tl (Nat.le_trans (Gp.tl_le _ _) (by omega)) (tl_good _ _)
    rw [e]
    refine ⟨?_, okA⟩
    obtain ⟨e1, l1⟩ := atP_ps h1 hx
    obtain ⟨e2, l2⟩ := atP_ps h2 hx
    obtain ⟨e3, _⟩ := atP_ps okA hx
    show atP (eI _ _) _ = _
    rw [e3, e1, e2, coP_eI pA.tl, eI_len, ← Gp.ps_more pA.tl.2 x (max xs.length ys.length) (Gp.tl_le _ _), Gp.ps_ad, Gp.ps_more px.2 x _ (by omega), Gp.ps_more py.2 x _ (by omega)]
    unfold addI
    rw [if_pos ⟨isB_ofNat l1, isB_ofNat l2⟩, Int.toNat_natCast, Int.toNat_natCast]
  · exfalso
    unfold addP at h
    rw [if_neg hc] at h
    cases h

set_option maxRecDepth 100000 in
set_option maxHeartbeats 8000000 in
theorem walk_FnValues (a0 : Option Addr) (len0 cap0 : Nat) (z0 : List Int) (w : World) (w0 : IsRow .u8 w a0 len0 cap0 z0) (htab : TabOk w) :
    Calls Tryd.prog 3 #[.slice a0 len0 cap0] w fun e w' => e = .returned (.bool true) ∧ Below w.heap.size w w' := by
  by_cases h0 : 1048576 < len0
  · clear w0 htab
    have h0' : (1048576 : Int) < (len0 : Int) := by omega
    go_enter Tryd.func3, Tryd.ntmps3
    go_wp2_with (go_at_call 5; refine (big_any _ _ _ _).mono ?_; rintro e w' ⟨rfl, rfl⟩)
    go_ret
    exact ⟨rfl, Below.refl _ _⟩
  · have hc := w0.code (by omega)
    clear w0
    have KT : Hid (TabOk w) := htab
    clear htab
    have h0' : ¬ (1048576 : Int) < (len0 : Int) := by omega
    go_enter Tryd.func3, Tryd.ntmps3
    go_wp2_with fail
    refine (big_any _ _ _ _).mono ?_
    rintro e w' ⟨rfl, hw⟩
    obtain rfl := hw.symm
    clear hw
    go_wp2_with fail
    refine (drawPMul_any _ _ _ _ hc).mono ?_
    rintro e v1 ⟨ga, ca, n, gb, cb, m, xs, ys, rfl, hn, hm, A, B, cum⟩
    replace hc := hc.below cum
    have nA : n ≤ 1048576 := by omega
    have nB : m ≤ 1048576 := by omega
    have hMl := mulP_len xs ys
    have hSl := addP_len xs ys
    go_wp2_with fail
    refine (lawAt_any _ _ _ _ hc).mono ?_
    rintro e w' ⟨x, hx, rfl, hw⟩
    obtain rfl := hw.symm
    clear hw
    go_wp2_with fail
    refine (drawPAt_any _ _ _ _ hc).mono ?_
    rintro e v2 ⟨gp, cp, np, qs, v, rfl, hnp, P, b2⟩
    replace A := A.below b2
    replace B := B.below b2
    replace hc := hc.below b2
    replace cum := below2 cum b2
    clear b2
    have nP : np ≤ 1048576 := by omega
    have hA1 : (atP qs v != atP qs v) = false := by simp
    go_wp2_with fail
    refine (polyAt_any _ _ _ qs _ _ P nP).mono ?_
    rintro e v3 ⟨rfl, b3⟩
    replace A := A.below b3
    replace B := B.below b3
    replace hc := hc.below b3
    replace P := P.below b3
    replace cum := below2 cum b3
    clear b3
    go_wp2_with fail
    refine (sPolyAt_any _ _ _ qs _ _ P nP).mono ?_
    rintro e v4 ⟨rfl, b4⟩
    replace A := A.below b4
    replace B := B.below b4
    replace hc := hc.below b4
    replace P := P.below b4
    replace cum := below2 cum b4
    clear b4
    go_wp2_with fail
    refine (text_any _ _ _ qs _ P nP (KT.out.below cum)).mono ?_
    rintro e v5 ⟨rfl, b5⟩
    replace A := A.below b5
    replace B := B.below b5
    replace hc := hc.below b5
    replace P := P.below b5
    replace cum := below2 cum b5
    clear b5
    go_wp2_with fail
    refine (sText_any _ _ _ qs _ P nP).mono ?_
    rintro e w' ⟨rfl, hw⟩
    obtain rfl := hw.symm
    clear hw
    clear P hA1
    go_wp2_with fail
    refine (drawPTrim_any _ _ _ _ hc).mono ?_
    rintro e v6 ⟨gt, ct, nt, ts, rfl, hnt, hct, T, b6⟩
    replace A := A.below b6
    replace B := B.below b6
    replace hc := hc.below b6
    replace cum := below2 cum b6
    clear b6
    have nT : nt ≤ 1048576 := by omega
    have hTl : (trimI ts).length ≤ 1048576 := by rw [trimI_len, T.1]; exact Nat.le_trans (Gp.tl_le _ _) nT
    go_wp2_with fail
    refine (trim_any _ _ _ ts _ T hct nT).mono ?_
    rintro e v7 ⟨t1, rfl, ot, b7⟩
    obtain ⟨aT, cT, rfl, T1⟩ := ot.look
    clear ot
    replace A := A.below b7
    replace B := B.below b7
    replace hc := hc.below b7
    replace T := T.below b7
    replace cum := below2 cum b7
    clear b7
    go_wp2_with fail
    refine (sTrim_any _ _ _ ts _ T hct nT).mono ?_
    rintro e v8 ⟨t2, rfl, ot, b8⟩
    obtain ⟨aU, cU, rfl, T2⟩ := ot.look
    clear ot
    replace A := A.below b8
    replace B := B.below b8
    replace hc := hc.below b8
    replace T := T.below b8
    replace T1 := T1.below b8
    replace cum := below2 cum b8
    clear b8
    go_wp2_with fail
    refine (same_any _ _ _ _ _ (trimI ts) _ T1 T2 hTl).mono ?_
    rintro e v9 ⟨rfl, b9⟩
    replace A := A.below b9
    replace B := B.below b9
    replace hc := hc.below b9
    replace T := T.below b9
    replace T1 := T1.below b9
    replace T2 := T2.below b9
    replace cum := below2 cum b9
    clear b9
    clear T T1 T2 hc hTl
    have hM := fun a b n m ca cb w ha hb hn hm => polyMul_any a b n m ca cb xs ys w ha hb hn hm
    have hS := fun a b n m ca cb w ha hb hn hm => polyAdd_any a b n m ca cb xs ys w ha hb hn hm
    have h1 := fun h => val_mul (xs := xs) (ys := ys) h hx
    have h2 := fun h => val_add (xs := xs) (ys := ys) h hx
    obtain ⟨M, eM⟩ : ∃ L, (mulP xs ys).1 = L := ⟨_, rfl⟩
    obtain ⟨fm, eF⟩ : ∃ L, (mulP xs ys).2 = L := ⟨_, rfl⟩
    obtain ⟨S, eS⟩ : ∃ L, (addP xs ys).1 = L := ⟨_, rfl⟩
    obtain ⟨fa, eG⟩ : ∃ L, (addP xs ys).2 = L := ⟨_, rfl⟩
    simp only [eM, eF, eS, eG] at hM hS h1 h2 hMl hSl
    clear eM eF eS eG
    have KM : Hid _ := hM
    have KS : Hid _ := hS
    have K1 : Hid _ := h1
    have K2 : Hid _ := h2
    clear hM hS h1 h2
    go_wp2_with fail
    refine (KM.out _ _ _ _ _ _ _ A B nA nB).mono ?_
    rintro e v10 ⟨m1, rfl, om, b10⟩
    obtain ⟨aM, cM, rfl, Mv⟩ := om.look
    clear om
    replace A := A.below b10
    replace B := B.below b10
    replace cum := below2 cum b10
    clear b10
    go_wp2_with fail
    refine (KS.out _ _ _ _ _ _ _ A B nA nB).mono ?_
    rintro e v11 ⟨m2, rfl, om, b11⟩
    obtain ⟨aS, cS, rfl, Sv⟩ := om.look
    clear om
    replace A := A.below b11
    replace B := B.below b11
    replace Mv := Mv.below b11
    replace cum := below2 cum b11
    clear b11
    clear KM KS KT
    cases fm
    · clear K1 Mv
      cases fa
      · clear K2 A B Sv
        go_wp2
        go_ret
        exact ⟨rfl, cum⟩
      · obtain ⟨t1, t2⟩ := K2.out (by first | rfl | trivial)
        have t1b : (atP S (x : Int) == addI (atP xs (x : Int)) (atP ys (x : Int))) = true := by rw [t1]; simp
        clear t1 K2
        go_wp2_with fail
        refine (polyAt_any _ _ _ S _ _ Sv hSl).mono ?_
        rintro e v12 ⟨rfl, b12⟩
        replace A := A.below b12
        replace B := B.below b12
        replace Sv := Sv.below b12
        replace cum := below2 cum b12
        clear b12
        go_wp2_with fail
        refine (polyAt_any _ _ _ xs _ _ A nA).mono ?_
        rintro e v13 ⟨rfl, b13⟩
        replace A := A.below b13
        replace B := B.below b13
        replace Sv := Sv.below b13
        replace cum := below2 cum b13
        clear b13
        go_wp2_with fail
        refine (polyAt_any _ _ _ ys _ _ B nB).mono ?_
        rintro e v14 ⟨rfl, b14⟩
        replace A := A.below b14
        replace B := B.below b14
        replace Sv := Sv.below b14
        replace cum := below2 cum b14
        clear b14
        go_wp2_with fail
        refine (add_any _ _ _).mono ?_
        rintro e w' ⟨rfl, hw⟩
        obtain rfl := hw.symm
        clear hw
        have hO := ok_any _ _ cS S _ Sv hSl
        rw [t2] at hO
        have KO : Hid _ := hO
        clear hO A B Sv
        go_wp2_with fail
        refine Calls.mono KO.out ?_
        rintro e v15 ⟨rfl, b15⟩
        replace cum := below2 cum b15
        clear b15 KO
        go_wp2
        go_ret
        exact ⟨rfl, cum⟩
    · have t0 := K1.out (by first | rfl | trivial)
      have t0b : (atP M (x : Int) != mulI (atP xs (x : Int)) (atP ys (x : Int))) = false := by rw [t0]; simp
      clear t0 K1
      go_wp2_with fail
      refine (polyAt_any _ _ _ M _ _ Mv hMl).mono ?_
      rintro e v32 ⟨rfl, b32⟩
      replace A := A.below b32
      replace B := B.below b32
      replace Sv := Sv.below b32
      replace Mv := Mv.below b32
      replace cum := below2 cum b32
      clear b32
      go_wp2_with fail
      refine (polyAt_any _ _ _ xs _ _ A nA).mono ?_
      rintro e v33 ⟨rfl, b33⟩
      replace A := A.below b33
      replace B := B.below b33
      replace Sv := Sv.below b33
      replace Mv := Mv.below b33
      replace cum := below2 cum b33
      clear b33
      go_wp2_with fail
      refine (polyAt_any _ _ _ ys _ _ B nB).mono ?_
      rintro e v34 ⟨rfl, b34⟩
      replace A := A.below b34
      replace B := B.below b34
      replace Sv := Sv.below b34
      replace Mv := Mv.below b34
      replace cum := below2 cum b34
      clear b34
      go_wp2_with fail
      refine (mul_any _ _ _).mono ?_
      rintro e v35 ⟨rfl, b35⟩
      replace A := A.below b35
      replace B := B.below b35
      replace Sv := Sv.below b35
      replace Mv := Mv.below b35
      replace cum := below2 cum b35
      clear b35
      clear Mv
      cases fa
      · clear K2 A B Sv
        go_wp2
        go_ret
        exact ⟨rfl, cum⟩
      · obtain ⟨t1, t2⟩ := K2.out (by first | rfl | trivial)
        have t1b : (atP S (x : Int) == addI (atP xs (x : Int)) (atP ys (x : Int))) = true := by rw [t1]; simp
        clear t1 K2
        go_wp2_with fail
        refine (polyAt_any _ _ _ S _ _ Sv hSl).mono ?_
        rintro e v36 ⟨rfl, b36⟩
        replace A := A.below b36
        replace B := B.below b36
        replace Sv := Sv.below b36
        replace cum := below2 cum b36
        clear b36
        go_wp2_with fail
        refine (polyAt_any _ _ _ xs _ _ A nA).mono ?_
        rintro e v37 ⟨rfl, b37⟩
        replace A := A.below b37
        replace B := B.below b37
        replace Sv := Sv.below b37
        replace cum := below2 cum b37
        clear b37
        go_wp2_with fail
        refine (polyAt_any _ _ _ ys _ _ B nB).mono ?_
        rintro e v38 ⟨rfl, b38⟩
        replace A := A.below b38
        replace B := B.below b38
        replace Sv := Sv.below b38
        replace cum := below2 cum b38
        clear b38
        go_wp2_with fail
        refine (add_any _ _ _).mono ?_
        rintro e w' ⟨rfl, hw⟩
        obtain rfl := hw.symm
        clear hw
        have hO := ok_any _ _ cS S _ Sv hSl
        rw [t2] at hO
        have KO : Hid _ := hO
        clear hO A B Sv
        go_wp2_with fail
        refine Calls.mono KO.out ?_
        rintro e v39 ⟨rfl, b39⟩
        replace cum := below2 cum b39
        clear b39 KO
        go_wp2
        go_ret
        exact ⟨rfl, cum⟩
end Go.Proofs.YtdnddimkgddooaaDoor
namespace Go.Proofs.YtdnddimkgddooaaDoor.fnValues
open Go.ChangeShapes Go.WideShapes Go.ChangeAt Go.RowKit
open Go.ChangeMaps (open_string shut_string)
set_option linter.unusedVariables false
theorem own : ownKnob Tryd.prog.godebug = none := by kernel_rfl
theorem laidOut : laidOutB Tryd.prog = true := by kernel_rfl
set_option maxRecDepth 100000 in
theorem lifted (os : Os) (started : os.Started) (H : Type) (enc : TypeId × Value → H) :
    ReturnsInHanded {} Tryd.checked os 3 .any (fun w args => (Rows.fnValuesSpec.pre enc Tryd.prog Tryd.f3 [] false w args ∧ laidMetH Tryd.prog laid3 w) ∧ sizedMet enc Tryd.prog Tryd.f3 (OpenSpec.ofChange Rows.fnValuesSpec) false w args)
      (Rows.fnValuesSpec.post enc Tryd.prog Tryd.f3 false true false false) := by
  refine returnsInHanded_of_change_and (C := Tryd.checked) (X := fun w _ => laidMetH Tryd.prog laid3 w) (fun _ _ _ hh h => h.of_heap hh) own started (by kernel_rfl) Tryd.func3
    (ChangeSpec.witness_shaped (enc := enc) (C := Tryd.checked) (os := os) (X := fun w _ => laidMetH Tryd.prog laid3 w) false (World.doorLaid Tryd.prog 4000 os) #[.slice none 0 0] 8 rfl (World.shaped_of_RefB (by kernel_rfl) (by kernel_rfl)) (by kernel_rfl) (by kernel_rfl) (by kernel_rfl) (door_met os _)) ?_
  intro W base args ds gs before hval0 hW _ _ hL _
  have hval : ∀ (j : Nat) t v, Tryd.f3.params[j]? = some t → args[j]? = some v → Value.okWide Tryd.prog W .any base t v := hval0
  have hW' := hW
  obtain ⟨p, q, hA0, hV, rfl, hfz, hnd⟩ := hW
  have hA : DataW.TrodAll enc Tryd.prog W 0 (fun _ => true) true Tryd.f3.params.toList args.toList ds p := hA0
  rw [Tryd.params3] at hA hval
  obtain ⟨v0, vs0, d0, ds0, p0, q0, hargs, rfl, rfl, h0, r0⟩ := trodAll_cons hA
  obtain ⟨rfl, rfl, rfl⟩ := trodAll_nil r0
  obtain rfl : args = #[v0] := by cases args; simp_all
  obtain ⟨rfl, rfl⟩ := trodVars_none hV
  obtain ⟨a0, len0, cap0, rfl⟩ := okWide_slice Tryd.underlying22 (hval 0 22 v0 rfl rfl)
  have k0 := h0
  have lt0 : ∀ x ∈ p0, x.block < W.heap.size := by obtain ⟨m, hm⟩ := k0; exact DataW.trod_lt m _ _ _ hm
  obtain ⟨z0, w0⟩ : ∃ zs, IsRow .u8 W a0 len0 cap0 zs := by
    obtain ⟨fuel, hf⟩ := h0
    rcases open_ints Tryd.underlying22 Tryd.underlying5 (by kernel_rfl) hf with ⟨hcs, _⟩ | ⟨x, l, c, zs, hcs, _, hl, hm, hz, _, hcell, hwz⟩
    · simp [Value.cells] at hcs
      obtain ⟨rfl, rfl, rfl⟩ := hcs
      exact ⟨[], .inl ⟨rfl, rfl, rfl, rfl⟩⟩
    · simp [Value.cells] at hcs
      obtain ⟨rfl, rfl, rfl⟩ := hcs
      exact ⟨zs, .inr ⟨_, rfl, hl, hm, by simpa using hz, hcell, hwz⟩⟩
  clear hA0 hval0
  refine (walk_FnValues a0 len0 cap0 z0 W w0 (tab_of_laid hL)).mono fun e W' ⟨he, bel⟩ => ?_
  subst he
  exact ⟨_, rfl, _, _, _, [], _, [], hW', trodAll_mk1 (shut_bool Tryd.underlying4 _), (trodAll_cons_mk (Below.trod laidOut (by kernel_rfl) (of_decide_eq_true (by kernel_rfl)) k0 bel lt0) trodAll_mk0), rfl, bel.frame _, fun h => by cases h⟩
theorem over : Rows.fnValuesRow.holds Tryd.pinned (OpenSpec.ofChange Rows.fnValuesSpec) :=
  OpenClaim.holds_of_wide 3 Tryd.f3 rfl rfl rfl rfl rfl rfl rfl ⟨rfl, rfl, rfl, rfl, rfl⟩ rfl rfl rfl rfl rfl (by kernel_rfl) Tryd.func3 (by kernel_rfl)
    (of_decide_eq_true (by kernel_rfl)) (by unfold Func.isWrapper; first | (rw [if_pos (by decide +kernel)]; kernel_rfl) | (rw [if_neg (by decide +kernel)]; exact ⟨rfl, rfl⟩))
    (fun os started H enc _ => lifted os started H enc)
theorem said : Rows.FnValuesSaid := over
theorem proved : Rows.FnValuesCardSaid :=
  Claim7.holds_tied_plain_at .later [] [.data, .data, .data] true (true, Rows.fnValuesCard.stood.harness.2) false
    said (fun _ h => by cases h) (by kernel_rfl) (fun _ h => by cases h) fnValues_row_tie rfl ⟨rfl, rfl⟩ (by kernel_rfl) rfl
    (fun f fn hf hfn => by
      obtain rfl : f = 3 := Option.some.inj ((show Tryd.prog.funcNamed Rows.fnValuesRow.func = some 3 by kernel_rfl).symm.trans hf) |>.symm
      obtain rfl : fn = Tryd.f3 := (Option.some.inj (Tryd.func3.symm.trans hfn)).symm
      exact ⟨by kernel_rfl, fun j t ht => by
        rw [Tryd.params3] at ht
        have hm : t ∈ [22] := by simpa using Array.mem_of_getElem? ht
        have hall : ([22].all fun u => !Tryd.prog.wantsStandIn u) = true := by kernel_rfl
        exact (show Tryd.prog.wantsStandIn t = false by simpa using List.all_eq_true.1 hall t hm)⟩)
    (by kernel_rfl)
#print axioms proved
end Go.Proofs.YtdnddimkgddooaaDoor.fnValues
