/- For every input: what is divided is the quotient times what it was divided by, and a rest that is shorter; a product divided by one of its two gives the other; the program's answers are the model's. No condition. -/
import Derived.Test.YtdnddimkgddooaaDrawP
import Derived.Test.YtdnddimkgddooaaPMath
import Derived.Test.YtdnddimkgddooaaPDivS
import Derived.Test.YtdnddimkgddooaaMarks
namespace Go.Proofs.Ytdnddimkgddooaa
open Go.ChangeShapes Go.WideShapes Go.ChangeAt Go.RowKit
theorem OwnI.seen {w : World} {B : Nat} {v : Value} {zs : List Int} (h : OwnI w B v zs) : ∃ a cap, v = .slice a zs.length cap ∧ IntsAt w a zs.length zs := by
  obtain ⟨a, cap, e, hi, _⟩ := h.view
  exact ⟨a, cap, e, hi⟩
set_option maxRecDepth 100000 in
set_option maxHeartbeats 8000000 in
theorem walk_FnDivided (a0 : Option Addr) (len0 cap0 : Nat) (z0 : List Int) (w : World) (w0 : IsRow .u8 w a0 len0 cap0 z0) :
    Calls Try.prog 3 #[.slice a0 len0 cap0] w fun e w' => e = .returned (.bool true) ∧ Below w.heap.size w w' := by
  by_cases h0 : 1048576 < len0
  · clear w0
    have h0' : (1048576 : Int) < (len0 : Int) := by omega
    go_enter Try.func3, Try.ntmps3
    go_wp2_with (go_at_call 12; refine (big_any _ _ _ _).mono ?_; rintro e w' ⟨rfl, rfl⟩)
    go_ret
    exact ⟨rfl, Below.refl _ _⟩
  · have hc := w0.code (by omega)
    clear w0
    have h0' : ¬ (1048576 : Int) < (len0 : Int) := by omega
    go_enter Try.func3, Try.ntmps3
    go_wp2_with fail
    refine (big_any _ _ _ _).mono ?_
    rintro e w' ⟨rfl, hw⟩
    obtain rfl := hw.symm
    clear hw
    go_wp2_with fail
    refine (drawDiv_any _ _ _ _ hc).mono ?_
    rintro e v1 ⟨ga, ca, n, gb, cb, m, xs, ys, rfl, hn, hm, A, B, cum⟩
    clear hc
    have hQl := (divP_len xs ys).1
    have hRl := (divP_len xs ys).2
    have hMl := mulP_len xs ys
    have HLa : Hid (xs.length = n) := A.1
    have HLb : Hid (ys.length = m) := B.1
    have HF := fun h => divP_false (xs := xs) (ys := ys) h
    have HT := fun h => divided (xs := xs) (ys := ys) h
    have HM2 := fun h1 h2 => mul_div (xs := xs) (ys := ys) h1 h2
    have hD := fun a b n m ca cb w ha hb hn hm => polyDiv_any a b n m ca cb xs ys w ha hb hn hm
    have hM := fun a b n m ca cb w ha hb hn hm => polyMul_any a b n m ca cb xs ys w ha hb hn hm
    have hSM := fun a b n m ca cb w ha hb hn hm => sPolyMul_any a b n m ca cb xs ys w ha hb hn hm
    have hSD := fun b1 off1 b n m ca cb w ha hb hn hm => sPolyDiv_any b1 off1 b n m ca cb xs ys w ha hb hn hm
    obtain ⟨Q, eQ⟩ : ∃ L, (divP xs ys).1 = L := ⟨_, rfl⟩
    obtain ⟨R, eR⟩ : ∃ L, (divP xs ys).2.1 = L := ⟨_, rfl⟩
    obtain ⟨fl, eF⟩ : ∃ L, (divP xs ys).2.2 = L := ⟨_, rfl⟩
    obtain ⟨M, eM⟩ : ∃ L, (mulP xs ys).1 = L := ⟨_, rfl⟩
    obtain ⟨fm, eG⟩ : ∃ L, (mulP xs ys).2 = L := ⟨_, rfl⟩
    simp only [eQ, eR, eF, eM, eG] at hD hM hSM hSD HF HT HM2 hQl hRl hMl
    clear eQ eR eF eM eG
    have KD : Hid _ := hD
    have KM : Hid _ := hM
    have KSM : Hid _ := hSM
    have KSD : Hid _ := hSD
    have KF : Hid _ := HF
    have KT : Hid _ := HT
    have KM2 : Hid _ := HM2
    have KAdd : Hid _ := fun (P : List Int) a b n m ca cb w ha hb hn hm => polyAdd_any a b n m ca cb P R w ha hb hn hm
    have KMul : Hid _ := fun a b n m ca cb w ha hb hn hm => polyMul_any a b n m ca cb Q ys w ha hb hn hm
    have KDiv2 : Hid _ := fun a b n m ca cb w ha hb hn hm => polyDiv_any a b n m ca cb M ys w ha hb hn hm
    have KMl : Hid _ := mulP_len Q ys
    clear hD hM hSM hSD HF HT HM2
    have nA : n ≤ 1048576 := by omega
    have nB : m ≤ 1048576 := by omega
    have ffl : (fl != fl) = false := by simp
    have ffm : (fm != fm) = false := by simp
    have fok : (okB xs != okB xs) = false := by simp
    go_wp2_with fail
    refine (KD.out _ _ _ _ _ _ _ A B nA nB).mono ?_
    rintro e v2 ⟨q1, r1, s1, rfl, oq, or1, _, _, b2⟩
    obtain ⟨aQv, cQv, rfl, Qv⟩ := oq.seen
    clear oq
    obtain ⟨aRv, cRv, rfl, Rv⟩ := or1.seen
    clear or1
    replace A := A.below b2
    replace B := B.below b2
    replace cum := below2 cum b2
    clear b2
    go_wp2_with fail
    refine (KSD.out _ _ _ _ _ _ _ _ A B nA nB).mono ?_
    rintro e v3 ⟨q2, r2, rfl, oq, or1, b3⟩
    obtain ⟨aXv, cXv, rfl, Xv⟩ := oq.seen
    clear oq
    obtain ⟨aYv, cYv, rfl, Yv⟩ := or1.seen
    clear or1
    replace A := A.below b3
    replace B := B.below b3
    replace Qv := Qv.below b3
    replace Rv := Rv.below b3
    replace cum := below2 cum b3
    clear b3
    go_wp2_with fail
    refine (KM.out _ _ _ _ _ _ _ A B nA nB).mono ?_
    rintro e v4 ⟨m1, rfl, om, b4⟩
    obtain ⟨aMv, cMv, rfl, Mv⟩ := om.seen
    clear om
    replace A := A.below b4
    replace B := B.below b4
    replace Qv := Qv.below b4
    replace Rv := Rv.below b4
    replace Xv := Xv.below b4
    replace Yv := Yv.below b4
    replace cum := below2 cum b4
    clear b4
    go_wp2_with fail
    refine (KSM.out _ _ _ _ _ _ _ A B nA nB).mono ?_
    rintro e v5 ⟨m2, rfl, om, b5⟩
    obtain ⟨aWv, cWv, rfl, Wv⟩ := om.seen
    clear om
    replace A := A.below b5
    replace B := B.below b5
    replace Qv := Qv.below b5
    replace Rv := Rv.below b5
    replace Xv := Xv.below b5
    replace Yv := Yv.below b5
    replace Mv := Mv.below b5
    replace cum := below2 cum b5
    clear b5
    go_wp2_with fail
    refine (same_any _ _ _ _ _ Q _ Qv Xv hQl).mono ?_
    rintro e v6 ⟨rfl, b6⟩
    replace A := A.below b6
    replace B := B.below b6
    replace Qv := Qv.below b6
    replace Rv := Rv.below b6
    replace Xv := Xv.below b6
    replace Yv := Yv.below b6
    replace Mv := Mv.below b6
    replace Wv := Wv.below b6
    replace cum := below2 cum b6
    clear b6
    clear Xv
    go_wp2_with fail
    refine (same_any _ _ _ _ _ R _ Rv Yv hRl).mono ?_
    rintro e v7 ⟨rfl, b7⟩
    replace A := A.below b7
    replace B := B.below b7
    replace Qv := Qv.below b7
    replace Rv := Rv.below b7
    replace Yv := Yv.below b7
    replace Mv := Mv.below b7
    replace Wv := Wv.below b7
    replace cum := below2 cum b7
    clear b7
    clear Yv
    go_wp2_with fail
    refine (same_any _ _ _ _ _ M _ Mv Wv hMl).mono ?_
    rintro e v8 ⟨rfl, b8⟩
    replace A := A.below b8
    replace B := B.below b8
    replace Qv := Qv.below b8
    replace Rv := Rv.below b8
    replace Mv := Mv.below b8
    replace Wv := Wv.below b8
    replace cum := below2 cum b8
    clear b8
    clear Wv
    go_wp2_with fail
    refine (ok_any _ _ _ xs _ A nA).mono ?_
    rintro e v9 ⟨rfl, b9⟩
    replace A := A.below b9
    replace B := B.below b9
    replace Qv := Qv.below b9
    replace Rv := Rv.below b9
    replace Mv := Mv.below b9
    replace cum := below2 cum b9
    clear b9
    go_wp2_with fail
    refine (sOk_any _ _ _ xs _ A nA).mono ?_
    rintro e w' ⟨rfl, hw⟩
    obtain rfl := hw.symm
    clear hw
    cases fl
    · obtain ⟨rfl, rfl⟩ := KF.out (by first | rfl | trivial)
      clear KF KT KM2 KAdd KMul KDiv2 KMl KD KM KSM KSD A B Qv Rv Mv HLa HLb
      go_wp2
      go_ret
      exact ⟨rfl, cum⟩
    · obtain ⟨t1, t2, t3⟩ := KT.out (by first | rfl | trivial)
      have hMul := KMul.out
      have hPl := KMl.out
      rw [HLb.out] at t3
      obtain ⟨P, eP⟩ : ∃ L, (mulP Q ys).1 = L := ⟨_, rfl⟩
      rw [eP] at t2 hPl
      simp only [eP, t1] at hMul
      have hAdd := KAdd.out P
      simp only [t2] at hAdd
      have JMul : Hid _ := hMul
      have JAdd : Hid _ := hAdd
      clear hMul hAdd eP t1 t2 KMul KAdd KMl KF KT KD KM KSM KSD
      go_wp2_with fail
      refine (JMul.out _ _ _ _ _ _ _ Qv B hQl nB).mono ?_
      rintro e v10 ⟨p1, rfl, op, b10⟩
      obtain ⟨aPv, cPv, rfl, Pv⟩ := op.seen
      clear op
      replace A := A.below b10
      replace B := B.below b10
      replace Qv := Qv.below b10
      replace Rv := Rv.below b10
      replace Mv := Mv.below b10
      replace cum := below2 cum b10
      clear b10
      go_wp2_with fail
      refine (JAdd.out _ _ _ _ _ _ _ Pv Rv hPl hRl).mono ?_
      rintro e v11 ⟨p2, rfl, op, b11⟩
      obtain ⟨aSv, cSv, rfl, Sv⟩ := op.seen
      clear op
      replace A := A.below b11
      replace B := B.below b11
      replace Qv := Qv.below b11
      replace Rv := Rv.below b11
      replace Mv := Mv.below b11
      replace Pv := Pv.below b11
      replace cum := below2 cum b11
      clear b11
      rw [HLa.out] at Sv
      simp only [HLa.out]
      go_wp2_with fail
      refine (same_any _ _ _ _ _ xs _ Sv A nA).mono ?_
      rintro e v12 ⟨rfl, b12⟩
      replace A := A.below b12
      replace B := B.below b12
      replace Qv := Qv.below b12
      replace Rv := Rv.below b12
      replace Mv := Mv.below b12
      replace Pv := Pv.below b12
      replace Sv := Sv.below b12
      replace cum := below2 cum b12
      clear b12
      have t3I : (R.length : Int) < (m : Int) := by omega
      cases fm
      · clear KM2 KDiv2 A B Qv Rv Mv Pv Sv HLa HLb JMul JAdd
        go_wp2
        go_ret
        exact ⟨rfl, cum⟩
      · have eD := KM2.out (by first | rfl | trivial) (by first | rfl | trivial)
        have hDiv := KDiv2.out
        simp only [eD] at hDiv
        have JDiv : Hid _ := hDiv
        clear hDiv eD KM2 KDiv2 JMul JAdd Qv Rv Pv Sv
        go_wp2_with fail
        refine (JDiv.out _ _ _ _ _ _ _ Mv B hMl nB).mono ?_
        rintro e v13 ⟨q3, r3, s3, rfl, oq, or1, _, _, b13⟩
        obtain ⟨aBv, cBv, rfl, Bv⟩ := oq.seen
        clear oq
        obtain ⟨aZv, cZv, rfl, Zv⟩ := or1.seen
        clear or1
        replace A := A.below b13
        replace B := B.below b13
        replace Mv := Mv.below b13
        replace cum := below2 cum b13
        clear b13
        rw [HLa.out] at Bv
        simp only [HLa.out, List.length_nil]
        go_wp2_with fail
        refine (same_any _ _ _ _ _ xs _ Bv A nA).mono ?_
        rintro e v14 ⟨rfl, b14⟩
        replace cum := below2 cum b14
        clear A B Mv Bv Zv HLa HLb JDiv b14
        go_wp2
        go_ret
        exact ⟨rfl, cum⟩
end Go.Proofs.Ytdnddimkgddooaa
namespace Go.Proofs.Ytdnddimkgddooaa.fnDivided
open Go.ChangeShapes Go.WideShapes Go.ChangeAt Go.RowKit
open Go.ChangeMaps (open_string shut_string)
set_option linter.unusedVariables false
theorem own : ownKnob Try.prog.godebug = none := by kernel_rfl
theorem laidOut : laidOutB Try.prog = true := by kernel_rfl
set_option maxRecDepth 100000 in
theorem lifted (os : Os) (started : os.Started) (H : Type) (enc : TypeId × Value → H) :
    ReturnsInHanded {} Try.checked os 3 .any (Rows.fnDividedSpec.pre6 enc Try.prog Try.f3 Rows.fnDividedRow.domain false) (Rows.fnDividedSpec.post enc Try.prog Try.f3 false true false false) := by
  refine returnsInHanded_of_change (C := Try.checked) own started (by kernel_rfl) Try.func3
    (ChangeSpec.witness6 (enc := enc) (C := Try.checked) false ⟨#[], #[.slice none 0 0], []⟩ 8 (by kernel_rfl) (by kernel_rfl) (by kernel_rfl) (by kernel_rfl)) ?_
  intro W base args ds gs before hval0 hW hcnd _
  have hval : ∀ (j : Nat) t v, Try.f3.params[j]? = some t → args[j]? = some v → Value.okWide Try.prog W .any base t v := hval0
  have hW' := hW
  obtain ⟨p, q, hA0, hV, rfl, hfz, hnd⟩ := hW
  have hA : DataW.TrodAll enc Try.prog W 0 (fun _ => true) true Try.f3.params.toList args.toList ds p := hA0
  rw [Try.params3] at hA hval
  obtain ⟨v0, vs0, d0, ds0, p0, q0, hargs, rfl, rfl, h0, r0⟩ := trodAll_cons hA
  obtain ⟨rfl, rfl, rfl⟩ := trodAll_nil r0
  obtain rfl : args = #[v0] := by cases args; simp_all
  obtain ⟨rfl, rfl⟩ := trodVars_none hV
  obtain ⟨a0, len0, cap0, rfl⟩ := okWide_slice Try.underlying22 (hval 0 22 v0 rfl rfl)
  have k0 := h0
  have lt0 : ∀ x ∈ p0, x.block < W.heap.size := by obtain ⟨m, hm⟩ := k0; exact DataW.trod_lt m _ _ _ hm
  obtain ⟨z0, w0⟩ : ∃ zs, IsRow .u8 W a0 len0 cap0 zs := by
    obtain ⟨fuel, hf⟩ := h0
    rcases open_ints Try.underlying22 Try.underlying5 (by kernel_rfl) hf with ⟨hcs, _⟩ | ⟨x, l, c, zs, hcs, _, hl, hm, hz, _, hcell, hwz⟩
    · simp [Value.cells] at hcs
      obtain ⟨rfl, rfl, rfl⟩ := hcs
      exact ⟨[], .inl ⟨rfl, rfl, rfl, rfl⟩⟩
    · simp [Value.cells] at hcs
      obtain ⟨rfl, rfl, rfl⟩ := hcs
      exact ⟨zs, .inr ⟨_, rfl, hl, hm, by simpa using hz, hcell, hwz⟩⟩
  clear hA0 hval0
  refine (walk_FnDivided a0 len0 cap0 z0 W w0).mono fun e W' ⟨he, bel⟩ => ?_
  subst he
  exact ⟨_, rfl, _, _, _, [], _, [], hW', trodAll_mk1 (shut_bool Try.underlying4 _), (trodAll_cons_mk (Below.trod laidOut (by kernel_rfl) (of_decide_eq_true (by kernel_rfl)) k0 bel lt0) trodAll_mk0), rfl, bel.frame _, fun h => by cases h⟩
theorem over : Rows.fnDividedRow.holds Try.pinned (OpenSpec.ofChange Rows.fnDividedSpec) :=
  OpenClaim.holds_of_wide 3 Try.f3 rfl rfl rfl rfl rfl rfl rfl ⟨rfl, rfl, rfl, rfl, rfl⟩ rfl rfl rfl rfl rfl (by kernel_rfl) Try.func3 (by kernel_rfl)
    (of_decide_eq_true (by kernel_rfl)) (by unfold Func.isWrapper; first | (rw [if_pos (by decide +kernel)]; kernel_rfl) | (rw [if_neg (by decide +kernel)]; exact ⟨rfl, rfl⟩))
    (fun os started H enc _ => lifted os started H enc)
theorem proved : Rows.FnDividedSaid := over
#print axioms proved
end Go.Proofs.Ytdnddimkgddooaa.fnDivided
