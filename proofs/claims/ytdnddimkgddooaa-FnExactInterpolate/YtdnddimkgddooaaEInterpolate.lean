/- For every input: the function Interpolate of the program answers as its model does, whatever its lists are, leaves them as they were, and its answer owns its memory. No condition. -/
import Derived.Test.YtdnddimkgddooaaPInterT
import Derived.Test.YtdnddimkgddooaaMarks
namespace Go.Proofs.Ytdnddimkgddooaa
open Go.ChangeShapes Go.WideShapes Go.ChangeAt Go.RowKit
set_option maxRecDepth 100000 in
set_option maxHeartbeats 4000000 in
theorem walk_FnExactInterpolate (a0 : Option Addr) (len0 cap0 : Nat) (z0 : List Int) (a1 : Option Addr) (len1 cap1 : Nat) (z1 : List Int) (w : World) (w0 : IsRow .i64 w a0 len0 cap0 z0) (w1 : IsRow .i64 w a1 len1 cap1 z1) :
    Calls Try.prog 11 #[.slice a0 len0 cap0, .slice a1 len1 cap1] w fun e w' => e = .returned (.bool true) ∧ Below w.heap.size w w' := by
  obtain ⟨_, hA0, _⟩ := w0.ints
  obtain ⟨_, hA1, _⟩ := w1.ints
  clear w0 w1
  by_cases h0 : 1048576 < len0
  · have h0' : (1048576 : Int) < (len0 : Int) := by omega
    go_enter Try.func11, Try.ntmps11
    go_wp2
    go_ret
    exact ⟨rfl, Below.refl _ _⟩
  · have h0' : ¬ (1048576 : Int) < (len0 : Int) := by omega
    by_cases h1 : 1048576 < len1
    · have h1' : (1048576 : Int) < (len1 : Int) := by omega
      go_enter Try.func11, Try.ntmps11
      go_wp2
      go_ret
      exact ⟨rfl, Below.refl _ _⟩
    · have h1' : ¬ (1048576 : Int) < (len1 : Int) := by omega
      have n0 : len0 ≤ 1048576 := by omega
      generalize z0.take len0 = xs at hA0
      have A0 := hA0.arg
      have HL0 : Hid (xs.length = len0) := hA0.1
      have n1 : len1 ≤ 1048576 := by omega
      generalize z1.take len1 = ys at hA1
      have A1 := hA1.arg
      have HL1 : Hid (ys.length = len1) := hA1.1
      clear hA0 hA1
      have hl_L : (interP xs ys).1.length ≤ 1048576 := interP_len _ _
      obtain ⟨L, HL⟩ : ∃ L, (interP xs ys).1 = L := ⟨_, rfl⟩
      obtain ⟨fl, HB⟩ : ∃ b, (interP xs ys).2 = b := ⟨_, rfl⟩
      rw [HL] at hl_L
      have hS := fun a b n m ca cb w ha hb hn hm => sInter_any a b n m ca cb xs ys w ha hb hn hm
      have hF := fun a b n m ca cb w ha hb hn hm => inter_any a b n m ca cb xs ys w ha hb hn hm
      simp only [HL, HB] at hS hF
      have HS : Hid _ := hS
      have HF : Hid _ := hF
      clear hS hF HL HB
      have hfl : (fl != fl) = false := by simp
      go_enter Try.func11, Try.ntmps11
      go_wp2_with fail
      refine (toIntS_any _ len0 cap0 xs _ A0.1 n0).mono ?_
      rintro e v1 ⟨rfl, o1, b1⟩
      have P0 := row_toIntS HL0.out o1
      have s1 := b1.size
      have t1 := (World.ownsRow.lt o1 _ rfl).2
      clear o1
      replace A0 := A0.below b1
      replace A1 := A1.below b1
      have cum := b1
      clear b1
      go_wp2_with fail
      refine (toIntS_any _ len1 cap1 ys _ A1.1 n1).mono ?_
      rintro e v2 ⟨rfl, o2, b2⟩
      have P1 := row_toIntS HL1.out o2
      have s2 := b2.size
      have t2 := (World.ownsRow.lt o2 _ rfl).2
      clear o2
      replace A0 := A0.below b2
      replace A1 := A1.below b2
      replace P0 := P0.below b2
      replace cum := below2 cum b2
      clear b2
      go_wp2_with fail
      refine (HS.out _ _ _ _ _ _ _ P0.ints P1.ints n0 n1).mono ?_
      rintro e v3 ⟨u3L, rfl, o3L, b3⟩
      obtain ⟨aWL, cWL, rfl, WL⟩ := o3L.row'
      have s3 := b3.size
      clear o3L
      replace A0 := A0.below b3
      replace A1 := A1.below b3
      replace P0 := P0.below b3
      replace P1 := P1.below b3
      replace cum := below2 cum b3
      clear b3
      clear P0 P1
      go_wp2_with fail
      refine (toIntS_any _ len0 cap0 xs _ A0.1 n0).mono ?_
      rintro e v4 ⟨rfl, o4, b4⟩
      have X0 := row_toIntS HL0.out o4
      have s4 := b4.size
      have t4 := (World.ownsRow.lt o4 _ rfl).2
      clear o4
      replace A0 := A0.below b4
      replace A1 := A1.below b4
      replace WL := WL.below b4
      replace cum := below2 cum b4
      clear b4
      go_wp2_with fail
      refine (toIntS_any _ len1 cap1 ys _ A1.1 n1).mono ?_
      rintro e v5 ⟨rfl, o5, b5⟩
      have X1 := row_toIntS HL1.out o5
      have s5 := b5.size
      have t5 := (World.ownsRow.lt o5 _ rfl).2
      clear o5
      replace A0 := A0.below b5
      replace A1 := A1.below b5
      replace WL := WL.below b5
      replace X0 := X0.below b5
      replace cum := below2 cum b5
      clear b5
      go_wp2_with fail
      refine (HF.out _ _ _ _ _ _ _ X0.ints X1.ints n0 n1).mono ?_
      rintro e v6 ⟨u6L, rfl, o6L, b6⟩
      obtain ⟨aGL, cGL, rfl, GL⟩ := o6L.row'
      have s6 := b6.size
      clear o6L
      replace A0 := A0.below b6
      replace A1 := A1.below b6
      replace WL := WL.below b6
      replace X0 := X0.below b6
      replace X1 := X1.below b6
      replace cum := below2 cum b6
      clear b6
      go_wp2_with fail
      refine (eqIntS_same _ _ _ _ _ L _ GL.ints WL.ints hl_L).mono ?_
      rintro e v7 ⟨rfl, b7⟩
      have s7 := b7.size
      replace A0 := A0.below b7
      replace A1 := A1.below b7
      replace WL := WL.below b7
      replace X0 := X0.below b7
      replace X1 := X1.below b7
      replace GL := GL.below b7
      replace cum := below2 cum b7
      clear b7
      go_wp2_with fail
      refine (toIntS_any _ len0 cap0 xs _ A0.1 n0).mono ?_
      rintro e v8 ⟨rfl, o8, b8⟩
      have P0 := row_toIntS HL0.out o8
      have s8 := b8.size
      have t8 := (World.ownsRow.lt o8 _ rfl).2
      clear o8
      replace A0 := A0.below b8
      replace A1 := A1.below b8
      replace WL := WL.below b8
      replace X0 := X0.below b8
      replace X1 := X1.below b8
      replace GL := GL.below b8
      replace cum := below2 cum b8
      clear b8
      go_wp2_with fail
      refine (eqIntS_same _ _ _ _ _ xs _ X0.ints P0.ints n0).mono ?_
      rintro e v9 ⟨rfl, b9⟩
      have s9 := b9.size
      replace A0 := A0.below b9
      replace A1 := A1.below b9
      replace WL := WL.below b9
      replace X0 := X0.below b9
      replace X1 := X1.below b9
      replace GL := GL.below b9
      replace P0 := P0.below b9
      replace cum := below2 cum b9
      clear b9
      clear P0
      go_wp2_with fail
      refine (toIntS_any _ len1 cap1 ys _ A1.1 n1).mono ?_
      rintro e v10 ⟨rfl, o10, b10⟩
      have P1 := row_toIntS HL1.out o10
      have s10 := b10.size
      have t10 := (World.ownsRow.lt o10 _ rfl).2
      clear o10
      replace A0 := A0.below b10
      replace A1 := A1.below b10
      replace WL := WL.below b10
      replace X0 := X0.below b10
      replace X1 := X1.below b10
      replace GL := GL.below b10
      replace cum := below2 cum b10
      clear b10
      go_wp2_with fail
      refine (eqIntS_same _ _ _ _ _ ys _ X1.ints P1.ints n1).mono ?_
      rintro e v11 ⟨rfl, b11⟩
      have s11 := b11.size
      replace A0 := A0.below b11
      replace A1 := A1.below b11
      replace WL := WL.below b11
      replace X0 := X0.below b11
      replace X1 := X1.below b11
      replace GL := GL.below b11
      replace P1 := P1.below b11
      replace cum := below2 cum b11
      clear b11
      clear P1
      obtain ⟨kx0, hkx0⟩ : ∃ q, 1 + len0 = q := ⟨_, rfl⟩
      go_wp2_with fail
      refine (mark_q _ _ _ _ _ 1 kx0 _ _ X0 (by omega) (by omega) (by omega)).mono ?_
      rintro e v12 ⟨rfl, M12, T12⟩
      have s12 := T12.size
      replace A0 := A0.turned T12 (by omega)
      replace A1 := A1.turned T12 (by omega)
      replace WL := WL.turned T12 (by omega)
      replace X1 := X1.turned T12 (by omega)
      replace GL := GL.turned T12 (by omega)
      replace cum := cum.trans (T12.below (by omega) cum.size)
      clear T12 X0
      have X0 := M12
      clear M12
      obtain ⟨kx1, hkx1⟩ : ∃ q, kx0 + len1 = q := ⟨_, rfl⟩
      go_wp2_with fail
      refine (mark_q _ _ _ _ _ kx0 kx1 _ _ X1 (by omega) (by omega) (by omega)).mono ?_
      rintro e v13 ⟨rfl, M13, T13⟩
      have s13 := T13.size
      replace A0 := A0.turned T13 (by omega)
      replace A1 := A1.turned T13 (by omega)
      replace WL := WL.turned T13 (by omega)
      replace X0 := X0.turned T13 (by omega)
      replace GL := GL.turned T13 (by omega)
      replace cum := cum.trans (T13.below (by omega) cum.size)
      clear T13 X1
      have X1 := M13
      clear M13
      clear X0 X1
      go_wp2_with fail
      refine (eqIntS_same _ _ _ _ _ L _ GL.ints WL.ints hl_L).mono ?_
      rintro e v14 ⟨rfl, b14⟩
      have s14 := b14.size
      replace A0 := A0.below b14
      replace A1 := A1.below b14
      replace WL := WL.below b14
      replace GL := GL.below b14
      replace cum := below2 cum b14
      clear b14
      obtain ⟨kgL, hkgL⟩ : ∃ q, 1 + L.length = q := ⟨_, rfl⟩
      go_wp2_with fail
      refine (mark_q _ _ _ _ _ 1 kgL _ _ GL (by omega) (by omega) (by omega)).mono ?_
      rintro e v15 ⟨rfl, M15, T15⟩
      have s15 := T15.size
      replace A0 := A0.turned T15 (by omega)
      replace A1 := A1.turned T15 (by omega)
      replace WL := WL.turned T15 (by omega)
      replace cum := cum.trans (T15.below (by omega) cum.size)
      clear T15 GL
      have GL := M15
      clear M15
      go_wp2_with fail
      refine (held_q _ _ _ 1 kgL _ GL.ints hl_L (by omega) hkgL).mono ?_
      rintro e w' ⟨rfl, hw⟩
      obtain rfl := hw.symm
      clear hw
      go_wp2_with fail
      refine (toIntS_any _ len0 cap0 xs _ A0.1 n0).mono ?_
      rintro e v16 ⟨rfl, o16, b16⟩
      have P0 := row_toIntS HL0.out o16
      have s16 := b16.size
      have t16 := (World.ownsRow.lt o16 _ rfl).2
      clear o16
      replace A0 := A0.below b16
      replace A1 := A1.below b16
      replace WL := WL.below b16
      replace GL := GL.below b16
      replace cum := below2 cum b16
      clear b16
      go_wp2_with fail
      refine (toIntS_any _ len1 cap1 ys _ A1.1 n1).mono ?_
      rintro e v17 ⟨rfl, o17, b17⟩
      have P1 := row_toIntS HL1.out o17
      have s17 := b17.size
      have t17 := (World.ownsRow.lt o17 _ rfl).2
      clear o17
      replace A0 := A0.below b17
      replace A1 := A1.below b17
      replace WL := WL.below b17
      replace GL := GL.below b17
      replace P0 := P0.below b17
      replace cum := below2 cum b17
      clear b17
      go_wp2_with fail
      refine (HF.out _ _ _ _ _ _ _ P0.ints P1.ints n0 n1).mono ?_
      rintro e v18 ⟨u18L, rfl, o18L, b18⟩
      obtain ⟨aHL, cHL, rfl, HL⟩ := o18L.row'
      have s18 := b18.size
      clear o18L
      replace A0 := A0.below b18
      replace A1 := A1.below b18
      replace WL := WL.below b18
      replace GL := GL.below b18
      replace P0 := P0.below b18
      replace P1 := P1.below b18
      replace cum := below2 cum b18
      clear b18
      clear P0 P1
      go_wp2_with fail
      refine (eqIntS_same _ _ _ _ _ L _ HL.ints WL.ints hl_L).mono ?_
      rintro e v19 ⟨rfl, b19⟩
      have s19 := b19.size
      replace A0 := A0.below b19
      replace A1 := A1.below b19
      replace WL := WL.below b19
      replace GL := GL.below b19
      replace HL := HL.below b19
      replace cum := below2 cum b19
      clear b19
      clear HL
      go_wp2_with fail
      refine (held_q _ _ _ 1 kgL _ GL.ints hl_L (by omega) hkgL).mono ?_
      rintro e w' ⟨rfl, hw⟩
      obtain rfl := hw.symm
      clear hw
      go_wp2
      go_ret
      exact ⟨rfl, cum⟩
end Go.Proofs.Ytdnddimkgddooaa
namespace Go.Proofs.Ytdnddimkgddooaa.fnExactInterpolate
open Go.ChangeShapes Go.WideShapes Go.ChangeAt Go.RowKit
open Go.ChangeMaps (open_string shut_string)
set_option linter.unusedVariables false
theorem own : ownKnob Try.prog.godebug = none := by kernel_rfl
theorem laidOut : laidOutB Try.prog = true := by kernel_rfl
set_option maxRecDepth 100000 in
theorem lifted (os : Os) (started : os.Started) (H : Type) (enc : TypeId × Value → H) :
    ReturnsInHanded {} Try.checked os 11 .any (Rows.fnExactInterpolateSpec.pre6 enc Try.prog Try.f11 Rows.fnExactInterpolateRow.domain false) (Rows.fnExactInterpolateSpec.post enc Try.prog Try.f11 false true false false) := by
  refine returnsInHanded_of_change (C := Try.checked) own started (by kernel_rfl) Try.func11
    (ChangeSpec.witness6 (enc := enc) (C := Try.checked) false ⟨#[], #[.slice none 0 0, .slice none 0 0], []⟩ 8 (by kernel_rfl) (by kernel_rfl) (by kernel_rfl) (by kernel_rfl)) ?_
  intro W base args ds gs before hval0 hW hcnd _
  have hval : ∀ (j : Nat) t v, Try.f11.params[j]? = some t → args[j]? = some v → Value.okWide Try.prog W .any base t v := hval0
  have hW' := hW
  obtain ⟨p, q, hA0, hV, rfl, hfz, hnd⟩ := hW
  have hA : DataW.TrodAll enc Try.prog W 0 (fun _ => true) true Try.f11.params.toList args.toList ds p := hA0
  rw [Try.params11] at hA hval
  obtain ⟨v0, vs0, d0, ds0, p0, q0, hargs, rfl, rfl, h0, r0⟩ := trodAll_cons hA
  obtain ⟨v1, vs1, d1, ds1, p1, q1, rfl, rfl, rfl, h1, r1⟩ := trodAll_cons r0
  obtain ⟨rfl, rfl, rfl⟩ := trodAll_nil r1
  obtain rfl : args = #[v0, v1] := by cases args; simp_all
  obtain ⟨rfl, rfl⟩ := trodVars_none hV
  obtain ⟨a0, len0, cap0, rfl⟩ := okWide_slice Try.underlying24 (hval 0 24 v0 rfl rfl)
  have k0 := h0
  have lt0 : ∀ x ∈ p0, x.block < W.heap.size := by obtain ⟨m, hm⟩ := k0; exact DataW.trod_lt m _ _ _ hm
  obtain ⟨z0, w0⟩ : ∃ zs, IsRow .i64 W a0 len0 cap0 zs := by
    obtain ⟨fuel, hf⟩ := h0
    rcases open_ints Try.underlying24 Try.underlying3 (by kernel_rfl) hf with ⟨hcs, _⟩ | ⟨x, l, c, zs, hcs, _, hl, hm, hz, _, hcell, hwz⟩
    · simp [Value.cells] at hcs
      obtain ⟨rfl, rfl, rfl⟩ := hcs
      exact ⟨[], .inl ⟨rfl, rfl, rfl, rfl⟩⟩
    · simp [Value.cells] at hcs
      obtain ⟨rfl, rfl, rfl⟩ := hcs
      exact ⟨zs, .inr ⟨_, rfl, hl, hm, by simpa using hz, hcell, hwz⟩⟩
  obtain ⟨a1, len1, cap1, rfl⟩ := okWide_slice Try.underlying24 (hval 1 24 v1 rfl rfl)
  have k1 := h1
  have lt1 : ∀ x ∈ p1, x.block < W.heap.size := by obtain ⟨m, hm⟩ := k1; exact DataW.trod_lt m _ _ _ hm
  obtain ⟨z1, w1⟩ : ∃ zs, IsRow .i64 W a1 len1 cap1 zs := by
    obtain ⟨fuel, hf⟩ := h1
    rcases open_ints Try.underlying24 Try.underlying3 (by kernel_rfl) hf with ⟨hcs, _⟩ | ⟨x, l, c, zs, hcs, _, hl, hm, hz, _, hcell, hwz⟩
    · simp [Value.cells] at hcs
      obtain ⟨rfl, rfl, rfl⟩ := hcs
      exact ⟨[], .inl ⟨rfl, rfl, rfl, rfl⟩⟩
    · simp [Value.cells] at hcs
      obtain ⟨rfl, rfl, rfl⟩ := hcs
      exact ⟨zs, .inr ⟨_, rfl, hl, hm, by simpa using hz, hcell, hwz⟩⟩
  clear hA0 hval0
  refine (walk_FnExactInterpolate a0 len0 cap0 z0 a1 len1 cap1 z1 W w0 w1).mono fun e W' ⟨he, bel⟩ => ?_
  subst he
  exact ⟨_, rfl, _, _, _, [], _, [], hW', trodAll_mk1 (shut_bool Try.underlying4 _), (trodAll_cons_mk (Below.trod laidOut (by kernel_rfl) (of_decide_eq_true (by kernel_rfl)) k0 bel lt0) (trodAll_cons_mk (Below.trod laidOut (by kernel_rfl) (of_decide_eq_true (by kernel_rfl)) k1 bel lt1) trodAll_mk0)), rfl, bel.frame _, fun h => by cases h⟩
theorem over : Rows.fnExactInterpolateRow.holds Try.pinned (OpenSpec.ofChange Rows.fnExactInterpolateSpec) :=
  OpenClaim.holds_of_wide 11 Try.f11 rfl rfl rfl rfl rfl rfl rfl ⟨rfl, rfl, rfl, rfl, rfl⟩ rfl rfl rfl rfl rfl (by kernel_rfl) Try.func11 (by kernel_rfl)
    (of_decide_eq_true (by kernel_rfl)) (by unfold Func.isWrapper; first | (rw [if_pos (by decide +kernel)]; kernel_rfl) | (rw [if_neg (by decide +kernel)]; exact ⟨rfl, rfl⟩))
    (fun os started H enc _ => lifted os started H enc)
theorem proved : Rows.FnExactInterpolateSaid := over
#print axioms proved
end Go.Proofs.Ytdnddimkgddooaa.fnExactInterpolate
