/- For every input: the function PolyDiv of the program answers as its model does, whatever its lists are, leaves them as they were, and its answer owns its memory. No condition. -/
import Derived.Test.YtdnddimkgddooaaPDivS
import Derived.Test.YtdnddimkgddooaaMarks
namespace Go.Proofs.Ytdnddimkgddooaa
open Go.ChangeShapes Go.WideShapes Go.ChangeAt Go.RowKit
set_option maxRecDepth 100000 in
set_option maxHeartbeats 4000000 in
theorem walk_FnExactPolyDiv (a0 : Option Addr) (len0 cap0 : Nat) (z0 : List Int) (a1 : Option Addr) (len1 cap1 : Nat) (z1 : List Int) (w : World) (w0 : IsRow .i64 w a0 len0 cap0 z0) (w1 : IsRow .i64 w a1 len1 cap1 z1) :
    Calls Try.prog 9 #[.slice a0 len0 cap0, .slice a1 len1 cap1] w fun e w' => e = .returned (.bool true) ∧ Below w.heap.size w w' := by
  obtain ⟨_, hA0, _⟩ := w0.ints
  obtain ⟨_, hA1, _⟩ := w1.ints
  clear w0 w1
  by_cases h0 : 1048576 < len0
  · have h0' : (1048576 : Int) < (len0 : Int) := by omega
    go_enter Try.func9, Try.ntmps9
    go_wp2
    go_ret
    exact ⟨rfl, Below.refl _ _⟩
  · have h0' : ¬ (1048576 : Int) < (len0 : Int) := by omega
    by_cases h1 : 1048576 < len1
    · have h1' : (1048576 : Int) < (len1 : Int) := by omega
      go_enter Try.func9, Try.ntmps9
      go_wp2
      go_ret
      exact ⟨rfl, Below.refl _ _⟩
    · have h1' : ¬ (1048576 : Int) < (len1 : Int) := by omega
      have n0 : len0 ≤ 1048576 := by omega
      generalize z0.take len0 = xs at hA0
      have A0 := hA0.arg
      have HL0 : Hid (xs.length = len0) := hA0.1
      have n1 : len1 ≤ 1048576 := by omega
      generalize z1.take len1 = ys at hA1
      have A1 := hA1.arg
      have HL1 : Hid (ys.length = len1) := hA1.1
      clear hA0 hA1
      have hl_L : (divP xs ys).1.length ≤ 1048576 := (divP_len _ _).1
      have hl_R : (divP xs ys).2.1.length ≤ 1048576 := (divP_len _ _).2
      obtain ⟨L, HL⟩ : ∃ L, (divP xs ys).1 = L := ⟨_, rfl⟩
      obtain ⟨R, HR⟩ : ∃ L, (divP xs ys).2.1 = L := ⟨_, rfl⟩
      obtain ⟨fl, HB⟩ : ∃ b, (divP xs ys).2.2 = b := ⟨_, rfl⟩
      rw [HL] at hl_L
      rw [HR] at hl_R
      have hS := fun b1 off1 b n m ca cb w ha hb hn hm => sPolyDiv_any b1 off1 b n m ca cb xs ys w ha hb hn hm
      have hF := fun a b n m ca cb w ha hb hn hm => polyDiv_any a b n m ca cb xs ys w ha hb hn hm
      simp only [HL, HR, HB] at hS hF
      have HS : Hid _ := hS
      have HF : Hid _ := hF
      clear hS hF HL HR HB
      have hfl : (fl != fl) = false := by simp
      go_enter Try.func9, Try.ntmps9
      go_wp2_with fail
      refine (toIntS_any _ len0 cap0 xs _ A0.1 n0).mono ?_
      rintro e v1 ⟨rfl, o1, b1⟩
      have P0 := row_toIntS HL0.out o1
      have s1 := b1.size
      have t1 := (World.ownsRow.lt o1 _ rfl).2
      clear o1
      replace A0 := A0.below b1
      replace A1 := A1.below b1
      have cum := b1
      clear b1
      go_wp2_with fail
      refine (toIntS_any _ len1 cap1 ys _ A1.1 n1).mono ?_
      rintro e v2 ⟨rfl, o2, b2⟩
      have P1 := row_toIntS HL1.out o2
      have s2 := b2.size
      have t2 := (World.ownsRow.lt o2 _ rfl).2
      clear o2
      replace A0 := A0.below b2
      replace A1 := A1.below b2
      replace P0 := P0.below b2
      replace cum := below2 cum b2
      clear b2
      go_wp2_with fail
      refine (HS.out _ _ _ _ _ _ _ _ P0.ints P1.ints n0 n1).mono ?_
      rintro e v3 ⟨u3L, u3R, rfl, o3L, o3R, b3⟩
      obtain ⟨aWL, cWL, rfl, WL⟩ := o3L.row'
      obtain ⟨aWR, cWR, rfl, WR⟩ := o3R.row'
      have s3 := b3.size
      clear o3L o3R
      replace A0 := A0.below b3
      replace A1 := A1.below b3
      replace P0 := P0.below b3
      replace P1 := P1.below b3
      replace cum := below2 cum b3
      clear b3
      clear P0 P1
      go_wp2_with fail
      refine (toIntS_any _ len0 cap0 xs _ A0.1 n0).mono ?_
      rintro e v4 ⟨rfl, o4, b4⟩
      have X0 := row_toIntS HL0.out o4
      have s4 := b4.size
      have t4 := (World.ownsRow.lt o4 _ rfl).2
      clear o4
      replace A0 := A0.below b4
      replace A1 := A1.below b4
      replace WL := WL.below b4
      replace WR := WR.below b4
      replace cum := below2 cum b4
      clear b4
      go_wp2_with fail
      refine (toIntS_any _ len1 cap1 ys _ A1.1 n1).mono ?_
      rintro e v5 ⟨rfl, o5, b5⟩
      have X1 := row_toIntS HL1.out o5
      have s5 := b5.size
      have t5 := (World.ownsRow.lt o5 _ rfl).2
      clear o5
      replace A0 := A0.below b5
      replace A1 := A1.below b5
      replace WL := WL.below b5
      replace WR := WR.below b5
      replace X0 := X0.below b5
      replace cum := below2 cum b5
      clear b5
      go_wp2_with fail
      refine (HF.out _ _ _ _ _ _ _ X0.ints X1.ints n0 n1).mono ?_
      rintro e v6 ⟨u6L, u6R, se6, rfl, o6L, o6R, se6le, se6lt, b6⟩
      obtain ⟨aGL, cGL, rfl, GL⟩ := o6L.row se6lt
      obtain ⟨aGR, cGR, rfl, GR⟩ := o6R.row'
      have s6 := b6.size
      clear o6L o6R
      replace A0 := A0.below b6
      replace A1 := A1.below b6
      replace WL := WL.below b6
      replace WR := WR.below b6
      replace X0 := X0.below b6
      replace X1 := X1.below b6
      replace cum := below2 cum b6
      clear b6 se6lt
      go_wp2_with fail
      refine (eqIntS_same _ _ _ _ _ L _ GL.ints WL.ints hl_L).mono ?_
      rintro e v7 ⟨rfl, b7⟩
      have s7 := b7.size
      replace A0 := A0.below b7
      replace A1 := A1.below b7
      replace WL := WL.below b7
      replace WR := WR.below b7
      replace X0 := X0.below b7
      replace X1 := X1.below b7
      replace GL := GL.below b7
      replace GR := GR.below b7
      replace cum := below2 cum b7
      clear b7
      go_wp2_with fail
      refine (eqIntS_same _ _ _ _ _ R _ GR.ints WR.ints hl_R).mono ?_
      rintro e v8 ⟨rfl, b8⟩
      have s8 := b8.size
      replace A0 := A0.below b8
      replace A1 := A1.below b8
      replace WL := WL.below b8
      replace WR := WR.below b8
      replace X0 := X0.below b8
      replace X1 := X1.below b8
      replace GL := GL.below b8
      replace GR := GR.below b8
      replace cum := below2 cum b8
      clear b8
      go_wp2_with fail
      refine (toIntS_any _ len0 cap0 xs _ A0.1 n0).mono ?_
      rintro e v9 ⟨rfl, o9, b9⟩
      have P0 := row_toIntS HL0.out o9
      have s9 := b9.size
      have t9 := (World.ownsRow.lt o9 _ rfl).2
      clear o9
      replace A0 := A0.below b9
      replace A1 := A1.below b9
      replace WL := WL.below b9
      replace WR := WR.below b9
      replace X0 := X0.below b9
      replace X1 := X1.below b9
      replace GL := GL.below b9
      replace GR := GR.below b9
      replace cum := below2 cum b9
      clear b9
      go_wp2_with fail
      refine (eqIntS_same _ _ _ _ _ xs _ X0.ints P0.ints n0).mono ?_
      rintro e v10 ⟨rfl, b10⟩
      have s10 := b10.size
      replace A0 := A0.below b10
      replace A1 := A1.below b10
      replace WL := WL.below b10
      replace WR := WR.below b10
      replace X0 := X0.below b10
      replace X1 := X1.below b10
      replace GL := GL.below b10
      replace GR := GR.below b10
      replace P0 := P0.below b10
      replace cum := below2 cum b10
      clear b10
      clear P0
      go_wp2_with fail
      refine (toIntS_any _ len1 cap1 ys _ A1.1 n1).mono ?_
      rintro e v11 ⟨rfl, o11, b11⟩
      have P1 := row_toIntS HL1.out o11
      have s11 := b11.size
      have t11 := (World.ownsRow.lt o11 _ rfl).2
      clear o11
      replace A0 := A0.below b11
      replace A1 := A1.below b11
      replace WL := WL.below b11
      replace WR := WR.below b11
      replace X0 := X0.below b11
      replace X1 := X1.below b11
      replace GL := GL.below b11
      replace GR := GR.below b11
      replace cum := below2 cum b11
      clear b11
      go_wp2_with fail
      refine (eqIntS_same _ _ _ _ _ ys _ X1.ints P1.ints n1).mono ?_
      rintro e v12 ⟨rfl, b12⟩
      have s12 := b12.size
      replace A0 := A0.below b12
      replace A1 := A1.below b12
      replace WL := WL.below b12
      replace WR := WR.below b12
      replace X0 := X0.below b12
      replace X1 := X1.below b12
      replace GL := GL.below b12
      replace GR := GR.below b12
      replace P1 := P1.below b12
      replace cum := below2 cum b12
      clear b12
      clear P1
      obtain ⟨kx0, hkx0⟩ : ∃ q, 1 + len0 = q := ⟨_, rfl⟩
      go_wp2_with fail
      refine (mark_q _ _ _ _ _ 1 kx0 _ _ X0 (by omega) (by omega) (by omega)).mono ?_
      rintro e v13 ⟨rfl, M13, T13⟩
      have s13 := T13.size
      replace A0 := A0.turned T13 (by omega)
      replace A1 := A1.turned T13 (by omega)
      replace WL := WL.turned T13 (by omega)
      replace WR := WR.turned T13 (by omega)
      replace X1 := X1.turned T13 (by omega)
      replace GL := GL.turned T13 (by omega)
      replace GR := GR.turned T13 (by omega)
      replace cum := cum.trans (T13.below (by omega) cum.size)
      clear T13 X0
      have X0 := M13
      clear M13
      obtain ⟨kx1, hkx1⟩ : ∃ q, kx0 + len1 = q := ⟨_, rfl⟩
      go_wp2_with fail
      refine (mark_q _ _ _ _ _ kx0 kx1 _ _ X1 (by omega) (by omega) (by omega)).mono ?_
      rintro e v14 ⟨rfl, M14, T14⟩
      have s14 := T14.size
      replace A0 := A0.turned T14 (by omega)
      replace A1 := A1.turned T14 (by omega)
      replace WL := WL.turned T14 (by omega)
      replace WR := WR.turned T14 (by omega)
      replace X0 := X0.turned T14 (by omega)
      replace GL := GL.turned T14 (by omega)
      replace GR := GR.turned T14 (by omega)
      replace cum := cum.trans (T14.below (by omega) cum.size)
      clear T14 X1
      have X1 := M14
      clear M14
      clear X0 X1
      go_wp2_with fail
      refine (eqIntS_same _ _ _ _ _ L _ GL.ints WL.ints hl_L).mono ?_
      rintro e v15 ⟨rfl, b15⟩
      have s15 := b15.size
      replace A0 := A0.below b15
      replace A1 := A1.below b15
      replace WL := WL.below b15
      replace WR := WR.below b15
      replace GL := GL.below b15
      replace GR := GR.below b15
      replace cum := below2 cum b15
      clear b15
      go_wp2_with fail
      refine (eqIntS_same _ _ _ _ _ R _ GR.ints WR.ints hl_R).mono ?_
      rintro e v16 ⟨rfl, b16⟩
      have s16 := b16.size
      replace A0 := A0.below b16
      replace A1 := A1.below b16
      replace WL := WL.below b16
      replace WR := WR.below b16
      replace GL := GL.below b16
      replace GR := GR.below b16
      replace cum := below2 cum b16
      clear b16
      obtain ⟨kgL, hkgL⟩ : ∃ q, 1 + L.length = q := ⟨_, rfl⟩
      go_wp2_with fail
      refine (mark_q _ _ _ _ _ 1 kgL _ _ GL (by omega) (by omega) (by omega)).mono ?_
      rintro e v17 ⟨rfl, M17, T17⟩
      have s17 := T17.size
      replace A0 := A0.turned T17 (by omega)
      replace A1 := A1.turned T17 (by omega)
      replace WL := WL.turned T17 (by omega)
      replace WR := WR.turned T17 (by omega)
      replace GR := GR.turned T17 (by omega)
      replace cum := cum.trans (T17.below (by omega) cum.size)
      clear T17 GL
      have GL := M17
      clear M17
      obtain ⟨kgR, hkgR⟩ : ∃ q, kgL + R.length = q := ⟨_, rfl⟩
      go_wp2_with fail
      refine (mark_q _ _ _ _ _ kgL kgR _ _ GR (by omega) (by omega) (by omega)).mono ?_
      rintro e v18 ⟨rfl, M18, T18⟩
      have s18 := T18.size
      replace A0 := A0.turned T18 (by omega)
      replace A1 := A1.turned T18 (by omega)
      replace WL := WL.turned T18 (by omega)
      replace WR := WR.turned T18 (by omega)
      replace GL := GL.turned T18 (by omega)
      replace cum := cum.trans (T18.below (by omega) cum.size)
      clear T18 GR
      have GR := M18
      clear M18
      go_wp2_with fail
      refine (held_q _ _ _ 1 kgL _ GL.ints hl_L (by omega) hkgL).mono ?_
      rintro e w' ⟨rfl, hw⟩
      obtain rfl := hw.symm
      clear hw
      go_wp2_with fail
      refine (held_q _ _ _ kgL kgR _ GR.ints hl_R (by omega) hkgR).mono ?_
      rintro e w' ⟨rfl, hw⟩
      obtain rfl := hw.symm
      clear hw
      go_wp2_with fail
      refine (toIntS_any _ len0 cap0 xs _ A0.1 n0).mono ?_
      rintro e v19 ⟨rfl, o19, b19⟩
      have P0 := row_toIntS HL0.out o19
      have s19 := b19.size
      have t19 := (World.ownsRow.lt o19 _ rfl).2
      clear o19
      replace A0 := A0.below b19
      replace A1 := A1.below b19
      replace WL := WL.below b19
      replace WR := WR.below b19
      replace GL := GL.below b19
      replace GR := GR.below b19
      replace cum := below2 cum b19
      clear b19
      go_wp2_with fail
      refine (toIntS_any _ len1 cap1 ys _ A1.1 n1).mono ?_
      rintro e v20 ⟨rfl, o20, b20⟩
      have P1 := row_toIntS HL1.out o20
      have s20 := b20.size
      have t20 := (World.ownsRow.lt o20 _ rfl).2
      clear o20
      replace A0 := A0.below b20
      replace A1 := A1.below b20
      replace WL := WL.below b20
      replace WR := WR.below b20
      replace GL := GL.below b20
      replace GR := GR.below b20
      replace P0 := P0.below b20
      replace cum := below2 cum b20
      clear b20
      go_wp2_with fail
      refine (HF.out _ _ _ _ _ _ _ P0.ints P1.ints n0 n1).mono ?_
      rintro e v21 ⟨u21L, u21R, se21, rfl, o21L, o21R, se21le, se21lt, b21⟩
      obtain ⟨aHL, cHL, rfl, HL⟩ := o21L.row se21lt
      obtain ⟨aHR, cHR, rfl, HR⟩ := o21R.row'
      have s21 := b21.size
      clear o21L o21R
      replace A0 := A0.below b21
      replace A1 := A1.below b21
      replace WL := WL.below b21
      replace WR := WR.below b21
      replace GL := GL.below b21
      replace GR := GR.below b21
      replace P0 := P0.below b21
      replace P1 := P1.below b21
      replace cum := below2 cum b21
      clear b21 se21lt
      clear P0 P1
      go_wp2_with fail
      refine (eqIntS_same _ _ _ _ _ L _ HL.ints WL.ints hl_L).mono ?_
      rintro e v22 ⟨rfl, b22⟩
      have s22 := b22.size
      replace A0 := A0.below b22
      replace A1 := A1.below b22
      replace WL := WL.below b22
      replace WR := WR.below b22
      replace GL := GL.below b22
      replace GR := GR.below b22
      replace HL := HL.below b22
      replace HR := HR.below b22
      replace cum := below2 cum b22
      clear b22
      go_wp2_with fail
      refine (eqIntS_same _ _ _ _ _ R _ HR.ints WR.ints hl_R).mono ?_
      rintro e v23 ⟨rfl, b23⟩
      have s23 := b23.size
      replace A0 := A0.below b23
      replace A1 := A1.below b23
      replace WL := WL.below b23
      replace WR := WR.below b23
      replace GL := GL.below b23
      replace GR := GR.below b23
      replace HL := HL.below b23
      replace HR := HR.below b23
      replace cum := below2 cum b23
      clear b23
      clear HL HR
      go_wp2_with fail
      refine (held_q _ _ _ 1 kgL _ GL.ints hl_L (by omega) hkgL).mono ?_
      rintro e w' ⟨rfl, hw⟩
      obtain rfl := hw.symm
      clear hw
      go_wp2_with fail
      refine (held_q _ _ _ kgL kgR _ GR.ints hl_R (by omega) hkgR).mono ?_
      rintro e w' ⟨rfl, hw⟩
      obtain rfl := hw.symm
      clear hw
      go_wp2
      go_ret
      exact ⟨rfl, cum⟩
end Go.Proofs.Ytdnddimkgddooaa
namespace Go.Proofs.Ytdnddimkgddooaa.fnExactPolyDiv
open Go.ChangeShapes Go.WideShapes Go.ChangeAt Go.RowKit
open Go.ChangeMaps (open_string shut_string)
set_option linter.unusedVariables false
theorem own : ownKnob Try.prog.godebug = none := by kernel_rfl
theorem laidOut : laidOutB Try.prog = true := by kernel_rfl
set_option maxRecDepth 100000 in
theorem lifted (os : Os) (started : os.Started) (H : Type) (enc : TypeId × Value → H) :
    ReturnsInHanded {} Try.checked os 9 .any (Rows.fnExactPolyDivSpec.pre6 enc Try.prog Try.f9 Rows.fnExactPolyDivRow.domain false) (Rows.fnExactPolyDivSpec.post enc Try.prog Try.f9 false true false false) := by
  refine returnsInHanded_of_change (C := Try.checked) own started (by kernel_rfl) Try.func9
    (ChangeSpec.witness6 (enc := enc) (C := Try.checked) false ⟨#[], #[.slice none 0 0, .slice none 0 0], []⟩ 8 (by kernel_rfl) (by kernel_rfl) (by kernel_rfl) (by kernel_rfl)) ?_
  intro W base args ds gs before hval0 hW hcnd _
  have hval : ∀ (j : Nat) t v, Try.f9.params[j]? = some t → args[j]? = some v → Value.okWide Try.prog W .any base t v := hval0
  have hW' := hW
  obtain ⟨p, q, hA0, hV, rfl, hfz, hnd⟩ := hW
  have hA : DataW.TrodAll enc Try.prog W 0 (fun _ => true) true Try.f9.params.toList args.toList ds p := hA0
  rw [Try.params9] at hA hval
  obtain ⟨v0, vs0, d0, ds0, p0, q0, hargs, rfl, rfl, h0, r0⟩ := trodAll_cons hA
  obtain ⟨v1, vs1, d1, ds1, p1, q1, rfl, rfl, rfl, h1, r1⟩ := trodAll_cons r0
  obtain ⟨rfl, rfl, rfl⟩ := trodAll_nil r1
  obtain rfl : args = #[v0, v1] := by cases args; simp_all
  obtain ⟨rfl, rfl⟩ := trodVars_none hV
  obtain ⟨a0, len0, cap0, rfl⟩ := okWide_slice Try.underlying24 (hval 0 24 v0 rfl rfl)
  have k0 := h0
  have lt0 : ∀ x ∈ p0, x.block < W.heap.size := by obtain ⟨m, hm⟩ := k0; exact DataW.trod_lt m _ _ _ hm
  obtain ⟨z0, w0⟩ : ∃ zs, IsRow .i64 W a0 len0 cap0 zs := by
    obtain ⟨fuel, hf⟩ := h0
    rcases open_ints Try.underlying24 Try.underlying3 (by kernel_rfl) hf with ⟨hcs, _⟩ | ⟨x, l, c, zs, hcs, _, hl, hm, hz, _, hcell, hwz⟩
    · simp [Value.cells] at hcs
      obtain ⟨rfl, rfl, rfl⟩ := hcs
      exact ⟨[], .inl ⟨rfl, rfl, rfl, rfl⟩⟩
    · simp [Value.cells] at hcs
      obtain ⟨rfl, rfl, rfl⟩ := hcs
      exact ⟨zs, .inr ⟨_, rfl, hl, hm, by simpa using hz, hcell, hwz⟩⟩
  obtain ⟨a1, len1, cap1, rfl⟩ := okWide_slice Try.underlying24 (hval 1 24 v1 rfl rfl)
  have k1 := h1
  have lt1 : ∀ x ∈ p1, x.block < W.heap.size := by obtain ⟨m, hm⟩ := k1; exact DataW.trod_lt m _ _ _ hm
  obtain ⟨z1, w1⟩ : ∃ zs, IsRow .i64 W a1 len1 cap1 zs := by
    obtain ⟨fuel, hf⟩ := h1
    rcases open_ints Try.underlying24 Try.underlying3 (by kernel_rfl) hf with ⟨hcs, _⟩ | ⟨x, l, c, zs, hcs, _, hl, hm, hz, _, hcell, hwz⟩
    · simp [Value.cells] at hcs
      obtain ⟨rfl, rfl, rfl⟩ := hcs
      exact ⟨[], .inl ⟨rfl, rfl, rfl, rfl⟩⟩
    · simp [Value.cells] at hcs
      obtain ⟨rfl, rfl, rfl⟩ := hcs
      exact ⟨zs, .inr ⟨_, rfl, hl, hm, by simpa using hz, hcell, hwz⟩⟩
  clear hA0 hval0
  refine (walk_FnExactPolyDiv a0 len0 cap0 z0 a1 len1 cap1 z1 W w0 w1).mono fun e W' ⟨he, bel⟩ => ?_
  subst he
  exact ⟨_, rfl, _, _, _, [], _, [], hW', trodAll_mk1 (shut_bool Try.underlying4 _), (trodAll_cons_mk (Below.trod laidOut (by kernel_rfl) (of_decide_eq_true (by kernel_rfl)) k0 bel lt0) (trodAll_cons_mk (Below.trod laidOut (by kernel_rfl) (of_decide_eq_true (by kernel_rfl)) k1 bel lt1) trodAll_mk0)), rfl, bel.frame _, fun h => by cases h⟩
theorem over : Rows.fnExactPolyDivRow.holds Try.pinned (OpenSpec.ofChange Rows.fnExactPolyDivSpec) :=
  OpenClaim.holds_of_wide 9 Try.f9 rfl rfl rfl rfl rfl rfl rfl ⟨rfl, rfl, rfl, rfl, rfl⟩ rfl rfl rfl rfl rfl (by kernel_rfl) Try.func9 (by kernel_rfl)
    (of_decide_eq_true (by kernel_rfl)) (by unfold Func.isWrapper; first | (rw [if_pos (by decide +kernel)]; kernel_rfl) | (rw [if_neg (by decide +kernel)]; exact ⟨rfl, rfl⟩))
    (fun os started H enc _ => lifted os started H enc)
theorem proved : Rows.FnExactPolyDivSaid := over
#print axioms proved
end Go.Proofs.Ytdnddimkgddooaa.fnExactPolyDiv
