/- For every input: the function PolyTrim of the program answers as its model does, whatever its lists are, leaves them as they were, and its answer owns its memory. No condition. -/
import Derived.Test.YtdnddimkgddooaaPTrim
import Derived.Test.YtdnddimkgddooaaMarks
namespace Go.Proofs.Ytdnddimkgddooaa
open Go.ChangeShapes Go.WideShapes Go.ChangeAt Go.RowKit
set_option maxHeartbeats 4000000 in
theorem walk_FnExactPolyTrim (a0 : Option Addr) (len0 cap0 : Nat) (z0 : List Int) (w : World) (w0 : IsRow .i64 w a0 len0 cap0 z0) :
    Calls Try.prog 6 #[.slice a0 len0 cap0] w fun e w' => e = .returned (.bool true) ∧ Below w.heap.size w w' := by
  obtain ⟨_, hA0, _⟩ := w0.ints
  clear w0
  by_cases h0 : 1048576 < len0
  · have h0' : (1048576 : Int) < (len0 : Int) := by omega
    go_enter Try.func6, Try.ntmps6
    go_wp2
    go_ret
    exact ⟨rfl, Below.refl _ _⟩
  · have h0' : ¬ (1048576 : Int) < (len0 : Int) := by omega
    have n0 : len0 ≤ 1048576 := by omega
    generalize z0.take len0 = xs at hA0
    have A0 := hA0.arg
    have HL0 : Hid (xs.length = len0) := hA0.1
    clear hA0
    have hl_L : (trimI xs).length ≤ 1048576 := by rw [trimI_len]; exact Nat.le_trans (Gp.tl_le _ _) (by rw [HL0.out]; omega)
    obtain ⟨L, HL⟩ : ∃ L, trimI xs = L := ⟨_, rfl⟩
    rw [HL] at hl_L
    have hS := fun b n cap w h hcap hn => sTrim_any b n cap xs w h hcap hn
    have hF := fun b n cap w h hcap hn => trim_any b n cap xs w h hcap hn
    simp only [HL] at hS hF
    have HS : Hid _ := hS
    have HF : Hid _ := hF
    clear hS hF HL
    go_enter Try.func6, Try.ntmps6
    go_wp2_with fail
    refine (toIntS_any _ len0 cap0 xs _ A0.1 n0).mono ?_
    rintro e v1 ⟨rfl, o1, b1⟩
    have P0 := row_toIntS HL0.out o1
    have s1 := b1.size
    have t1 := (World.ownsRow.lt o1 _ rfl).2
    clear o1
    replace A0 := A0.below b1
    have cum := b1
    clear b1
    go_wp2_with fail
    refine (HS.out _ _ _ _ P0.ints (Nat.le_refl _) n0).mono ?_
    rintro e v2 ⟨u2L, rfl, o2L, b2⟩
    obtain ⟨aWL, cWL, rfl, WL⟩ := o2L.row'
    have s2 := b2.size
    clear o2L
    replace A0 := A0.below b2
    replace P0 := P0.below b2
    replace cum := below2 cum b2
    clear b2
    clear P0
    go_wp2_with fail
    refine (toIntS_any _ len0 cap0 xs _ A0.1 n0).mono ?_
    rintro e v3 ⟨rfl, o3, b3⟩
    have X0 := row_toIntS HL0.out o3
    have s3 := b3.size
    have t3 := (World.ownsRow.lt o3 _ rfl).2
    clear o3
    replace A0 := A0.below b3
    replace WL := WL.below b3
    replace cum := below2 cum b3
    clear b3
    go_wp2_with fail
    refine (HF.out _ _ _ _ X0.ints (Nat.le_refl _) n0).mono ?_
    rintro e v4 ⟨u4L, rfl, o4L, b4⟩
    obtain ⟨aGL, cGL, rfl, GL⟩ := o4L.row'
    have s4 := b4.size
    clear o4L
    replace A0 := A0.below b4
    replace WL := WL.below b4
    replace X0 := X0.below b4
    replace cum := below2 cum b4
    clear b4
    go_wp2_with fail
    refine (eqIntS_same _ _ _ _ _ L _ GL.ints WL.ints hl_L).mono ?_
    rintro e v5 ⟨rfl, b5⟩
    have s5 := b5.size
    replace A0 := A0.below b5
    replace WL := WL.below b5
    replace X0 := X0.below b5
    replace GL := GL.below b5
    replace cum := below2 cum b5
    clear b5
    go_wp2_with fail
    refine (toIntS_any _ len0 cap0 xs _ A0.1 n0).mono ?_
    rintro e v6 ⟨rfl, o6, b6⟩
    have P0 := row_toIntS HL0.out o6
    have s6 := b6.size
    have t6 := (World.ownsRow.lt o6 _ rfl).2
    clear o6
    replace A0 := A0.below b6
    replace WL := WL.below b6
    replace X0 := X0.below b6
    replace GL := GL.below b6
    replace cum := below2 cum b6
    clear b6
    go_wp2_with fail
    refine (eqIntS_same _ _ _ _ _ xs _ X0.ints P0.ints n0).mono ?_
    rintro e v7 ⟨rfl, b7⟩
    have s7 := b7.size
    replace A0 := A0.below b7
    replace WL := WL.below b7
    replace X0 := X0.below b7
    replace GL := GL.below b7
    replace P0 := P0.below b7
    replace cum := below2 cum b7
    clear b7
    clear P0
    obtain ⟨kx0, hkx0⟩ : ∃ q, 1 + len0 = q := ⟨_, rfl⟩
    go_wp2_with fail
    refine (mark_q _ _ _ _ _ 1 kx0 _ _ X0 (by omega) (by omega) (by omega)).mono ?_
    rintro e v8 ⟨rfl, M8, T8⟩
    have s8 := T8.size
    replace A0 := A0.turned T8 (by omega)
    replace WL := WL.turned T8 (by omega)
    replace GL := GL.turned T8 (by omega)
    replace cum := cum.trans (T8.below (by omega) cum.size)
    clear T8 X0
    have X0 := M8
    clear M8
    clear X0
    go_wp2_with fail
    refine (eqIntS_same _ _ _ _ _ L _ GL.ints WL.ints hl_L).mono ?_
    rintro e v9 ⟨rfl, b9⟩
    have s9 := b9.size
    replace A0 := A0.below b9
    replace WL := WL.below b9
    replace GL := GL.below b9
    replace cum := below2 cum b9
    clear b9
    obtain ⟨kgL, hkgL⟩ : ∃ q, 1 + L.length = q := ⟨_, rfl⟩
    go_wp2_with fail
    refine (mark_q _ _ _ _ _ 1 kgL _ _ GL (by omega) (by omega) (by omega)).mono ?_
    rintro e v10 ⟨rfl, M10, T10⟩
    have s10 := T10.size
    replace A0 := A0.turned T10 (by omega)
    replace WL := WL.turned T10 (by omega)
    replace cum := cum.trans (T10.below (by omega) cum.size)
    clear T10 GL
    have GL := M10
    clear M10
    go_wp2_with fail
    refine (held_q _ _ _ 1 kgL _ GL.ints hl_L (by omega) hkgL).mono ?_
    rintro e w' ⟨rfl, hw⟩
    obtain rfl := hw.symm
    clear hw
    go_wp2_with fail
    refine (toIntS_any _ len0 cap0 xs _ A0.1 n0).mono ?_
    rintro e v11 ⟨rfl, o11, b11⟩
    have P0 := row_toIntS HL0.out o11
    have s11 := b11.size
    have t11 := (World.ownsRow.lt o11 _ rfl).2
    clear o11
    replace A0 := A0.below b11
    replace WL := WL.below b11
    replace GL := GL.below b11
    replace cum := below2 cum b11
    clear b11
    go_wp2_with fail
    refine (HF.out _ _ _ _ P0.ints (Nat.le_refl _) n0).mono ?_
    rintro e v12 ⟨u12L, rfl, o12L, b12⟩
    obtain ⟨aHL, cHL, rfl, HL⟩ := o12L.row'
    have s12 := b12.size
    clear o12L
    replace A0 := A0.below b12
    replace WL := WL.below b12
    replace GL := GL.below b12
    replace P0 := P0.below b12
    replace cum := below2 cum b12
    clear b12
    clear P0
    go_wp2_with fail
    refine (eqIntS_same _ _ _ _ _ L _ HL.ints WL.ints hl_L).mono ?_
    rintro e v13 ⟨rfl, b13⟩
    have s13 := b13.size
    replace A0 := A0.below b13
    replace WL := WL.below b13
    replace GL := GL.below b13
    replace HL := HL.below b13
    replace cum := below2 cum b13
    clear b13
    clear HL
    go_wp2_with fail
    refine (held_q _ _ _ 1 kgL _ GL.ints hl_L (by omega) hkgL).mono ?_
    rintro e w' ⟨rfl, hw⟩
    obtain rfl := hw.symm
    clear hw
    go_wp2
    go_ret
    exact ⟨rfl, cum⟩
end Go.Proofs.Ytdnddimkgddooaa
namespace Go.Proofs.Ytdnddimkgddooaa.fnExactPolyTrim
open Go.ChangeShapes Go.WideShapes Go.ChangeAt Go.RowKit
open Go.ChangeMaps (open_string shut_string)
set_option linter.unusedVariables false
theorem own : ownKnob Try.prog.godebug = none := by kernel_rfl
theorem laidOut : laidOutB Try.prog = true := by kernel_rfl
set_option maxRecDepth 100000 in
theorem lifted (os : Os) (started : os.Started) (H : Type) (enc : TypeId × Value → H) :
    ReturnsInHanded {} Try.checked os 6 .any (Rows.fnExactPolyTrimSpec.pre6 enc Try.prog Try.f6 Rows.fnExactPolyTrimRow.domain false) (Rows.fnExactPolyTrimSpec.post enc Try.prog Try.f6 false true false false) := by
  refine returnsInHanded_of_change (C := Try.checked) own started (by kernel_rfl) Try.func6
    (ChangeSpec.witness6 (enc := enc) (C := Try.checked) false ⟨#[], #[.slice none 0 0], []⟩ 8 (by kernel_rfl) (by kernel_rfl) (by kernel_rfl) (by kernel_rfl)) ?_
  intro W base args ds gs before hval0 hW hcnd _
  have hval : ∀ (j : Nat) t v, Try.f6.params[j]? = some t → args[j]? = some v → Value.okWide Try.prog W .any base t v := hval0
  have hW' := hW
  obtain ⟨p, q, hA0, hV, rfl, hfz, hnd⟩ := hW
  have hA : DataW.TrodAll enc Try.prog W 0 (fun _ => true) true Try.f6.params.toList args.toList ds p := hA0
  rw [Try.params6] at hA hval
  obtain ⟨v0, vs0, d0, ds0, p0, q0, hargs, rfl, rfl, h0, r0⟩ := trodAll_cons hA
  obtain ⟨rfl, rfl, rfl⟩ := trodAll_nil r0
  obtain rfl : args = #[v0] := by cases args; simp_all
  obtain ⟨rfl, rfl⟩ := trodVars_none hV
  obtain ⟨a0, len0, cap0, rfl⟩ := okWide_slice Try.underlying24 (hval 0 24 v0 rfl rfl)
  have k0 := h0
  have lt0 : ∀ x ∈ p0, x.block < W.heap.size := by obtain ⟨m, hm⟩ := k0; exact DataW.trod_lt m _ _ _ hm
  obtain ⟨z0, w0⟩ : ∃ zs, IsRow .i64 W a0 len0 cap0 zs := by
    obtain ⟨fuel, hf⟩ := h0
    rcases open_ints Try.underlying24 Try.underlying3 (by kernel_rfl) hf with ⟨hcs, _⟩ | ⟨x, l, c, zs, hcs, _, hl, hm, hz, _, hcell, hwz⟩
    · simp [Value.cells] at hcs
      obtain ⟨rfl, rfl, rfl⟩ := hcs
      exact ⟨[], .inl ⟨rfl, rfl, rfl, rfl⟩⟩
    · simp [Value.cells] at hcs
      obtain ⟨rfl, rfl, rfl⟩ := hcs
      exact ⟨zs, .inr ⟨_, rfl, hl, hm, by simpa using hz, hcell, hwz⟩⟩
  clear hA0 hval0
  refine (walk_FnExactPolyTrim a0 len0 cap0 z0 W w0).mono fun e W' ⟨he, bel⟩ => ?_
  subst he
  exact ⟨_, rfl, _, _, _, [], _, [], hW', trodAll_mk1 (shut_bool Try.underlying4 _), (trodAll_cons_mk (Below.trod laidOut (by kernel_rfl) (of_decide_eq_true (by kernel_rfl)) k0 bel lt0) trodAll_mk0), rfl, bel.frame _, fun h => by cases h⟩
theorem over : Rows.fnExactPolyTrimRow.holds Try.pinned (OpenSpec.ofChange Rows.fnExactPolyTrimSpec) :=
  OpenClaim.holds_of_wide 6 Try.f6 rfl rfl rfl rfl rfl rfl rfl ⟨rfl, rfl, rfl, rfl, rfl⟩ rfl rfl rfl rfl rfl (by kernel_rfl) Try.func6 (by kernel_rfl)
    (of_decide_eq_true (by kernel_rfl)) (by unfold Func.isWrapper; first | (rw [if_pos (by decide +kernel)]; kernel_rfl) | (rw [if_neg (by decide +kernel)]; exact ⟨rfl, rfl⟩))
    (fun os started H enc _ => lifted os started H enc)
theorem proved : Rows.FnExactPolyTrimSaid := over
#print axioms proved
end Go.Proofs.Ytdnddimkgddooaa.fnExactPolyTrim
