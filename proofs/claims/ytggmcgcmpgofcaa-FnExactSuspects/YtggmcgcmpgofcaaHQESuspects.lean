/- For every input: the function Suspects of the program answers as its model does, whatever its list of marks and its number are; it leaves the list as it was, and its answer owns its memory. No condition. -/
import Derived.Test.YtggmcgcmpgofcaaH35
import Derived.Test.YtggmcgcmpgofcaaH22
namespace Go.Proofs.Ytggmcgcmpgofcaa
set_option maxRecDepth 2000
open Go.ChangeShapes Go.WideShapes Go.ChangeAt Go.RowKit
theorem RowI.trn {w w' : World} {B E b e : Nat} {a : Option Addr} {n cap : Nat} {zs : List Int} (h : RowI w B E a n cap zs) (ht : Trn w w' (rng b e)) (hd : E ≤ b ∨ e ≤ B) : RowI w' B E a n cap zs := by
  have hM : TurnM w w' b e := ⟨ht.os, ht.tape, ht.output, ht.size, fun j hj hn => ht.block j hj (fun k => by have := k.1; have := k.2; omega)⟩
  refine ⟨?_, h.2⟩
  have h1 := h.1
  unfold OwnI at h1 ⊢
  exact own_turn h1 hM (fun x hx => (h.2.2.2 x.block (by subst hx; rfl)).2) hd
set_option maxHeartbeats 4000000 in
theorem walk_FnExactSuspects (a : Option Addr) (n c : Nat) (M : Nat → Ma) (row : Int) (w : World) (w0 : Rd w (masD n M) (.slice a n c) ∧ n ≤ maxLen) (_w1 : (Lit.int .i64 row).wf = true) :
    Calls Try.prog 3 #[.slice a n c, .int .i64 row] w fun e w' => e = .returned (.bool true) ∧ Below w.heap.size w w' := by
  clear _w1
  obtain ⟨hT, hn⟩ := w0
  have KZ : Hid (Calls Try.prog 7 #[.slice a n c, .int .i64 ((1048576 : Nat) : Int)] w _) := szMas_any a n c 1048576 w (by omega) hn
  by_cases h0 : n ≤ 1048576
  case neg =>
    rw [szN_no h0] at KZ
    clear h0
    go_enter Try.func3, Try.ntmps3
    go_wp2_with fail
    refine Calls.mono KZ.out ?_
    rintro e w' ⟨rfl, hw⟩
    obtain rfl := hw.symm
    clear hw
    go_wp2
    go_ret
    exact ⟨rfl, Below.refl _ _⟩
  obtain ⟨left, hleft⟩ : ∃ q, 1048576 - n = q := ⟨_, rfl⟩
  rw [szN_yes h0, hleft] at KZ
  have neg0 : ¬ ((left : Int) < 0) := by omega
  have KRd : Hid (∀ W, Below w.heap.size w W → Rd W (masD n M) (.slice a n c)) := fun W hW => hT.below hW
  obtain ⟨L, HL⟩ : ∃ L, Hid (suI row M n = L) := ⟨_, rfl⟩
  have hl_L : L.length ≤ 1048576 := by rw [← HL.out]; exact Nat.le_trans (suI_len row M n) h0
  have KTo : Hid (∀ W, Rd W (masD n M) (.slice a n c) → Calls Try.prog 9 #[.slice a n c] W fun e w' => ∃ g, e = .returned (.slice (some ⟨g, 0, none⟩) n n) ∧ Ow w' W.heap.size (masD n M) (.slice (some ⟨g, 0, none⟩) n n) (rng W.heap.size w'.heap.size) ∧ Below W.heap.size W w') := fun W hW => toMas_any a n c M W hW h0
  have HS : Hid (∀ g W, Rd W (masD n M) (.slice (some ⟨g, 0, none⟩) n n) → Calls Try.prog 8 #[.slice (some ⟨g, 0, none⟩) n n, .int .i64 row] W fun e w' => ∃ v, e = .returned v ∧ OwnI w' W.heap.size v L ∧ Below W.heap.size W w') := fun g W hW => by
    have := sSus_any (some ⟨g, 0, none⟩) n n M row W hW h0
    rw [HL.out] at this
    exact this
  have HF : Hid (∀ g W, Rd W (masD n M) (.slice (some ⟨g, 0, none⟩) n n) → Calls Try.prog 10 #[.slice (some ⟨g, 0, none⟩) n n, .int .i64 row] W fun e w' => ∃ v, e = .returned v ∧ OwnI w' W.heap.size v L ∧ Below W.heap.size W w') := fun g W hW => by
    have := sus_any (some ⟨g, 0, none⟩) n n M row W hW h0
    rw [HL.out] at this
    exact this
  have KEn : Hid (∀ g1 g2 W, Rd W (masD n M) (.slice (some ⟨g1, 0, none⟩) n n) → Rd W (masD n M) (.slice (some ⟨g2, 0, none⟩) n n) → Calls Try.prog 12 #[.slice (some ⟨g1, 0, none⟩) n n, .slice (some ⟨g2, 0, none⟩) n n] W fun e w' => e = .returned (.bool true) ∧ Below W.heap.size W w') := fun g1 g2 W h1 h2 => eqMas_same _ _ n n n M W h1 h2 h0
  have KMn : Hid (∀ g b W F, Ow W b (masD n M) (.slice (some ⟨g, 0, none⟩) n n) F → Calls Try.prog 13 #[.slice (some ⟨g, 0, none⟩) n n, .int .i64 ((1 : Nat) : Int)] W fun e w' => ∃ q : Nat, e = .returned (.int .i64 (q : Int)) ∧ Trn W w' F) := fun g b W F hO => markMas_any b g n n 1 F M W hO h0 (by omega)
  clear hT hn h0 hleft
  go_enter Try.func3, Try.ntmps3
  go_wp2_with fail
  refine Calls.mono KZ.out ?_
  rintro e w' ⟨rfl, hw⟩
  obtain rfl := hw.symm
  clear hw KZ
  have cum : Below w.heap.size w w := Below.refl _ _
  go_wp2_with fail
  refine Calls.mono (KTo.out _ (KRd.out _ cum)) ?_
  rintro e v1 ⟨g1, rfl, o1, b1⟩
  have KC1 : Hid _ := HS.out g1 v1 o1.rd
  have s1 := b1.size
  replace cum := below2 cum b1
  clear b1 o1
  go_wp2_with fail
  refine Calls.mono KC1.out ?_
  rintro e v2 ⟨u2, rfl, o2, b2⟩
  obtain ⟨aW, cW, rfl, WL⟩ := o2.row'
  have s2 := b2.size
  replace cum := below2 cum b2
  clear b2 o2 KC1
  go_wp2_with fail
  refine Calls.mono (KTo.out _ (KRd.out _ cum)) ?_
  rintro e v3 ⟨gx, rfl, X0, b3⟩
  have KC3 : Hid _ := HF.out gx v3 X0.rd
  have s3 := b3.size
  replace cum := below2 cum b3
  replace WL := WL.below b3
  clear b3
  go_wp2_with fail
  refine Calls.mono KC3.out ?_
  rintro e v4 ⟨u4, rfl, o4, b4⟩
  obtain ⟨aG, cG, rfl, GL⟩ := o4.row'
  have s4 := b4.size
  replace cum := below2 cum b4
  replace WL := WL.below b4
  replace X0 := X0.below b4
  clear b4 o4 KC3
  go_wp2_with fail
  refine (eqIntS_same _ _ _ _ _ L _ GL.ints WL.ints hl_L).mono ?_
  rintro e v5 ⟨rfl, b5⟩
  have s5 := b5.size
  replace cum := below2 cum b5
  replace WL := WL.below b5
  replace X0 := X0.below b5
  replace GL := GL.below b5
  clear b5
  go_wp2_with fail
  refine Calls.mono (KTo.out _ (KRd.out _ cum)) ?_
  rintro e v6 ⟨g6, rfl, o6, b6⟩
  have s6 := b6.size
  replace cum := below2 cum b6
  replace WL := WL.below b6
  replace X0 := X0.below b6
  replace GL := GL.below b6
  have KC6 : Hid _ := KEn.out gx g6 v6 X0.rd o6.rd
  clear b6 o6
  go_wp2_with fail
  refine Calls.mono KC6.out ?_
  rintro e v7 ⟨rfl, b7⟩
  have s7 := b7.size
  replace cum := below2 cum b7
  replace WL := WL.below b7
  replace X0 := X0.below b7
  replace GL := GL.below b7
  clear b7 KC6
  have KM8 : Hid _ := KMn.out gx _ v7 _ X0
  go_wp2_with fail
  refine Calls.mono KM8.out ?_
  rintro e v8 ⟨q8, rfl, T8⟩
  have nq8 : ¬ ((q8 : Int) < 0) := by omega
  have s8 := T8.size
  replace WL := WL.trn T8 (by omega)
  replace GL := GL.trn T8 (by omega)
  replace cum := cum.trans (T8.below (fun g hg => by have := hg.1; omega) cum.size)
  clear T8 X0 KM8
  go_wp2_with fail
  refine (eqIntS_same _ _ _ _ _ L _ GL.ints WL.ints hl_L).mono ?_
  rintro e v9 ⟨rfl, b9⟩
  have s9 := b9.size
  replace WL := WL.below b9
  replace GL := GL.below b9
  replace cum := below2 cum b9
  clear b9
  obtain ⟨kgL, hkgL⟩ : ∃ q, 1 + L.length = q := ⟨_, rfl⟩
  go_wp2_with fail
  refine (mark_q _ _ _ _ _ 1 kgL _ _ GL (by omega) (by omega) (by omega)).mono ?_
  rintro e v10 ⟨rfl, M10, T10⟩
  have s10 := T10.size
  replace WL := WL.turned T10 (by omega)
  replace cum := cum.trans (T10.below (by omega) cum.size)
  clear T10 GL
  have GL := M10
  clear M10
  go_wp2_with fail
  refine (held_q _ _ _ 1 kgL _ GL.ints hl_L (by omega) hkgL).mono ?_
  rintro e w' ⟨rfl, hw⟩
  obtain rfl := hw.symm
  clear hw
  go_wp2_with fail
  refine Calls.mono (KTo.out _ (KRd.out _ cum)) ?_
  rintro e v11 ⟨g11, rfl, o11, b11⟩
  have KC11 : Hid _ := HF.out g11 v11 o11.rd
  have s11 := b11.size
  replace WL := WL.below b11
  replace GL := GL.below b11
  replace cum := below2 cum b11
  clear b11 o11
  go_wp2_with fail
  refine Calls.mono KC11.out ?_
  rintro e v12 ⟨u12, rfl, o12, b12⟩
  obtain ⟨aH, cH, rfl, HH⟩ := o12.row'
  have s12 := b12.size
  replace WL := WL.below b12
  replace GL := GL.below b12
  replace cum := below2 cum b12
  clear b12 o12 KC11
  go_wp2_with fail
  refine (eqIntS_same _ _ _ _ _ L _ HH.ints WL.ints hl_L).mono ?_
  rintro e v13 ⟨rfl, b13⟩
  replace GL := GL.below b13
  replace cum := below2 cum b13
  clear b13 HH
  go_wp2_with fail
  refine (held_q _ _ _ 1 kgL _ GL.ints hl_L (by omega) hkgL).mono ?_
  rintro e w' ⟨rfl, hw⟩
  obtain rfl := hw.symm
  clear hw
  go_wp2
  go_ret
  exact ⟨rfl, cum⟩
end Go.Proofs.Ytggmcgcmpgofcaa
namespace Go.Proofs.Ytggmcgcmpgofcaa.fnExactSuspects
open Go.ChangeShapes Go.WideShapes Go.ChangeAt Go.RowKit
open Go.ChangeMaps (open_string shut_string)
set_option linter.unusedVariables false
theorem own : ownKnob Try.prog.godebug = none := by kernel_rfl
theorem laidOut : laidOutB Try.prog = true := by kernel_rfl
set_option maxRecDepth 100000 in
theorem lifted (os : Os) (started : os.Started) (H : Type) (enc : TypeId × Value → H) :
    ReturnsInHanded {} Try.checked os 3 .any (Rows.fnExactSuspectsSpec.pre6 enc Try.prog Try.f3 Rows.fnExactSuspectsRow.domain false) (Rows.fnExactSuspectsSpec.post enc Try.prog Try.f3 false true false false) := by
  refine returnsInHanded_of_change (C := Try.checked) own started (by kernel_rfl) Try.func3
    (ChangeSpec.witness6 (enc := enc) (C := Try.checked) false ⟨#[], #[.slice none 0 0, .int .i64 0], []⟩ 8 (by kernel_rfl) (by kernel_rfl) (by kernel_rfl) (by kernel_rfl)) ?_
  intro W base args ds gs before hval0 hW hcnd _
  have hval : ∀ (j : Nat) t v, Try.f3.params[j]? = some t → args[j]? = some v → Value.okWide Try.prog W .any base t v := hval0
  have hW' := hW
  obtain ⟨p, q, hA0, hV, rfl, hfz, hnd⟩ := hW
  have hA : DataW.TrodAll enc Try.prog W 0 (fun _ => true) true Try.f3.params.toList args.toList ds p := hA0
  rw [Try.params3] at hA hval
  obtain ⟨v0, vs0, d0, ds0, p0, q0, hargs, rfl, rfl, h0, r0⟩ := trodAll_cons hA
  obtain ⟨v1, vs1, d1, ds1, p1, q1, rfl, rfl, rfl, h1, r1⟩ := trodAll_cons r0
  obtain ⟨rfl, rfl, rfl⟩ := trodAll_nil r1
  obtain rfl : args = #[v0, v1] := by cases args; simp_all
  obtain ⟨rfl, rfl⟩ := trodVars_none hV
  obtain ⟨a0, len0, cap0, rfl⟩ := okWide_slice Try.underlying22 (hval 0 22 v0 rfl rfl)
  have k0 := h0
  have lt0 : ∀ x ∈ p0, x.block < W.heap.size := by obtain ⟨m, hm⟩ := k0; exact DataW.trod_lt m _ _ _ hm
  obtain ⟨P0, w0⟩ : ∃ P : Nat → Ma, Rd W (masD len0 P) (.slice a0 len0 cap0) ∧ len0 ≤ maxLen := by
    obtain ⟨fuel, hf⟩ := h0
    exact open_marks (by simpa [Value.cells] using hf)
  obtain ⟨a1, rfl, rfl, rfl, w1⟩ := open_int Try.underlying3 (hval 1 3 v1 rfl rfl) h1
  clear hA0 hval0
  refine (walk_FnExactSuspects a0 len0 cap0 P0 a1 W w0 w1).mono fun e W' ⟨he, bel⟩ => ?_
  subst he
  exact ⟨_, rfl, _, _, _, [], _, [], hW', trodAll_mk1 (shut_bool Try.underlying4 _), (trodAll_cons_mk (Below.trod laidOut (by kernel_rfl) (of_decide_eq_true (by kernel_rfl)) k0 bel lt0) (trodAll_cons_mk (shut_int Try.underlying3 w1) trodAll_mk0)), rfl, bel.frame _, fun h => by cases h⟩
theorem over : Rows.fnExactSuspectsRow.holds Try.pinned (OpenSpec.ofChange Rows.fnExactSuspectsSpec) :=
  OpenClaim.holds_of_wide 3 Try.f3 rfl rfl rfl rfl rfl rfl rfl ⟨rfl, rfl, rfl, rfl, rfl⟩ rfl rfl rfl rfl rfl (by kernel_rfl) Try.func3 (by kernel_rfl)
    (of_decide_eq_true (by kernel_rfl)) (by unfold Func.isWrapper; first | (rw [if_pos (by decide +kernel)]; kernel_rfl) | (rw [if_neg (by decide +kernel)]; exact ⟨rfl, rfl⟩))
    (fun os started H enc _ => lifted os started H enc)
theorem proved : Rows.FnExactSuspectsSaid := over
#print axioms proved
end Go.Proofs.Ytggmcgcmpgofcaa.fnExactSuspects
