/- For every input: the function Bring of the program answers as its model does, whatever its text and its number are, and its answer owns its memory. No condition. -/
import Derived.Test.YtcnigfejpfcfaaaJ15
import Derived.Test.YtcnigfejpfcfaaaRows
namespace Go.Proofs.Ytcnigfejpfcfaaa
set_option maxRecDepth 2000
open Go.ChangeShapes Go.WideShapes Go.ChangeAt Go.RowKit

theorem brS_m (s : ByteArray) (f : Int) (i : Nat) : (brS s f i).p.m ≤ 16 := pfR_le _ _ _
theorem ofy_small (S : Nat → Sy) (h : ∀ i, (S i).p.m ≤ 16) (n : Nat) : ofy 1 S n ≤ 1 + 25 * n := by
  induction n with
  | zero => exact Nat.le_refl _
  | succ n ih =>
    have := h n
    show ofy 1 S n + 9 + (S n).p.m ≤ _
    omega
set_option maxHeartbeats 4000000 in
theorem walk_FnExactBring (a0 : ByteArray) (a1 : Int) (w : World) (_w0 : a0.size ≤ maxLen) (_w1 : (Lit.int .i64 a1).wf = true) :
    Calls Try.prog 6 #[.string a0, .int .i64 a1] w fun e w' => e = .returned (.bool true) ∧ Below w.heap.size w w' := by
  clear _w0 _w1
  by_cases h1 : 1048576 < a0.size
  · have h1' : (1048576 : Int) < (a0.size : Int) := by omega
    go_enter Try.func6, Try.ntmps6
    go_wp2
    go_ret
    exact ⟨rfl, Below.refl _ _⟩
  have h1' : ¬ (1048576 : Int) < (a0.size : Int) := by omega
  have hI := fun W => bring_any a0 a1 W (by omega)
  have hS := fun W => sBring_any a0 a1 W (by omega)
  have hmP : ∀ i, (brS a0 a1 i).p.m ≤ 16 := brS_m a0 a1
  have hR : brN a0 a1 ≤ 16 := by
    unfold brN
    split
    · rename_i h
      unfold brB at h
      rw [Bool.and_eq_true] at h
      have := of_decide_eq_true h.1
      omega
    · omega
  generalize brS a0 a1 = P at hI hS hmP
  generalize brN a0 a1 = n at hI hS hR
  generalize brR a0 a1 = rt at hI hS
  generalize brB a0 a1 = okf at hI hS
  have KI : Hid (∀ W, Calls Try.prog 22 #[.string a0, .int .i64 a1] W fun e w' => ∃ g cap, e = .returned (.tuple #[.slice (some ⟨g, 0, none⟩) n cap, .string rt, .bool okf]) ∧ Ow w' W.heap.size (sysD n P) (.slice (some ⟨g, 0, none⟩) n cap) (rng W.heap.size w'.heap.size) ∧ Below W.heap.size W w') := hI
  have KS : Hid (∀ W, Calls Try.prog 21 #[.string a0, .int .i64 a1] W fun e w' => ∃ a cap, e = .returned (.tuple #[.slice a n cap, .string rt, .bool okf]) ∧ Rd w' (sysD n P) (.slice a n cap) ∧ Below W.heap.size W w') := hS
  have HM : Hid (∀ i, i < n → (P i).p.m ≤ 1000) := fun i _ => Nat.le_trans (hmP i) (by omega)
  have HM2 : Hid (∀ i, i < n → (P i).p.m ≤ 1048576) := fun i _ => Nat.le_trans (hmP i) (by omega)
  have HO : Hid (ofy 1 P n ≤ 1000000) := by have := ofy_small P hmP n; show _ ≤ _; omega
  obtain ⟨tq, HTQ⟩ : ∃ tq, Hid (ofy 1 P n = tq) := ⟨_, rfl⟩
  have hfl : (okf != okf) = false := by simp
  have hft : (rt.toList != rt.toList) = false := by simp
  have hft' := ba_beq rt
  have htq0 : ¬ ((tq : Int) < 0) := by omega
  have hqq : ((tq : Int) != (tq : Int)) = false := by simp
  clear hI hS hmP
  go_enter Try.func6, Try.ntmps6
  go_wp2_with fail
  refine Calls.mono (KS.out _) ?_
  rintro e v1 ⟨aS, cS, rfl, RS, b1⟩
  have PS1 : Hid (Rd v1 (sysD n P) (.slice aS n cS)) := RS
  clear RS
  go_wp2_with fail
  refine Calls.mono (KI.out _) ?_
  rintro e v2 ⟨gI, cI, rfl, OI, b2⟩
  have PS2 : Hid (Rd v2 (sysD n P) (.slice aS n cS)) := PS1.out.below b2
  have PI2 : Hid (Rd v2 (sysD n P) (.slice (some ⟨gI, 0, none⟩) n cI)) := OI.rd
  have OI2 : Hid (Ow v2 v1.heap.size (sysD n P) (.slice (some ⟨gI, 0, none⟩) n cI) (rng v1.heap.size v2.heap.size)) := OI
  have B2 : Hid (Below w.heap.size w v1 ∧ Below v1.heap.size v1 v2) := ⟨b1, b2⟩
  clear b1 b2 OI
  go_wp2_with fail
  refine Calls.mono (eqSys_same _ _ n cI cS P _ PI2.out PS2.out (by omega) HM2.out) ?_
  rintro e v3 ⟨rfl, b3⟩
  have OI3 : Hid (Ow v3 v1.heap.size (sysD n P) (.slice (some ⟨gI, 0, none⟩) n cI) (rng v1.heap.size v2.heap.size)) := OI2.out.below b3
  have B3 : Hid (Below w.heap.size w v1 ∧ Below v1.heap.size v1 v3) := ⟨B2.out.1, below2 B2.out.2 b3⟩
  clear b3 OI2 B2 PI2 PS2
  have KM : Hid (Calls Try.prog 24 #[.slice (some ⟨gI, 0, none⟩) n cI, .int .i64 ((1 : Nat) : Int)] v3 fun e w' => e = .returned (.int .i64 (tq : Int)) ∧ Ow w' v1.heap.size (sysD n (mkdY 1 P)) (.slice (some ⟨gI, 0, none⟩) n cI) (rng v1.heap.size v2.heap.size) ∧ Trn v3 w' (rng v1.heap.size v2.heap.size)) := by
    have := markSys_any v1.heap.size gI n cI (rng v1.heap.size v2.heap.size) P 1 v3 OI3.out (by omega) HM.out HO.out
    rw [HTQ.out] at this
    exact this
  have KH : Hid (∀ W, Rd W (sysD n (mkdY 1 P)) (.slice (some ⟨gI, 0, none⟩) n cI) → Calls Try.prog 25 #[.slice (some ⟨gI, 0, none⟩) n cI, .int .i64 ((1 : Nat) : Int)] W fun e w' => e = .returned (.int .i64 (tq : Int)) ∧ Below W.heap.size W w') := fun W hW => by
    have := heldSys_any (some ⟨gI, 0, none⟩) n cI P 1 W hW (by omega) HM.out HO.out
    rw [HTQ.out] at this
    exact this
  go_wp2_with fail
  refine Calls.mono KM.out ?_
  rintro e v4 ⟨rfl, O4, t4⟩
  have PM4 : Hid (Rd v4 (sysD n (mkdY 1 P)) (.slice (some ⟨gI, 0, none⟩) n cI)) := O4.rd
  have B4 : Hid (Below w.heap.size w v1 ∧ Below v1.heap.size v1 v4) := ⟨B3.out.1, B3.out.2.trans (t4.below (fun g hg => hg.1) B3.out.2.size)⟩
  clear O4 t4 KM OI3 B3
  go_wp2_with fail
  refine Calls.mono (KH.out _ PM4.out) ?_
  rintro e v5 ⟨rfl, b5⟩
  have PM5 : Hid (Rd v5 (sysD n (mkdY 1 P)) (.slice (some ⟨gI, 0, none⟩) n cI)) := PM4.out.below b5
  have B5 : Hid (Below w.heap.size w v1 ∧ Below v1.heap.size v1 v5) := ⟨B4.out.1, below2 B4.out.2 b5⟩
  clear b5 PM4 B4
  go_wp2_with fail
  refine Calls.mono (KI.out _) ?_
  rintro e v6 ⟨gH, cH, rfl, OH, b6⟩
  have PM6 : Hid (Rd v6 (sysD n (mkdY 1 P)) (.slice (some ⟨gI, 0, none⟩) n cI)) := PM5.out.below b6
  have B6 : Hid (Below w.heap.size w v1 ∧ Below v1.heap.size v1 v6) := ⟨B5.out.1, below2 B5.out.2 b6⟩
  have PH6 : Hid (Rd v6 (sysD n P) (.slice (some ⟨gH, 0, none⟩) n cH)) := OH.rd
  have PS6 : Hid (Rd v6 (sysD n P) (.slice aS n cS)) := PS1.out.below B6.out.2
  clear b6 PM5 B5 OH
  go_wp2_with fail
  refine Calls.mono (eqSys_same _ _ n cH cS P _ PH6.out PS6.out (by omega) HM2.out) ?_
  rintro e v7 ⟨rfl, b7⟩
  have PM7 : Hid (Rd v7 (sysD n (mkdY 1 P)) (.slice (some ⟨gI, 0, none⟩) n cI)) := PM6.out.below b7
  have B7 : Hid (Below w.heap.size w v1 ∧ Below v1.heap.size v1 v7) := ⟨B6.out.1, below2 B6.out.2 b7⟩
  clear b7 PM6 B6 PH6 PS6
  go_wp2_with fail
  refine Calls.mono (KH.out _ PM7.out) ?_
  rintro e v8 ⟨rfl, b8⟩
  have B8 : Hid (Below w.heap.size w v8) := below2 B7.out.1 (below2 B7.out.2 b8)
  clear b8
  go_wp2
  go_ret
  exact ⟨rfl, B8.out⟩
end Go.Proofs.Ytcnigfejpfcfaaa
namespace Go.Proofs.Ytcnigfejpfcfaaa.fnExactBring
open Go.ChangeShapes Go.WideShapes Go.ChangeAt Go.RowKit
open Go.ChangeMaps (open_string shut_string)
set_option linter.unusedVariables false
theorem own : ownKnob Try.prog.godebug = none := by kernel_rfl
set_option maxRecDepth 100000 in
theorem lifted (os : Os) (started : os.Started) (H : Type) (enc : TypeId × Value → H) :
    ReturnsInHanded {} Try.checked os 6 .any (Rows.fnExactBringSpec.pre6 enc Try.prog Try.f6 Rows.fnExactBringRow.domain false) (Rows.fnExactBringSpec.post enc Try.prog Try.f6 false true false false) := by
  refine returnsInHanded_of_change (C := Try.checked) own started (by kernel_rfl) Try.func6
    (ChangeSpec.witness6 (enc := enc) (C := Try.checked) false ⟨#[], #[.string ByteArray.empty, .int .i64 0], []⟩ 8 (by kernel_rfl) (by kernel_rfl) (by kernel_rfl) (by kernel_rfl)) ?_
  intro W base args ds gs before hval0 hW hcnd _
  have hval : ∀ (j : Nat) t v, Try.f6.params[j]? = some t → args[j]? = some v → Value.okWide Try.prog W .any base t v := hval0
  have hW' := hW
  obtain ⟨p, q, hA0, hV, rfl, hfz, hnd⟩ := hW
  have hA : DataW.TrodAll enc Try.prog W 0 (fun _ => true) true Try.f6.params.toList args.toList ds p := hA0
  rw [Try.params6] at hA hval
  obtain ⟨v0, vs0, d0, ds0, p0, q0, hargs, rfl, rfl, h0, r0⟩ := trodAll_cons hA
  obtain ⟨v1, vs1, d1, ds1, p1, q1, rfl, rfl, rfl, h1, r1⟩ := trodAll_cons r0
  obtain ⟨rfl, rfl, rfl⟩ := trodAll_nil r1
  obtain rfl : args = #[v0, v1] := by cases args; simp_all
  obtain ⟨rfl, rfl⟩ := trodVars_none hV
  obtain ⟨a0, rfl, rfl, rfl, w0⟩ := open_string Try.underlying9 (hval 0 9 v0 rfl rfl) h0
  obtain ⟨a1, rfl, rfl, rfl, w1⟩ := open_int Try.underlying3 (hval 1 3 v1 rfl rfl) h1
  clear hA0 hval0
  simp only [List.append_nil] at hW'
  refine (walk_FnExactBring a0 a1 W w0 w1).mono fun e W' ⟨he, bel⟩ => ?_
  subst he
  exact ⟨_, rfl, _, _, _, [], [], [], hW', trodAll_mk1 (shut_bool Try.underlying4 _), (trodAll_cons_mk (shut_string Try.underlying9 w0) (trodAll_cons_mk (shut_int Try.underlying3 w1) trodAll_mk0)), rfl, bel.frame _, fun h => by cases h⟩
theorem over : Rows.fnExactBringRow.holds Try.pinned (OpenSpec.ofChange Rows.fnExactBringSpec) :=
  OpenClaim.holds_of_wide 6 Try.f6 rfl rfl rfl rfl rfl rfl rfl ⟨rfl, rfl, rfl, rfl, rfl⟩ rfl rfl rfl rfl rfl (by kernel_rfl) Try.func6 (by kernel_rfl)
    (of_decide_eq_true (by kernel_rfl)) (by unfold Func.isWrapper; first | (rw [if_pos (by decide +kernel)]; kernel_rfl) | (rw [if_neg (by decide +kernel)]; exact ⟨rfl, rfl⟩))
    (fun os started H enc _ => lifted os started H enc)
theorem proved : Rows.FnExactBringSaid := over
#print axioms proved
end Go.Proofs.Ytcnigfejpfcfaaa.fnExactBring
