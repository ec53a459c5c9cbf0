/- For every input: the function Cut of the program answers as its model does, whatever its text and its two numbers are, and its answer owns its memory. No condition. -/
import Derived.Test.YtahgdbmilflcmaaQVHeld
import Derived.Test.YtahgdbmilflcmaaRows
namespace Go.Proofs.Ytahgdbmilflcmaa
set_option maxRecDepth 2000
open Go.ChangeShapes Go.WideShapes Go.ChangeAt Go.RowKit

theorem cutP_m (k : Int) (n : Nat) (S : Nat → ByteArray) (i : Nat) : (cutP k n S i).m ≤ 16 := pfR_le _ _ _
theorem ofs_small (P : Nat → Pc) (h : ∀ i, (P i).m ≤ 16) (n : Nat) : ofs 1 P n ≤ 1 + 21 * n := by
  induction n with
  | zero => exact Nat.le_refl _
  | succ n ih =>
    have := h n
    show ofs 1 P n + 5 + (P n).m ≤ _
    omega
set_option maxHeartbeats 4000000 in
theorem walk_FnExactCut (a0 : ByteArray) (a1 a2 : Int) (w : World) (_w0 : a0.size ≤ maxLen) (_w1 : (Lit.int .i64 a1).wf = true) (_w2 : (Lit.int .i64 a2).wf = true) :
    Calls Try.prog 5 #[.string a0, .int .i64 a1, .int .i64 a2] w fun e w' => e = .returned (.bool true) ∧ Below w.heap.size w w' := by
  clear _w0 _w1 _w2
  by_cases h1 : 1048576 < a0.size
  · have h1' : (1048576 : Int) < (a0.size : Int) := by omega
    go_enter Try.func5, Try.ntmps5
    go_wp2
    go_ret
    exact ⟨rfl, Below.refl _ _⟩
  have h1' : ¬ (1048576 : Int) < (a0.size : Int) := by omega
  have hI := fun W => pcut_any a0 a1 a2 W (by omega)
  have hS := fun W => sCut_any a0 a1 a2 W (by omega)
  have hmP : ∀ i, (cutP a1 a2.toNat (encS a0 a1.toNat) i).m ≤ 16 := cutP_m _ _ _
  have hR : cutR a0 a1 a2 ≤ 16 := by
    unfold cutR
    split
    · rename_i h
      have := encOk_parts h
      omega
    · omega
  generalize cutP a1 a2.toNat (encS a0 a1.toNat) = P at hI hS hmP
  generalize cutR a0 a1 a2 = n at hI hS hR
  generalize encOk a0 a1 a2 = okf at hI hS
  have KI : Hid (∀ W, Calls Try.prog 24 #[.string a0, .int .i64 a1, .int .i64 a2] W fun e w' => ∃ v, e = .returned (.tuple #[v, .bool okf]) ∧ ResP W w' v n P ∧ Below W.heap.size W w') := hI
  have KS : Hid (∀ W, Calls Try.prog 23 #[.string a0, .int .i64 a1, .int .i64 a2] W fun e w' => ∃ v, e = .returned (.tuple #[v, .bool okf]) ∧ ResP W w' v n P ∧ Below W.heap.size W w') := hS
  have HM : Hid (∀ i, i < n → (P i).m ≤ 1000) := fun i _ => by have := hmP i; omega
  have HM2 : Hid (∀ i, i < n → (P i).m ≤ 1048576) := fun i _ => by have := hmP i; omega
  have HO : Hid (ofs 1 P n ≤ 1000000) := by have := ofs_small P hmP n; show _ ≤ _; omega
  obtain ⟨tq, HTQ⟩ : ∃ tq, Hid (ofs 1 P n = tq) := ⟨_, rfl⟩
  have hfl : (okf != okf) = false := by simp
  have htq0 : ¬ ((tq : Int) < 0) := by omega
  have hqq : ((tq : Int) != (tq : Int)) = false := by simp
  clear hI hS hmP
  go_enter Try.func5, Try.ntmps5
  go_wp2_with fail
  refine Calls.mono (KS.out _) ?_
  rintro e v1 ⟨u1, rfl, ⟨gS, cS, AS, CS, rfl, OS⟩, b1⟩
  have PS1 : Hid (PiAt v1 (some ⟨gS, 0, none⟩) n P) := OS.at
  clear OS
  go_wp2_with fail
  refine Calls.mono (KI.out _) ?_
  rintro e v2 ⟨u2, rfl, ⟨gI, cI, AI, CI, rfl, OI⟩, b2⟩
  have PS2 : Hid (PiAt v2 (some ⟨gS, 0, none⟩) n P) := PS1.out.below b2
  have PI2 : Hid (PiAt v2 (some ⟨gI, 0, none⟩) n P) := OI.at
  have OI2 : Hid (OwnP v2 v1.heap.size (some ⟨gI, 0, none⟩) n cI AI CI P) := OI
  have B2 : Hid (Below w.heap.size w v1 ∧ Below v1.heap.size v1 v2) := ⟨b1, b2⟩
  clear b1 b2 OI
  go_wp2_with fail
  refine Calls.mono (eqPs_same _ _ n cI cS P _ PI2.out PS2.out (by omega) HM2.out) ?_
  rintro e v3 ⟨rfl, b3⟩
  have OI3 : Hid (OwnP v3 v1.heap.size (some ⟨gI, 0, none⟩) n cI AI CI P) := OI2.out.below b3
  have B3 : Hid (Below w.heap.size w v1 ∧ Below v1.heap.size v1 v3) := ⟨B2.out.1, below2 B2.out.2 b3⟩
  clear b3 OI2 B2 PI2 PS2
  have KM : Hid (Calls Try.prog 26 #[.slice (some ⟨gI, 0, none⟩) n cI, .int .i64 ((1 : Nat) : Int)] v3 fun e w' => e = .returned (.int .i64 (tq : Int)) ∧ OwnP w' v1.heap.size (some ⟨gI, 0, none⟩) n cI AI CI (mkd 1 P) ∧ Below v1.heap.size v3 w') := by
    have := markP_any v1.heap.size gI n cI AI CI P 1 v3 OI3.out B3.out.2.size (by omega) HM.out HO.out
    rw [HTQ.out] at this
    exact this
  have KH : Hid (∀ W, PiAt W (some ⟨gI, 0, none⟩) n (mkd 1 P) → Calls Try.prog 27 #[.slice (some ⟨gI, 0, none⟩) n cI, .int .i64 ((1 : Nat) : Int)] W fun e w' => e = .returned (.int .i64 (tq : Int)) ∧ Below W.heap.size W w') := fun W hW => by
    have := heldP_any gI n cI P 1 W hW (by omega) HM.out HO.out
    rw [HTQ.out] at this
    exact this
  go_wp2_with fail
  refine Calls.mono KM.out ?_
  rintro e v4 ⟨rfl, O4, b4⟩
  have PM4 : Hid (PiAt v4 (some ⟨gI, 0, none⟩) n (mkd 1 P)) := O4.at
  have B4 : Hid (Below w.heap.size w v1 ∧ Below v1.heap.size v1 v4) := ⟨B3.out.1, B3.out.2.trans b4⟩
  clear O4 b4 KM OI3 B3
  go_wp2_with fail
  refine Calls.mono (KH.out _ PM4.out) ?_
  rintro e v5 ⟨rfl, b5⟩
  have PM5 : Hid (PiAt v5 (some ⟨gI, 0, none⟩) n (mkd 1 P)) := PM4.out.below b5
  have B5 : Hid (Below w.heap.size w v1 ∧ Below v1.heap.size v1 v5) := ⟨B4.out.1, below2 B4.out.2 b5⟩
  clear b5 PM4 B4
  go_wp2_with fail
  refine Calls.mono (KI.out _) ?_
  rintro e v6 ⟨u6, rfl, ⟨gH, cH, AH, CH, rfl, OH⟩, b6⟩
  have PM6 : Hid (PiAt v6 (some ⟨gI, 0, none⟩) n (mkd 1 P)) := PM5.out.below b6
  have B6 : Hid (Below w.heap.size w v1 ∧ Below v1.heap.size v1 v6) := ⟨B5.out.1, below2 B5.out.2 b6⟩
  have PH6 : Hid (PiAt v6 (some ⟨gH, 0, none⟩) n P) := OH.at
  have PS6 : Hid (PiAt v6 (some ⟨gS, 0, none⟩) n P) := PS1.out.below B6.out.2
  clear b6 PM5 B5 OH
  go_wp2_with fail
  refine Calls.mono (eqPs_same _ _ n cH cS P _ PH6.out PS6.out (by omega) HM2.out) ?_
  rintro e v7 ⟨rfl, b7⟩
  have PM7 : Hid (PiAt v7 (some ⟨gI, 0, none⟩) n (mkd 1 P)) := PM6.out.below b7
  have B7 : Hid (Below w.heap.size w v1 ∧ Below v1.heap.size v1 v7) := ⟨B6.out.1, below2 B6.out.2 b7⟩
  clear b7 PM6 B6 PH6 PS6
  go_wp2_with fail
  refine Calls.mono (KH.out _ PM7.out) ?_
  rintro e v8 ⟨rfl, b8⟩
  have B8 : Hid (Below w.heap.size w v8) := below2 B7.out.1 (below2 B7.out.2 b8)
  clear b8
  go_wp2
  go_ret
  exact ⟨rfl, B8.out⟩
end Go.Proofs.Ytahgdbmilflcmaa
namespace Go.Proofs.Ytahgdbmilflcmaa.fnExactCut
open Go.ChangeShapes Go.WideShapes Go.ChangeAt Go.RowKit
open Go.ChangeMaps (open_string shut_string)
set_option linter.unusedVariables false
theorem own : ownKnob Try.prog.godebug = none := by kernel_rfl
set_option maxRecDepth 100000 in
theorem lifted (os : Os) (started : os.Started) (H : Type) (enc : TypeId × Value → H) :
    ReturnsInHanded {} Try.checked os 5 .any (Rows.fnExactCutSpec.pre6 enc Try.prog Try.f5 Rows.fnExactCutRow.domain false) (Rows.fnExactCutSpec.post enc Try.prog Try.f5 false true false false) := by
  refine returnsInHanded_of_change (C := Try.checked) own started (by kernel_rfl) Try.func5
    (ChangeSpec.witness6 (enc := enc) (C := Try.checked) false ⟨#[], #[.string ByteArray.empty, .int .i64 0, .int .i64 0], []⟩ 8 (by kernel_rfl) (by kernel_rfl) (by kernel_rfl) (by kernel_rfl)) ?_
  intro W base args ds gs before hval0 hW hcnd _
  have hval : ∀ (j : Nat) t v, Try.f5.params[j]? = some t → args[j]? = some v → Value.okWide Try.prog W .any base t v := hval0
  have hW' := hW
  obtain ⟨p, q, hA0, hV, rfl, hfz, hnd⟩ := hW
  have hA : DataW.TrodAll enc Try.prog W 0 (fun _ => true) true Try.f5.params.toList args.toList ds p := hA0
  rw [Try.params5] at hA hval
  obtain ⟨v0, vs0, d0, ds0, p0, q0, hargs, rfl, rfl, h0, r0⟩ := trodAll_cons hA
  obtain ⟨v1, vs1, d1, ds1, p1, q1, rfl, rfl, rfl, h1, r1⟩ := trodAll_cons r0
  obtain ⟨v2, vs2, d2, ds2, p2, q2, rfl, rfl, rfl, h2, r2⟩ := trodAll_cons r1
  obtain ⟨rfl, rfl, rfl⟩ := trodAll_nil r2
  obtain rfl : args = #[v0, v1, v2] := by cases args; simp_all
  obtain ⟨rfl, rfl⟩ := trodVars_none hV
  obtain ⟨a0, rfl, rfl, rfl, w0⟩ := open_string Try.underlying9 (hval 0 9 v0 rfl rfl) h0
  obtain ⟨a1, rfl, rfl, rfl, w1⟩ := open_int Try.underlying3 (hval 1 3 v1 rfl rfl) h1
  obtain ⟨a2, rfl, rfl, rfl, w2⟩ := open_int Try.underlying3 (hval 2 3 v2 rfl rfl) h2
  clear hA0 hval0
  simp only [List.append_nil] at hW'
  refine (walk_FnExactCut a0 a1 a2 W w0 w1 w2).mono fun e W' ⟨he, bel⟩ => ?_
  subst he
  exact ⟨_, rfl, _, _, _, [], [], [], hW', trodAll_mk1 (shut_bool Try.underlying4 _), (trodAll_cons_mk (shut_string Try.underlying9 w0) (trodAll_cons_mk (shut_int Try.underlying3 w1) (trodAll_cons_mk (shut_int Try.underlying3 w2) trodAll_mk0))), rfl, bel.frame _, fun h => by cases h⟩
theorem over : Rows.fnExactCutRow.holds Try.pinned (OpenSpec.ofChange Rows.fnExactCutSpec) :=
  OpenClaim.holds_of_wide 5 Try.f5 rfl rfl rfl rfl rfl rfl rfl ⟨rfl, rfl, rfl, rfl, rfl⟩ rfl rfl rfl rfl rfl (by kernel_rfl) Try.func5 (by kernel_rfl)
    (of_decide_eq_true (by kernel_rfl)) (by unfold Func.isWrapper; first | (rw [if_pos (by decide +kernel)]; kernel_rfl) | (rw [if_neg (by decide +kernel)]; exact ⟨rfl, rfl⟩))
    (fun os started H enc _ => lifted os started H enc)
theorem proved : Rows.FnExactCutSaid := over
#print axioms proved
end Go.Proofs.Ytahgdbmilflcmaa.fnExactCut
