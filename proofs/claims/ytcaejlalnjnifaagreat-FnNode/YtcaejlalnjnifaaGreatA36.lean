import Derived.Test.YtcaejlalnjnifaaGreatA32
import Derived.Lib.QuietBelow
import Derived.BigQuiet
import Derived.Deep.CutRange
set_option maxHeartbeats 8000000
set_option maxRecDepth 2000
namespace Go.Proofs.YtcaejlalnjnifaaGreat
open Go.ChangeShapes Go.WideShapes Go.ChangeAt Go.RowKit Go.Sort
theorem sNodeOk_any (id f : Int) (a : Option Addr) (n cap : Nat) (S : Nat → Sl) (w : World) (h : Rd w (slsD n S) (.slice a n cap)) (hn : n ≤ 1048576) (hs : ∀ i, i < n → SlN (S i)) :
  Calls Tryz.prog 14 #[ndV id f (.slice a n cap)] w fun e w' => e = .returned (.bool (ndB id f n S)) ∧ Below w.heap.size w w' := by
 obtain ⟨A, HA⟩ : ∃ x, Hid (x = w.heap.size) := ⟨_, rfl⟩
 obtain ⟨w0, HW0⟩ : ∃ x, Hid (x = w.alloc (.cells #[.int .i64 id, .int .i64 f, .slice a n cap] 26)) := ⟨_, rfl⟩
 have HR : Hid (Row w0 A 26 #[.int .i64 id, .int .i64 f, .slice a n cap]) := by show Row _ _ _ _; rw [HW0.out, HA.out]; exact Row.new w _ _
 have b0 : Below w.heap.size w w0 := by rw [HW0.out]; exact (Below.refl _ _).alloc (Nat.le_refl _) _
 have KB0 : Hid (Below w.heap.size w w0) := b0
 have KH : Hid (Rd w0 (slsD n S) (.slice a n cap)) := h.below b0
 have KN : Hid (∀ i, i < n → SlN (S i)) := hs
 have x0 := HR.out.cell 0
 have x1 := HR.out.cell 1
 have x2 := HR.out.cell 2
 simp at x0 x1 x2
 clear h b0 hs
 by_cases hf : 1 ≤ f ∧ f ≤ 3
 case neg =>
  have i1 : inB f 1 3 = false := decide_eq_false hf
  rw [ndB_no (fun h => hf (seB_f h.1))]
  go_enter Tryz.func14, Tryz.ntmps14
  go_wp2_with fail
  rw [← HW0.out, ← HA.out]
  go_quiet ((go_at_call 43; exact Calls.quiet_of_same (sIn_any _ _ _ _)))
  go_wp2
  go_ret
  exact ⟨rfl, below_drewN KB0.out _⟩
 have i1 : inB f 1 3 = true := decide_eq_true hf
 have HF : Hid (1 ≤ f ∧ f ≤ 3) := hf
 have KA : Hid (∀ W, Calls Tryz.prog 50 #[.int .i64 f] W fun e w' => e = .returned (.int .i64 (3 * f + 1)) ∧ w' = W) := fun W => sAllN_any f W hf
 obtain ⟨m, HM⟩ : ∃ m : Int, Hid (3 * f + 1 = m) := ⟨_, rfl⟩
 rw [HM.out] at KA
 have em : IntKind.i64.wrap (m - 1) = 3 * f := by have := HM.out; rw [IntKind.wrap_i64]; omega
 obtain ⟨m1, HM1⟩ : ∃ m1 : Int, Hid (3 * f = m1) := ⟨_, rfl⟩
 rw [HM1.out] at em
 have e20 : IntKind.i64.wrap (2 * f) = 2 * f := by rw [IntKind.wrap_i64]; omega
 obtain ⟨x, HX⟩ : ∃ x : Int, Hid (2 * f + 1 = x) := ⟨_, rfl⟩
 have e21 : IntKind.i64.wrap (2 * f + 1) = x := by have := HX.out; rw [IntKind.wrap_i64]; omega
 obtain ⟨y, HY⟩ : ∃ y : Int, Hid (f + 1 = y) := ⟨_, rfl⟩
 have e11 : IntKind.i64.wrap (f + 1) = y := by have := HY.out; rw [IntKind.wrap_i64]; omega
 clear hf
 cases hse : seB id f with
 | false =>
  have i2 : inB id 0 m1 = false := by
   have := HM1.out
   have := HF.out
   have := of_decide_eq_false hse
   unfold inB
   exact decide_eq_false (by omega)
  rw [ndB_no (fun h => by have := h.1; rw [hse] at this; cases this)]
  go_enter Tryz.func14, Tryz.ntmps14
  go_wp2_with fail
  rw [← HW0.out, ← HA.out]
  go_quiet (first | (go_at_call 50; exact Calls.quiet_of_same (KA.out _)) | (go_at_call 43; exact Calls.quiet_of_same (sIn_any _ _ _ _)))
  go_wp2
  go_ret
  exact ⟨rfl, below_drewN KB0.out _⟩
 | true =>
 have i2 : inB id 0 m1 = true := by
  have := HM1.out
  have := HF.out
  have := of_decide_eq_true hse
  unfold inB
  exact decide_eq_true (by omega)
 have HSE : Hid (seB id f = true) := hse
 clear hse
 by_cases h40 : n ≤ 40
 case neg =>
  rw [ndB_no (fun h => h40 h.2.1)]
  have h40' : (n : Int) > 40 := by omega
  go_enter Tryz.func14, Tryz.ntmps14
  go_wp2_with fail
  rw [← HW0.out, ← HA.out]
  go_quiet (first | (go_at_call 50; exact Calls.quiet_of_same (KA.out _)) | (go_at_call 43; exact Calls.quiet_of_same (sIn_any _ _ _ _)))
  go_wp2
  go_ret
  exact ⟨rfl, below_drewN KB0.out _⟩
 have h40' : ¬ (n : Int) > 40 := by omega
 go_enter Tryz.func14, Tryz.ntmps14
 go_wp2_with fail
 rw [← HW0.out, ← HA.out]
 go_quiet (first | (go_at_call 50; exact Calls.quiet_of_same (KA.out _)) | (go_at_call 43; exact Calls.quiet_of_same (sIn_any _ _ _ _)))
 go_wp2_with fail
 clear i1 i2 em KA HM HM1 h40'
 go_loopw [3] (fun vi wr => ∃ k : Nat, k ≤ n ∧ vi = .int .i64 (k : Int) ∧ Hid (∀ i, i < k → SlotP id f (S i) ∧ ∀ j, j < i → (S j).r ≠ (S i).r) ∧ Below w0.heap.size w0 wr) (fun vi _ => n - (intOf vi).toNat)
 case atStart => exact ⟨0, Nat.zero_le _, rfl, fun i hi => absurd hi (Nat.not_lt_zero _), below_drewN (Below.refl _ _) _⟩
 case round =>
  obtain ⟨k, hk, rfl, HP, hbel⟩ := hrel
  have lA := (HR.out.below hbel HR.out.lt).lt
  replace x0 := (hbel.cell (p := ⟨A, 0, none⟩) HR.out.lt).trans x0
  replace x1 := (hbel.cell (p := ⟨A, 1, none⟩) HR.out.lt).trans x1
  replace x2 := (hbel.cell (p := ⟨A, 2, none⟩) HR.out.lt).trans x2
  by_cases hlt : k < n
  case neg =>
   obtain rfl : k = n := by omega
   have HY : Hid (ndB id f k S = true) := ndB_yes ⟨HSE.out, h40, HP.out⟩
   go_wp2
   go_ret
   exact ⟨ret_bool HY.out.symm, below2 KB0.out hbel⟩
  have hki : (k : Int) < (n : Int) := by omega
  obtain ⟨b1, f1, p6, p11, p12, q6, q11, q12, rfl, R1, t6, t11, t12⟩ := slot_at (KH.out.below hbel) hlt
  have R1 : Hid _ := R1
  obtain ⟨B2, HB2⟩ : ∃ x, Hid (x = wr.heap.size) := ⟨_, rfl⟩
  obtain ⟨w2, HW2⟩ : ∃ x, Hid (x = wr.alloc (.cells (slC (S k) (.slice p6 (S k).p.m q6) (.slice p11 (S k).ze.length q11) (.slice p12 (S k).zr.length q12)) 42)) := ⟨_, rfl⟩
  have b2 : Below wr.heap.size wr w2 := by rw [HW2.out]; exact (Below.refl _ _).alloc (Nat.le_refl _) _
  have HR2 : Hid (Row w2 B2 42 (slC (S k) (.slice p6 (S k).p.m q6) (.slice p11 (S k).ze.length q11) (.slice p12 (S k).zr.length q12))) := by show Row _ _ _ _; rw [HW2.out, HB2.out]; exact Row.new wr _ _
  have KB2 : Hid (Below w0.heap.size w0 w2) := below2 hbel b2
  obtain ⟨c1, HC1⟩ : ∃ x, Hid (decide ((S k).r.size = 16) = x) := ⟨_, rfl⟩
  obtain ⟨c2, HC2⟩ : ∃ x, Hid (numB f (S k).ze = x) := ⟨_, rfl⟩
  obtain ⟨c3, HC3⟩ : ∃ x, Hid (numB f (S k).zr = x) := ⟨_, rfl⟩
  obtain ⟨cm, HCM⟩ : ∃ x, Hid (mineB (S k).r id f (S k).p.r (S k).p.k (S k).p.n (S k).p.i (S k).p.b (S k).p.m (S k).p.S = x) := ⟨_, rfl⟩
  obtain ⟨ch, HCH⟩ : ∃ x, Hid ((S k).h = x) := ⟨_, rfl⟩
  obtain ⟨ce, HCE⟩ : ∃ x, Hid ((S k).e = x) := ⟨_, rfl⟩
  obtain ⟨cd, HCD⟩ : ∃ x, Hid ((S k).d = x) := ⟨_, rfl⟩
  obtain ⟨co, HCO⟩ : ∃ x, Hid ((S k).o = x) := ⟨_, rfl⟩
  have N1 : ∀ d os, Calls Tryz.prog 60 #[.slice p11 (S k).ze.length q11, .int .i64 f] (grow (redrawn w2 d) os) fun e w' => e = .returned (.bool c2) ∧ ∃ p : Regrown, w' = grow (redrawn w2 p.d) p.os := fun d os => Calls.regrown_of (by have := sNums_any f p11 _ q11 (S k).ze (grow (redrawn w2 d) os) ((t11.below b2).below (below_regrown w2 d os)) HF.out (KN.out k hlt).ne; rw [HC2.out] at this; exact this)
  have N2 : ∀ d os, Calls Tryz.prog 60 #[.slice p12 (S k).zr.length q12, .int .i64 f] (grow (redrawn w2 d) os) fun e w' => e = .returned (.bool c3) ∧ ∃ p : Regrown, w' = grow (redrawn w2 p.d) p.os := fun d os => Calls.regrown_of (by have := sNums_any f p12 _ q12 (S k).zr (grow (redrawn w2 d) os) ((t12.below b2).below (below_regrown w2 d os)) HF.out (KN.out k hlt).nr; rw [HC3.out] at this; exact this)
  have N3 : ∀ d os, Calls Tryz.prog 51 #[pcV (S k).p.r (S k).p.k (S k).p.n (S k).p.i (S k).p.b (.slice p6 (S k).p.m q6), .string (S k).r, .int .i64 id, .int .i64 f] (grow (redrawn w2 d) os) fun e w' => e = .returned (.bool cm) ∧ ∃ p : Regrown, w' = grow (redrawn w2 p.d) p.os := fun d os => Calls.regrown_of (by have := sMine_any (S k).r id f (S k).p.r (S k).p.k (S k).p.n (S k).p.i (S k).p.b p6 (S k).p.m q6 (S k).p.S (grow (redrawn w2 d) os) ((t6.below b2).below (below_regrown w2 d os)) HF.out (KN.out k hlt).m (KN.out k hlt).tx; rw [HCM.out] at this; exact this)
  have HLT : Hid (k < n) := hlt
  have KN1 : Hid _ := N1
  have KN2 : Hid _ := N2
  have KN3 : Hid _ := N3
  clear N1 N2 N3 t6 t11 t12 b2 hbel
  go_wp2_with (refine wpList_load_mid (by rfl) 42 _ (by rfl) b1 (f1 + k * 13) (by rfl) (slL (S k) (.slice p6 (S k).p.m q6) (.slice p11 (S k).ze.length q11) (.slice p12 (S k).zr.length q12)) _ ?_ Tryz.underlying42 (by rfl) Tryz.infoSl ?_; exact R1.out)
  rw [← HW2.out, ← HB2.out]
  have RA := HR.out.below KB2.out HR.out.lt
  have y0 := RA.cell 0
  have y1 := RA.cell 1
  have y2 := RA.cell 2
  have z0 := HR2.out.cell 0
  have z1 := HR2.out.cell 1
  have z2 := HR2.out.cell 2
  have z3 := HR2.out.cell 3
  have z4 := HR2.out.cell 4
  have z5 := HR2.out.cell 5
  have z6 := HR2.out.cell 6
  have z7 := HR2.out.cell 7
  have z8 := HR2.out.cell 8
  have z9 := HR2.out.cell 9
  have z10 := HR2.out.cell 10
  have z11 := HR2.out.cell 11
  have z12 := HR2.out.cell 12
  simp at y0 y1 y2 z0 z1 z2 z3 z4 z5 z6 z7 z8 z9 z10 z11 z12
  rw [HCH.out] at z7
  rw [HCE.out] at z8
  rw [HCD.out] at z9
  rw [HCO.out] at z10
  clear RA R1 x0 x1 x2
  go_cut [89] from 26 to 140 (fun v wx => Hid (v = .bool (!g7 c1 c2 c3 ch cm ce cd co) ∧ Below w2.heap.size w2 wx))
  case first =>
   have Y0 : ∀ d os, (grow (redrawn w2 d) os).cell? ⟨A, 0, none⟩ = _ := fun d os => cell_regrown y0 d os
   have Y1 : ∀ d os, (grow (redrawn w2 d) os).cell? ⟨A, 1, none⟩ = _ := fun d os => cell_regrown y1 d os
   have Z0 : ∀ d os, (grow (redrawn w2 d) os).cell? ⟨B2, 0, none⟩ = _ := fun d os => cell_regrown z0 d os
   have Z1 : ∀ d os, (grow (redrawn w2 d) os).cell? ⟨B2, 1, none⟩ = _ := fun d os => cell_regrown z1 d os
   have Z2 : ∀ d os, (grow (redrawn w2 d) os).cell? ⟨B2, 2, none⟩ = _ := fun d os => cell_regrown z2 d os
   have Z3 : ∀ d os, (grow (redrawn w2 d) os).cell? ⟨B2, 3, none⟩ = _ := fun d os => cell_regrown z3 d os
   have Z4 : ∀ d os, (grow (redrawn w2 d) os).cell? ⟨B2, 4, none⟩ = _ := fun d os => cell_regrown z4 d os
   have Z5 : ∀ d os, (grow (redrawn w2 d) os).cell? ⟨B2, 5, none⟩ = _ := fun d os => cell_regrown z5 d os
   have Z6 : ∀ d os, (grow (redrawn w2 d) os).cell? ⟨B2, 6, none⟩ = _ := fun d os => cell_regrown z6 d os
   have Z7 : ∀ d os, (grow (redrawn w2 d) os).cell? ⟨B2, 7, none⟩ = _ := fun d os => cell_regrown z7 d os
   have Z8 : ∀ d os, (grow (redrawn w2 d) os).cell? ⟨B2, 8, none⟩ = _ := fun d os => cell_regrown z8 d os
   have Z9 : ∀ d os, (grow (redrawn w2 d) os).cell? ⟨B2, 9, none⟩ = _ := fun d os => cell_regrown z9 d os
   have Z10 : ∀ d os, (grow (redrawn w2 d) os).cell? ⟨B2, 10, none⟩ = _ := fun d os => cell_regrown z10 d os
   have Z11 : ∀ d os, (grow (redrawn w2 d) os).cell? ⟨B2, 11, none⟩ = _ := fun d os => cell_regrown z11 d os
   have Z12 : ∀ d os, (grow (redrawn w2 d) os).cell? ⟨B2, 12, none⟩ = _ := fun d os => cell_regrown z12 d os
   have N1 := KN1.out
   have N2 := KN2.out
   have N3 := KN3.out
   clear y0 y1 y2 z0 z1 z2 z3 z4 z5 z6 z7 z8 z9 z10 z11 z12
   cases c1 with
   | false =>
    have s1' : (((S k).r.size : Int) != 16) = true := by have := of_decide_eq_false HC1.out; simp; omega
    refine wp_region_quiet_below (by kernel_rfl) (by kernel_rfl) ?_
    repeat (go_big_quiet_step (first | (with_reducible exact N1 _ _) | (with_reducible exact N2 _ _) | (with_reducible exact N3 _ _)))
    refine wpQuiet_nil ?_
    intro _ hw'
    obtain ⟨⟨dq, osq⟩, hw''⟩ := hw'
    subst hw''
    go_wp2_with fail
    go_meet
    exact ⟨rfl, below_regrown w2 dq osq⟩
   | true =>
   have s1' : (((S k).r.size : Int) != 16) = false := by have := of_decide_eq_true HC1.out; simp; omega
   cases c2 with
   | false =>
    refine wp_region_quiet_below (by kernel_rfl) (by kernel_rfl) ?_
    repeat (go_big_quiet_step (first | (with_reducible exact N1 _ _) | (with_reducible exact N2 _ _) | (with_reducible exact N3 _ _)))
    refine wpQuiet_nil ?_
    intro _ hw'
    obtain ⟨⟨dq, osq⟩, hw''⟩ := hw'
    subst hw''
    go_wp2_with fail
    go_meet
    exact ⟨rfl, below_regrown w2 dq osq⟩
   | true =>
   cases c3 with
   | false =>
    refine wp_region_quiet_below (by kernel_rfl) (by kernel_rfl) ?_
    repeat (go_big_quiet_step (first | (with_reducible exact N1 _ _) | (with_reducible exact N2 _ _) | (with_reducible exact N3 _ _)))
    refine wpQuiet_nil ?_
    intro _ hw'
    obtain ⟨⟨dq, osq⟩, hw''⟩ := hw'
    subst hw''
    go_wp2_with fail
    go_meet
    exact ⟨rfl, below_regrown w2 dq osq⟩
   | true =>
   cases ch with
   | false =>
    cases cm with
    | true =>
     refine wp_region_quiet_below (by kernel_rfl) (by kernel_rfl) ?_
     repeat (go_big_quiet_step (first | (with_reducible exact N1 _ _) | (with_reducible exact N2 _ _) | (with_reducible exact N3 _ _)))
     refine wpQuiet_nil ?_
     intro _ hw'
     obtain ⟨⟨dq, osq⟩, hw''⟩ := hw'
     subst hw''
     go_wp2_with fail
     go_meet
     exact ⟨congrArg Value.bool (by simp [g7]), below_regrown w2 dq osq⟩
    | false =>
     cases ce with
     | true =>
      refine wp_region_quiet_below (by kernel_rfl) (by kernel_rfl) ?_
      repeat (go_big_quiet_step (first | (with_reducible exact N1 _ _) | (with_reducible exact N2 _ _) | (with_reducible exact N3 _ _)))
      refine wpQuiet_nil ?_
      intro _ hw'
      obtain ⟨⟨dq, osq⟩, hw''⟩ := hw'
      subst hw''
      go_wp2_with fail
      go_meet
      exact ⟨congrArg Value.bool (by simp [g7]), below_regrown w2 dq osq⟩
     | false =>
      cases co with
      | false =>
       refine wp_region_quiet_below (by kernel_rfl) (by kernel_rfl) ?_
       repeat (go_big_quiet_step (first | (with_reducible exact N1 _ _) | (with_reducible exact N2 _ _) | (with_reducible exact N3 _ _)))
       refine wpQuiet_nil ?_
       intro _ hw'
       obtain ⟨⟨dq, osq⟩, hw''⟩ := hw'
       subst hw''
       go_wp2_with fail
       go_meet
       exact ⟨congrArg Value.bool (by simp [g7]), below_regrown w2 dq osq⟩
      | true =>
       refine wp_region_quiet_below (by kernel_rfl) (by kernel_rfl) ?_
       repeat (go_big_quiet_step (first | (with_reducible exact N1 _ _) | (with_reducible exact N2 _ _) | (with_reducible exact N3 _ _)))
       refine wpQuiet_nil ?_
       intro _ hw'
       obtain ⟨⟨dq, osq⟩, hw''⟩ := hw'
       subst hw''
       go_wp2_with fail
       go_meet
       exact ⟨congrArg Value.bool (by simp [g7]), below_regrown w2 dq osq⟩
   | true =>
    cases cm with
    | false =>
     refine wp_region_quiet_below (by kernel_rfl) (by kernel_rfl) ?_
     repeat (go_big_quiet_step (first | (with_reducible exact N1 _ _) | (with_reducible exact N2 _ _) | (with_reducible exact N3 _ _)))
     refine wpQuiet_nil ?_
     intro _ hw'
     obtain ⟨⟨dq, osq⟩, hw''⟩ := hw'
     subst hw''
     go_wp2_with fail
     go_meet
     exact ⟨congrArg Value.bool (by simp [g7]), below_regrown w2 dq osq⟩
    | true =>
     cases ce with
     | false =>
      cases co with
      | false =>
       refine wp_region_quiet_below (by kernel_rfl) (by kernel_rfl) ?_
       repeat (go_big_quiet_step (first | (with_reducible exact N1 _ _) | (with_reducible exact N2 _ _) | (with_reducible exact N3 _ _)))
       refine wpQuiet_nil ?_
       intro _ hw'
       obtain ⟨⟨dq, osq⟩, hw''⟩ := hw'
       subst hw''
       go_wp2_with fail
       go_meet
       exact ⟨congrArg Value.bool (by simp [g7]), below_regrown w2 dq osq⟩
      | true =>
       refine wp_region_quiet_below (by kernel_rfl) (by kernel_rfl) ?_
       repeat (go_big_quiet_step (first | (with_reducible exact N1 _ _) | (with_reducible exact N2 _ _) | (with_reducible exact N3 _ _)))
       refine wpQuiet_nil ?_
       intro _ hw'
       obtain ⟨⟨dq, osq⟩, hw''⟩ := hw'
       subst hw''
       go_wp2_with fail
       go_meet
       exact ⟨congrArg Value.bool (by simp [g7]), below_regrown w2 dq osq⟩
     | true =>
      cases co with
      | false =>
       refine wp_region_quiet_below (by kernel_rfl) (by kernel_rfl) ?_
       repeat (go_big_quiet_step (first | (with_reducible exact N1 _ _) | (with_reducible exact N2 _ _) | (with_reducible exact N3 _ _)))
       refine wpQuiet_nil ?_
       intro _ hw'
       obtain ⟨⟨dq, osq⟩, hw''⟩ := hw'
       subst hw''
       go_wp2_with fail
       go_meet
       exact ⟨congrArg Value.bool (by simp [g7]), below_regrown w2 dq osq⟩
      | true =>
       refine wp_region_quiet_below (by kernel_rfl) (by kernel_rfl) ?_
       repeat (go_big_quiet_step (first | (with_reducible exact N1 _ _) | (with_reducible exact N2 _ _) | (with_reducible exact N3 _ _)))
       refine wpQuiet_nil ?_
       intro _ hw'
       obtain ⟨⟨dq, osq⟩, hw''⟩ := hw'
       subst hw''
       go_wp2_with fail
       go_meet
       exact ⟨congrArg Value.bool (by simp [g7]), below_regrown w2 dq osq⟩
  obtain ⟨rfl, hb3⟩ := hcut.out
  clear hcut KN1 KN2 KN3
  have KB3 : Hid (Below w0.heap.size w0 wc) := below2 KB2.out hb3
  have RA := HR.out.below KB3.out HR.out.lt
  have RB := HR2.out.below hb3 HR2.out.lt
  have HRB : Hid (Row wc B2 42 (slC (S k) (.slice p6 (S k).p.m q6) (.slice p11 (S k).ze.length q11) (.slice p12 (S k).zr.length q12))) := RB
  replace y0 := RA.cell 0
  replace y1 := RA.cell 1
  replace y2 := RA.cell 2
  replace z0 := RB.cell 0
  replace z1 := RB.cell 1
  replace z2 := RB.cell 2
  replace z3 := RB.cell 3
  replace z4 := RB.cell 4
  replace z5 := RB.cell 5
  replace z6 := RB.cell 6
  replace z7 := RB.cell 7
  replace z8 := RB.cell 8
  replace z9 := RB.cell 9
  replace z10 := RB.cell 10
  replace z11 := RB.cell 11
  replace z12 := RB.cell 12
  simp at y0 y1 y2 z0 z1 z2 z3 z4 z5 z6 z7 z8 z9 z10 z11 z12
  rw [HCD.out] at z9
  rw [HCO.out] at z10
  clear RA RB hb3
  cases hg7 : g7 c1 c2 c3 ch cm ce cd co with
  | false =>
   have HN : Hid (ndB id f n S = false) := ndB_no fun h => by
    have := (gs_of_slot (h.2.2 k HLT.out).1).1
    rw [HC1.out, HC2.out, HC3.out, HCH.out, HCM.out, HCE.out, HCD.out, HCO.out, hg7] at this
    cases this
   go_wp2
   go_ret
   exact ⟨ret_bool HN.out.symm, below2 KB0.out KB3.out⟩
  | true =>
  have HG7 : Hid (g7 c1 c2 c3 ch cm ce cd co = true) := hg7
  clear hg7
  go_upto_region 9 with fail
  go_cut [126] from 26 to 140 (fun v wx => Hid (v = .bool (!g9 cd co (decide (x ≤ ((S k).ze.length : Int))) (decide (y ≤ ((S k).zr.length : Int))) (decide (x ≤ ((S k).zr.length : Int)))) ∧ wx = wc))
  case first =>
   cases cd with
   | true =>
    cases co with
    | true =>
     go_wp2
     go_meet
     exact ⟨congrArg Value.bool (by simp [g9]), rfl⟩
    | false =>
     by_cases r2 : x ≤ ((S k).zr.length : Int)
     ·go_wp2
      go_meet
      exact ⟨congrArg Value.bool (by simp [g9, r2]), rfl⟩
     ·go_wp2
      go_meet
      exact ⟨congrArg Value.bool (by simp [g9, r2]), rfl⟩
   | false =>
    by_cases r0 : x ≤ ((S k).ze.length : Int)
    ·go_wp2
     go_meet
     exact ⟨congrArg Value.bool (by simp [g9, r0]), rfl⟩
    by_cases r1 : y ≤ ((S k).zr.length : Int)
    ·go_wp2
     go_meet
     exact ⟨congrArg Value.bool (by simp [g9, r1]), rfl⟩
    cases co with
    | true =>
     go_wp2
     go_meet
     exact ⟨congrArg Value.bool (by simp [g9, r0, r1]), rfl⟩
    | false =>
     by_cases r2 : x ≤ ((S k).zr.length : Int)
     ·go_wp2
      go_meet
      exact ⟨congrArg Value.bool (by simp [g9, r2]), rfl⟩
     ·go_wp2
      go_meet
      exact ⟨congrArg Value.bool (by simp [g9, r0, r1, r2]), rfl⟩
  obtain ⟨rfl, hwc⟩ := hcut.out
  clear hcut
  subst hwc
  cases hg9 : g9 cd co (decide (x ≤ ((S k).ze.length : Int))) (decide (y ≤ ((S k).zr.length : Int))) (decide (x ≤ ((S k).zr.length : Int))) with
  | false =>
   have HN : Hid (ndB id f n S = false) := ndB_no fun h => by
    have := (gs_of_slot (h.2.2 k HLT.out).1).2
    rw [HCD.out, HCO.out, HX.out, HY.out, hg9] at this
    cases this
   go_wp2
   go_ret
   exact ⟨ret_bool HN.out.symm, below2 KB0.out KB3.out⟩
  | true =>
  have HSP : Hid (SlotP id f (S k)) := slot_of_gs (by rw [HC1.out, HC2.out, HC3.out, HCH.out, HCM.out, HCE.out, HCD.out, HCO.out]; exact HG7.out) (by rw [HCD.out, HCO.out, HX.out, HY.out]; exact hg9)
  have KHc : Hid (Rd wc (slsD n S) (.slice (some ⟨b1, f1, none⟩) n cap)) := KH.out.below KB3.out
  clear hg9 HG7 z1 z2 z3 z4 z5 z6 z7 z8 z9 z10 z11 z12
  go_wp2_with fail
  go_loopw [5] (fun vi wr => ∃ j : Nat, j ≤ k ∧ vi = .int .i64 (j : Int) ∧ Hid (∀ i, i < j → (S i).r ≠ (S k).r) ∧ Below wc.heap.size wc wr) (fun vi _ => k - (intOf vi).toNat)
  case atStart => exact ⟨0, Nat.zero_le _, rfl, fun i hi => absurd hi (Nat.not_lt_zero _), Below.refl _ _⟩
  case round =>
   obtain ⟨j, hj, rfl, HJ, hbj⟩ := hrel
   replace y2 := (hbj.cell (p := ⟨A, 2, none⟩) (block_lt_of_cell y2)).trans y2
   replace z0 := (hbj.cell (p := ⟨B2, 0, none⟩) (block_lt_of_cell z0)).trans z0
   by_cases hjk : j < k
   ·have hji : (j : Int) < (k : Int) := by omega
    have hjn : (j : Int) < (n : Int) := by omega
    obtain ⟨b3, f3, g6, g11, g12, d6, d11, d12, e3, R3, _, _, _⟩ := slot_at (KHc.out.below hbj) (Nat.lt_trans hjk HLT.out)
    cases e3
    have v0 : wr.cell? ⟨b1, f1 + j * 13, none⟩ = some (.string (S j).r) := by
     have := R3 0 (.string (S j).r) rfl
     simpa using this
    have KBj : Hid (Below wc.heap.size wc wr) := hbj
    clear R3 hbj
    by_cases hr : (S j).r = (S k).r
    ·have HN : Hid (ndB id f n S = false) := ndB_no fun h => (h.2.2 k HLT.out).2 j hjk hr
     rw [hr] at v0
     have hb := ba_beq (S k).r
     clear hr
     go_wp2_with fail
     go_quiet (fail)
     go_wp2
     go_ret
     exact ⟨ret_bool HN.out.symm, below_drewN (below2 KB0.out (below2 KB3.out KBj.out)) _⟩
    ·have HJ2 : Hid (∀ i, i < j + 1 → (S i).r ≠ (S k).r) := fun i hi => by
      by_cases e : i = j
      ·subst e; exact hr
      ·exact HJ.out i (by omega)
     have hb := ba_ne hr
     clear hr
     go_wp2_with fail
     go_quiet (fail)
     go_wp2_with fail
     go_roundw
     case rel => exact ⟨j + 1, by omega, by go_num, HJ2, below_drewN KBj.out _⟩
     case measure => simp [intOf]; omega
   ·obtain rfl : j = k := by omega
    have HP2 : Hid (∀ i, i < j + 1 → SlotP id f (S i) ∧ ∀ l, l < i → (S l).r ≠ (S i).r) := fun i hi => by
     by_cases e : i = j
     ·subst e; exact ⟨HSP.out, HJ.out⟩
     ·exact HP.out i (by omega)
    go_wp2_with fail
    go_roundw
    case rel => exact ⟨j + 1, by have := HLT.out; omega, by go_num, HP2, below2 KB3.out hbj⟩
    case measure => have := HLT.out; simp [intOf]; omega
end Go.Proofs.YtcaejlalnjnifaaGreat
