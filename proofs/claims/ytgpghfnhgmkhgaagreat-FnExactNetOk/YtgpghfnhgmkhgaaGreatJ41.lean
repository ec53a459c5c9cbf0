/- Whether a net is right, in the model. Conditions: lists of at most 2^20, texts that can be. Written by a program. -/
import Derived.Test.YtgpghfnhgmkhgaaGreatJ40
import Derived.Test.YtgpghfnhgmkhgaaGreatJ38
namespace Go.Proofs.YtgpghfnhgmkhgaaGreat
set_option maxRecDepth 2000
open Go.ChangeShapes Go.WideShapes Go.ChangeAt Go.RowKit Go.Sort

set_option maxHeartbeats 8000000 in
theorem sNetOk_any (f : Int) (a : Option Addr) (n c : Nat) (l : Option Addr) (zs : List Int) (d : Nat) (e : Option Addr) (m g : Nat) (N : Nat → Nd) (w : World) (h1 : Rd w (ndsD n N) (.slice a n c)) (h2 : IntsAt w l zs.length zs) (hn : n ≤ 1048576) (hz : zs.length ≤ 1048576) (hN : ∀ i, i < n → NdN (N i)) :
    Calls Tryz.prog 5 #[.agg #[.int .i64 f, .slice a n c, .slice l zs.length d, .slice e m g]] w fun r w' => r = .returned (.bool (ntB f n N zs m)) ∧ Below w.heap.size w w' := by
  obtain ⟨A, HA⟩ : ∃ x, Hid (x = w.heap.size) := ⟨_, rfl⟩
  obtain ⟨w0, HW0⟩ : ∃ x, Hid (x = w.alloc (.cells #[.int .i64 f, .slice a n c, .slice l zs.length d, .slice e m g] 32)) := ⟨_, rfl⟩
  have RA : Hid (Row w0 A 32 #[.int .i64 f, .slice a n c, .slice l zs.length d, .slice e m g]) := by show Row _ _ _ _; rw [HW0.out, HA.out]; exact Row.new w _ _
  have hb0 : Below w.heap.size w w0 := by rw [HW0.out]; exact (Below.refl _ _).alloc (Nat.le_refl _) _
  have KB0 : Hid (Below w.heap.size w w0) := hb0
  have KH : Hid (Rd w0 (ndsD n N) (.slice a n c)) := h1.below hb0
  have KNN : Hid (∀ i, i < n → NdN (N i)) := hN
  have x0 := RA.out.cell 0
  have x1 := RA.out.cell 1
  have x2 := RA.out.cell 2
  have x3 := RA.out.cell 3
  simp at x0 x1 x2 x3
  have X0 : ∀ d os, (grow (redrawn w0 d) os).cell? ⟨A, 0, none⟩ = _ := fun d os => cell_regrown x0 d os
  have X1 : ∀ d os, (grow (redrawn w0 d) os).cell? ⟨A, 1, none⟩ = _ := fun d os => cell_regrown x1 d os
  have X2 : ∀ d os, (grow (redrawn w0 d) os).cell? ⟨A, 2, none⟩ = _ := fun d os => cell_regrown x2 d os
  have X3 : ∀ d os, (grow (redrawn w0 d) os).cell? ⟨A, 3, none⟩ = _ := fun d os => cell_regrown x3 d os
  have N1 : ∀ d os, Calls Tryz.prog 12 #[.int .i64 f, .int .i64 1, .int .i64 3] (grow (redrawn w0 d) os) fun e w' => e = .returned (.bool (inB f 1 3)) ∧ ∃ p : Regrown, w' = grow (redrawn w0 p.d) p.os := fun d os => Calls.regrown_of ((sIn_any f 1 3 _).mono fun e w' h => ⟨h.1, by rw [h.2]; exact Below.refl _ _⟩)
  by_cases hf : 1 ≤ f ∧ f ≤ 3
  case neg =>
    have e1 : inB f 1 3 = false := decide_eq_false hf
    rw [e1] at N1
    have N2 := N1
    have N3 := N1
    rw [ntB_no (fun h => hf h.1)]
    go_enter Tryz.func5, Tryz.ntmps5
    go_wp2_with fail
    rw [← HW0.out, ← HA.out]
    refine wp_region_quiet_below (by kernel_rfl) (by kernel_rfl) ?_
    repeat (go_big_quiet_step (first | (with_reducible exact N1 _ _) | (with_reducible exact N2 _ _) | (with_reducible exact N3 _ _)))
    refine wpQuiet_nil ?_
    intro _ hw'
    obtain ⟨⟨dq, osq⟩, hw''⟩ := hw'
    subst hw''
    go_wp2
    go_ret
    exact ⟨rfl, below2 KB0.out (below_regrown w0 dq osq)⟩
  have e1 : inB f 1 3 = true := decide_eq_true hf
  rw [e1] at N1
  obtain ⟨q, HQ⟩ : ∃ q : Int, Hid (3 * f + 1 = q) := ⟨_, rfl⟩
  have N2 : ∀ d os, Calls Tryz.prog 14 #[.int .i64 f] (grow (redrawn w0 d) os) fun e w' => e = .returned (.int .i64 q) ∧ ∃ p : Regrown, w' = grow (redrawn w0 p.d) p.os := fun d os => Calls.regrown_of ((sAllN_any f _ hf).mono fun e w' h => ⟨by rw [h.1, HQ.out], by rw [h.2]; exact Below.refl _ _⟩)
  obtain ⟨b, HBL⟩ : ∃ x, Hid (numB f zs = x) := ⟨_, rfl⟩
  have N3 : ∀ d' os, Calls Tryz.prog 13 #[.slice l zs.length d, .int .i64 f] (grow (redrawn w0 d') os) fun e w' => e = .returned (.bool b) ∧ ∃ p : Regrown, w' = grow (redrawn w0 p.d) p.os := fun d' os => Calls.regrown_of (by have := sNums_any f l zs.length d zs (grow (redrawn w0 d') os) ((h2.below hb0).below (below_regrown w0 d' os)) hf hz; rw [HBL.out] at this; exact this)
  have HF : Hid (1 ≤ f ∧ f ≤ 3) := hf
  clear hf e1 h1 h2 hN hb0
  cases b with
  | false =>
    rw [ntB_no (fun h => by have := HBL.out; rw [h.2.2.2.1] at this; cases this)]
    go_enter Tryz.func5, Tryz.ntmps5
    go_wp2_with fail
    rw [← HW0.out, ← HA.out]
    refine wp_region_quiet_below (by kernel_rfl) (by kernel_rfl) ?_
    repeat (go_big_quiet_step (first | (with_reducible exact N1 _ _) | (with_reducible exact N2 _ _) | (with_reducible exact N3 _ _)))
    refine wpQuiet_nil ?_
    intro _ hw'
    obtain ⟨⟨dq, osq⟩, hw''⟩ := hw'
    subst hw''
    go_wp2
    go_ret
    exact ⟨rfl, below2 KB0.out (below_regrown w0 dq osq)⟩
  | true =>
  obtain ⟨z, HZ⟩ : ∃ x, Hid (zs.length = x) := ⟨_, rfl⟩
  rw [HZ.out] at N3 HW0 RA X2 x2
  rw [HZ.out]
  by_cases hzl : (z : Int) ≤ f
  case neg =>
    have hz' : decide (f < (z : Int)) = true := decide_eq_true (by omega)
    have hz2 : (z : Int) > f := by omega
    rw [ntB_no (fun h => hzl (by have := h.2.2.1; rw [HZ.out] at this; exact this))]
    go_enter Tryz.func5, Tryz.ntmps5
    go_wp2_with fail
    rw [← HW0.out, ← HA.out]
    refine wp_region_quiet_below (by kernel_rfl) (by kernel_rfl) ?_
    repeat (go_big_quiet_step (first | (with_reducible exact N1 _ _) | (with_reducible exact N2 _ _) | (with_reducible exact N3 _ _)))
    refine wpQuiet_nil ?_
    intro _ hw'
    obtain ⟨⟨dq, osq⟩, hw''⟩ := hw'
    subst hw''
    go_wp2
    go_ret
    exact ⟨rfl, below2 KB0.out (below_regrown w0 dq osq)⟩
  have hz' : decide (f < (z : Int)) = false := decide_eq_false (by omega)
  have hz2 : ¬ (z : Int) > f := by omega
  by_cases hq : (n : Int) = q
  case neg =>
    have hq' : ((n : Int) != q) = true := by simp [hq]
    rw [ntB_no (fun h => hq (h.2.1.trans HQ.out))]
    go_enter Tryz.func5, Tryz.ntmps5
    go_wp2_with fail
    rw [← HW0.out, ← HA.out]
    refine wp_region_quiet_below (by kernel_rfl) (by kernel_rfl) ?_
    repeat (go_big_quiet_step (first | (with_reducible exact N1 _ _) | (with_reducible exact N2 _ _) | (with_reducible exact N3 _ _)))
    refine wpQuiet_nil ?_
    intro _ hw'
    obtain ⟨⟨dq, osq⟩, hw''⟩ := hw'
    subst hw''
    go_wp2
    go_ret
    exact ⟨rfl, below2 KB0.out (below_regrown w0 dq osq)⟩
  have hq' : ((n : Int) != q) = false := by simp [hq]
  by_cases hm : m ≤ 3000
  case neg =>
    have hm' : decide ((3000 : Int) < (m : Int)) = true := decide_eq_true (by omega)
    have hm2 : (m : Int) > 3000 := by omega
    rw [ntB_no (fun h => hm h.2.2.2.2.1)]
    go_enter Tryz.func5, Tryz.ntmps5
    go_wp2_with fail
    rw [← HW0.out, ← HA.out]
    refine wp_region_quiet_below (by kernel_rfl) (by kernel_rfl) ?_
    repeat (go_big_quiet_step (first | (with_reducible exact N1 _ _) | (with_reducible exact N2 _ _) | (with_reducible exact N3 _ _)))
    refine wpQuiet_nil ?_
    intro _ hw'
    obtain ⟨⟨dq, osq⟩, hw''⟩ := hw'
    subst hw''
    go_wp2
    go_ret
    exact ⟨rfl, below2 KB0.out (below_regrown w0 dq osq)⟩
  have hm' : decide ((3000 : Int) < (m : Int)) = false := decide_eq_false (by omega)
  have hm2 : ¬ (m : Int) > 3000 := by omega
  have HNQ : Hid ((n : Int) = 3 * f + 1) := hq.trans HQ.out.symm
  have HLB : Hid ((zs.length : Int) ≤ f ∧ numB f zs = true) := ⟨by rw [HZ.out]; exact hzl, HBL.out⟩
  go_enter Tryz.func5, Tryz.ntmps5
  go_wp2_with fail
  rw [← HW0.out, ← HA.out]
  refine wp_region_quiet_below (by kernel_rfl) (by kernel_rfl) ?_
  repeat (go_big_quiet_step (first | (with_reducible exact N1 _ _) | (with_reducible exact N2 _ _) | (with_reducible exact N3 _ _)))
  refine wpQuiet_nil ?_
  intro _ hw'
  obtain ⟨⟨dq, osq⟩, hw''⟩ := hw'
  subst hw''
  have KB1 : Hid (Below w0.heap.size w0 (grow (redrawn w0 dq) osq)) := below_regrown w0 dq osq
  generalize grow (redrawn w0 dq) osq = w1 at *
  clear X0 X1 X2 X3 N1 N2 N3 x0 x1 x2 x3 hz' hz2 hq' hm' hm2
  go_wp2_with fail
  go_loopw [3] (fun vi wr => ∃ k : Nat, k ≤ n ∧ vi = .int .i64 (k : Int) ∧ Hid (∀ i, i < k → (N i).i = (i : Int) ∧ (N i).f = f ∧ NdP (N i).i (N i).f (N i).n (N i).S) ∧ Below w0.heap.size w0 wr) (fun vi _ => n - (intOf vi).toNat)
  case atStart => exact ⟨0, Nat.zero_le _, rfl, fun i hi => absurd hi (Nat.not_lt_zero _), KB1.out⟩
  case round =>
    obtain ⟨k, hk, rfl, HP, hbel⟩ := hrel
    have RAr := RA.out.below hbel RA.out.lt
    have x0 := RAr.cell 0
    have x1 := RAr.cell 1
    simp at x0 x1
    clear RAr
    by_cases hlt : k < n
    case neg =>
      obtain rfl : k = n := by omega
      have HY : Hid (ntB f k N zs m = true) := ntB_yes ⟨HF.out, HNQ.out, HLB.out.1, HLB.out.2, hm, HP.out⟩
      go_wp2
      go_ret
      exact ⟨ret_bool HY.out.symm, below2 KB0.out hbel⟩
    have hki : (k : Int) < (n : Int) := by omega
    obtain ⟨b1, f1, an, cn, rfl, ⟨y0, y1, y2⟩, _, hr1⟩ := node_at (KH.out.below hbel) hlt
    have X0 : ∀ d os, (grow (redrawn wr d) os).cell? ⟨A, 0, none⟩ = _ := fun d os => cell_regrown x0 d os
    have X1 : ∀ d os, (grow (redrawn wr d) os).cell? ⟨A, 1, none⟩ = _ := fun d os => cell_regrown x1 d os
    have Y0 : ∀ d os, (grow (redrawn wr d) os).cell? ⟨b1, f1 + k * 3, none⟩ = _ := fun d os => cell_regrown y0 d os
    have Y1 : ∀ d os, (grow (redrawn wr d) os).cell? ⟨b1, f1 + k * 3 + 1, none⟩ = _ := fun d os => cell_regrown y1 d os
    have Y2 : ∀ d os, (grow (redrawn wr d) os).cell? ⟨b1, f1 + k * 3 + 2, none⟩ = _ := fun d os => cell_regrown y2 d os
    obtain ⟨o, HO⟩ : ∃ x, Hid (ndB (N k).i (N k).f (N k).n (N k).S = x) := ⟨_, rfl⟩
    have N1 : ∀ d os, Calls Tryz.prog 15 #[.agg #[.int .i64 (N k).i, .int .i64 (N k).f, .slice an (N k).n cn]] (grow (redrawn wr d) os) fun e w' => e = .returned (.bool o) ∧ ∃ p : Regrown, w' = grow (redrawn wr p.d) p.os := fun d os => Calls.regrown_of (by have := sNodeOk_any (N k).i (N k).f an (N k).n cn (N k).S (grow (redrawn wr d) os) (hr1.below (below_regrown wr d os)) (KNN.out k hlt).n (KNN.out k hlt).s; rw [HO.out] at this; exact this)
    have N2 := N1
    have N3 := N1
    obtain ⟨ki, HKI⟩ : ∃ x, Hid ((N k).i = x) := ⟨_, rfl⟩
    obtain ⟨kf, HKF⟩ : ∃ x, Hid ((N k).f = x) := ⟨_, rfl⟩
    rw [HKI.out] at Y0 N1 N2 N3
    rw [HKF.out] at Y1 N1 N2 N3
    have KBr : Hid (Below w.heap.size w wr ∧ Below w0.heap.size w0 wr) := ⟨below2 KB0.out hbel, hbel⟩
    have HLT : Hid (k < n) := hlt
    clear hr1 y0 y1 y2 hbel
    by_cases hi : ki = (k : Int)
    case neg =>
      have hi' : (ki != (k : Int)) = true := by simp [hi]
      have HN : Hid (ntB f n N zs m = false) := ntB_no fun h => hi (by rw [← HKI.out]; exact (h.2.2.2.2.2 k HLT.out).1)
      go_wp2_with fail
      refine wp_region_quiet_below (by kernel_rfl) (by kernel_rfl) ?_
      repeat (go_big_quiet_step (first | (with_reducible exact N1 _ _) | (with_reducible exact N2 _ _) | (with_reducible exact N3 _ _)))
      refine wpQuiet_nil ?_
      intro _ hw'
      obtain ⟨⟨dq, osq⟩, hw''⟩ := hw'
      subst hw''
      go_wp2
      go_ret
      exact ⟨ret_bool HN.out.symm, below2 KBr.out.1 (below_regrown wr dq osq)⟩
    have hi' : (ki != (k : Int)) = false := by simp [hi]
    by_cases hff : kf = f
    case neg =>
      have hf' : (kf != f) = true := by simp [hff]
      have HN : Hid (ntB f n N zs m = false) := ntB_no fun h => hff (by rw [← HKF.out]; exact (h.2.2.2.2.2 k HLT.out).2.1)
      go_wp2_with fail
      refine wp_region_quiet_below (by kernel_rfl) (by kernel_rfl) ?_
      repeat (go_big_quiet_step (first | (with_reducible exact N1 _ _) | (with_reducible exact N2 _ _) | (with_reducible exact N3 _ _)))
      refine wpQuiet_nil ?_
      intro _ hw'
      obtain ⟨⟨dq, osq⟩, hw''⟩ := hw'
      subst hw''
      go_wp2
      go_ret
      exact ⟨ret_bool HN.out.symm, below2 KBr.out.1 (below_regrown wr dq osq)⟩
    have HHI : Hid (ki = (k : Int)) := hi
    have HHF : Hid (kf = f) := hff
    rw [hi] at Y0 N1 N2 N3
    rw [hff] at Y1 N1 N2 N3
    have hkk : ((k : Int) != (k : Int)) = false := by simp
    have hf2 : (f != f) = false := by simp
    clear hi hff hi'
    cases o with
    | false =>
      have HN : Hid (ntB f n N zs m = false) := ntB_no fun h => by
        have := HO.out
        rw [ndB_yes (h.2.2.2.2.2 k HLT.out).2.2] at this
        cases this
      go_wp2_with fail
      refine wp_region_quiet_below (by kernel_rfl) (by kernel_rfl) ?_
      repeat (go_big_quiet_step (first | (with_reducible exact N1 _ _) | (with_reducible exact N2 _ _) | (with_reducible exact N3 _ _)))
      refine wpQuiet_nil ?_
      intro _ hw'
      obtain ⟨⟨dq, osq⟩, hw''⟩ := hw'
      subst hw''
      go_wp2
      go_ret
      exact ⟨ret_bool HN.out.symm, below2 KBr.out.1 (below_regrown wr dq osq)⟩
    | true =>
      have HP2 : Hid (∀ i, i < k + 1 → (N i).i = (i : Int) ∧ (N i).f = f ∧ NdP (N i).i (N i).f (N i).n (N i).S) := fun i hi2 => by
        by_cases ei : i = k
        · subst ei
          refine ⟨HKI.out.trans HHI.out, HKF.out.trans HHF.out, ?_⟩
          exact Classical.byContradiction fun hc => by have := HO.out; rw [ndB_no hc] at this; cases this
        · exact HP.out i (by omega)
      go_wp2_with fail
      refine wp_region_quiet_below (by kernel_rfl) (by kernel_rfl) ?_
      repeat (go_big_quiet_step (first | (with_reducible exact N1 _ _) | (with_reducible exact N2 _ _) | (with_reducible exact N3 _ _)))
      refine wpQuiet_nil ?_
      intro _ hw'
      obtain ⟨⟨dq, osq⟩, hw''⟩ := hw'
      subst hw''
      have KB4 : Hid (Below w0.heap.size w0 (grow (redrawn wr dq) osq)) := below2 KBr.out.2 (below_regrown wr dq osq)
      go_wp2
      go_roundw
      case rel => exact ⟨k + 1, by have := HLT.out; omega, by go_num, HP2, KB4.out⟩
      case measure => have := HLT.out; simp [intOf]; omega
end Go.Proofs.YtgpghfnhgmkhgaaGreat
