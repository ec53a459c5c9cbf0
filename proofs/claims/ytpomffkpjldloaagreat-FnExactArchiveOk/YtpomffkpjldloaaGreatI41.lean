/- Whether a net is right, in the model. Conditions: lists of at most 2^20, texts that can be. Written by a program. -/
import Derived.Test.YtpomffkpjldloaaGreatI39
import Derived.Test.YtpomffkpjldloaaGreatI33
import Derived.Test.YtpomffkpjldloaaGreatI38
import Derived.Test.YtpomffkpjldloaaGreatI40
namespace Go.Proofs.YtpomffkpjldloaaGreat
set_option maxRecDepth 2000
open Go.ChangeShapes Go.WideShapes Go.ChangeAt Go.RowKit Go.Sort

set_option maxHeartbeats 8000000 in
theorem sNetOk_any (f : Int) (a : Option Addr) (n c : Nat) (l : Option Addr) (zs : List Int) (d : Nat) (e : Option Addr) (m g : Nat) (N : Nat → Nd) (w : World) (h1 : Rd w (ndsD n N) (.slice a n c)) (h2 : IntsAt w l zs.length zs) (hn : n ≤ 1048576) (hz : zs.length ≤ 1048576) (hN : ∀ i, i < n → NdN (N i)) :
    Calls Tryz.prog 13 #[.agg #[.int .i64 f, .slice a n c, .slice l zs.length d, .slice e m g]] w fun r w' => r = .returned (.bool (ntB f n N zs m)) ∧ Below w.heap.size w w' := by
  obtain ⟨A, HA⟩ : ∃ x, Hid (x = w.heap.size) := ⟨_, rfl⟩
  obtain ⟨w0, HW0⟩ : ∃ x, Hid (x = w.alloc (.cells #[.int .i64 f, .slice a n c, .slice l zs.length d, .slice e m g] 36)) := ⟨_, rfl⟩
  have RA : Hid (Row w0 A 36 #[.int .i64 f, .slice a n c, .slice l zs.length d, .slice e m g]) := by show Row _ _ _ _; rw [HW0.out, HA.out]; exact Row.new w _ _
  have hb0 : Below w.heap.size w w0 := by rw [HW0.out]; exact (Below.refl _ _).alloc (Nat.le_refl _) _
  have KB0 : Hid (Below w.heap.size w w0) := hb0
  have KH : Hid (Rd w0 (ndsD n N) (.slice a n c)) := h1.below hb0
  have KNN : Hid (∀ i, i < n → NdN (N i)) := hN
  have x0 := RA.out.cell 0
  have x1 := RA.out.cell 1
  have x2 := RA.out.cell 2
  have x3 := RA.out.cell 3
  simp at x0 x1 x2 x3
  have X0 : ∀ d os, (grow (redrawn w0 d) os).cell? ⟨A, 0, none⟩ = _ := fun d os => cell_regrown x0 d os
  have X1 : ∀ d os, (grow (redrawn w0 d) os).cell? ⟨A, 1, none⟩ = _ := fun d os => cell_regrown x1 d os
  have X2 : ∀ d os, (grow (redrawn w0 d) os).cell? ⟨A, 2, none⟩ = _ := fun d os => cell_regrown x2 d os
  have X3 : ∀ d os, (grow (redrawn w0 d) os).cell? ⟨A, 3, none⟩ = _ := fun d os => cell_regrown x3 d os
  have N1 : ∀ d os, Calls Tryz.prog 26 #[.int .i64 f, .int .i64 1, .int .i64 3] (grow (redrawn w0 d) os) fun e w' => e = .returned (.bool (inB f 1 3)) ∧ ∃ p : Regrown, w' = grow (redrawn w0 p.d) p.os := fun d os => Calls.regrown_of ((sIn_any f 1 3 _).mono fun e w' h => ⟨h.1, by rw [h.2]; exact Below.refl _ _⟩)
  by_cases hf : 1 ≤ f ∧ f ≤ 3
  case neg =>
    have e1 : inB f 1 3 = false := decide_eq_false hf
    rw [e1] at N1
    have N2 := N1
    have N3 := N1
    rw [ntB_no (fun h => hf h.1)]
    go_enter Tryz.func13, Tryz.ntmps13
    go_wp2_with fail
    rw [← HW0.out, ← HA.out]
    refine wp_region_quiet_below (by kernel_rfl) (by kernel_rfl) ?_
    repeat (go_big_quiet_step (first | (with_reducible exact N1 _ _) | (with_reducible exact N2 _ _) | (with_reducible exact N3 _ _)))
    refine wpQuiet_nil ?_
    intro _ hw'
    obtain ⟨⟨dq, osq⟩, hw''⟩ := hw'
    subst hw''
    go_wp2
    go_ret
    exact ⟨rfl, below2 KB0.out (below_regrown w0 dq osq)⟩
  have e1 : inB f 1 3 = true := decide_eq_true hf
  rw [e1] at N1
  obtain ⟨q, HQ⟩ : ∃ q : Int, Hid (3 * f + 1 = q) := ⟨_, rfl⟩
  have N2 : ∀ d os, Calls Tryz.prog 28 #[.int .i64 f] (grow (redrawn w0 d) os) fun e w' => e = .returned (.int .i64 q) ∧ ∃ p : Regrown, w' = grow (redrawn w0 p.d) p.os := fun d os => Calls.regrown_of ((sAllN_any f _ hf).mono fun e w' h => ⟨by rw [h.1, HQ.out], by rw [h.2]; exact Below.refl _ _⟩)
  obtain ⟨b, HBL⟩ : ∃ x, Hid (numB f zs = x) := ⟨_, rfl⟩
  have N3 : ∀ d' os, Calls Tryz.prog 27 #[.slice l zs.length d, .int .i64 f] (grow (redrawn w0 d') os) fun e w' => e = .returned (.bool b) ∧ ∃ p : Regrown, w' = grow (redrawn w0 p.d) p.os := fun d' os => Calls.regrown_of (by have := sNums_any f l zs.length d zs (grow (redrawn w0 d') os) ((h2.below hb0).below (below_regrown w0 d' os)) hf hz; rw [HBL.out] at this; exact this)
  have HF : Hid (1 ≤ f ∧ f ≤ 3) := hf
  clear hf e1 h1 h2 hN hb0
  cases b with
  | false =>
    rw [ntB_no (fun h => by have := HBL.out; rw [h.2.2.2.1] at this; cases this)]
    go_enter Tryz.func13, Tryz.ntmps13
    go_wp2_with fail
    rw [← HW0.out, ← HA.out]
    refine wp_region_quiet_below (by kernel_rfl) (by kernel_rfl) ?_
    repeat (go_big_quiet_step (first | (with_reducible exact N1 _ _) | (with_reducible exact N2 _ _) | (with_reducible exact N3 _ _)))
    refine wpQuiet_nil ?_
    intro _ hw'
    obtain ⟨⟨dq, osq⟩, hw''⟩ := hw'
    subst hw''
    go_wp2
    go_ret
    exact ⟨rfl, below2 KB0.out (below_regrown w0 dq osq)⟩
  | true =>
  obtain ⟨z, HZ⟩ : ∃ x, Hid (zs.length = x) := ⟨_, rfl⟩
  rw [HZ.out] at N3 HW0 RA X2 x2
  rw [HZ.out]
  by_cases hzl : (z : Int) ≤ f
  case neg =>
    have hz' : decide (f < (z : Int)) = true := decide_eq_true (by omega)
    have hz2 : (z : Int) > f := by omega
    rw [ntB_no (fun h => hzl (by have := h.2.2.1; rw [HZ.out] at this; exact this))]
    go_enter Tryz.func13, Tryz.ntmps13
    go_wp2_with fail
    rw [← HW0.out, ← HA.out]
    refine wp_region_quiet_below (by kernel_rfl) (by kernel_rfl) ?_
    repeat (go_big_quiet_step (first | (with_reducible exact N1 _ _) | (with_reducible exact N2 _ _) | (with_reducible exact N3 _ _)))
    refine wpQuiet_nil ?_
    intro _ hw'
    obtain ⟨⟨dq, osq⟩, hw''⟩ := hw'
    subst hw''
    go_wp2
    go_ret
    exact ⟨rfl, below2 KB0.out (below_regrown w0 dq osq)⟩
  have hz' : decide (f < (z : Int)) = false := decide_eq_false (by omega)
  have hz2 : ¬ (z : Int) > f := by omega
  by_cases hq : (n : Int) = q
  case neg =>
    have hq' : ((n : Int) != q) = true := by simp [hq]
    rw [ntB_no (fun h => hq (h.2.1.trans HQ.out))]
    go_enter Tryz.func13, Tryz.ntmps13
    go_wp2_with fail
    rw [← HW0.out, ← HA.out]
    refine wp_region_quiet_below (by kernel_rfl) (by kernel_rfl) ?_
    repeat (go_big_quiet_step (first | (with_reducible exact N1 _ _) | (with_reducible exact N2 _ _) | (with_reducible exact N3 _ _)))
    refine wpQuiet_nil ?_
    intro _ hw'
    obtain ⟨⟨dq, osq⟩, hw''⟩ := hw'
    subst hw''
    go_wp2
    go_ret
    exact ⟨rfl, below2 KB0.out (below_regrown w0 dq osq)⟩
  have hq' : ((n : Int) != q) = false := by simp [hq]
  by_cases hm : m ≤ 3000
  case neg =>
    have hm' : decide ((3000 : Int) < (m : Int)) = true := decide_eq_true (by omega)
    have hm2 : (m : Int) > 3000 := by omega
    rw [ntB_no (fun h => hm h.2.2.2.2.1)]
    go_enter Tryz.func13, Tryz.ntmps13
    go_wp2_with fail
    rw [← HW0.out, ← HA.out]
    refine wp_region_quiet_below (by kernel_rfl) (by kernel_rfl) ?_
    repeat (go_big_quiet_step (first | (with_reducible exact N1 _ _) | (with_reducible exact N2 _ _) | (with_reducible exact N3 _ _)))
    refine wpQuiet_nil ?_
    intro _ hw'
    obtain ⟨⟨dq, osq⟩, hw''⟩ := hw'
    subst hw''
    go_wp2
    go_ret
    exact ⟨rfl, below2 KB0.out (below_regrown w0 dq osq)⟩
  have hm' : decide ((3000 : Int) < (m : Int)) = false := decide_eq_false (by omega)
  have hm2 : ¬ (m : Int) > 3000 := by omega
  have HNQ : Hid ((n : Int) = 3 * f + 1) := hq.trans HQ.out.symm
  have HLB : Hid ((zs.length : Int) ≤ f ∧ numB f zs = true) := ⟨by rw [HZ.out]; exact hzl, HBL.out⟩
  go_enter Tryz.func13, Tryz.ntmps13
  go_wp2_with fail
  rw [← HW0.out, ← HA.out]
  refine wp_region_quiet_below (by kernel_rfl) (by kernel_rfl) ?_
  repeat (go_big_quiet_step (first | (with_reducible exact N1 _ _) | (with_reducible exact N2 _ _) | (with_reducible exact N3 _ _)))
  refine wpQuiet_nil ?_
  intro _ hw'
  obtain ⟨⟨dq, osq⟩, hw''⟩ := hw'
  subst hw''
  have KB1 : Hid (Below w0.heap.size w0 (grow (redrawn w0 dq) osq)) := below_regrown w0 dq osq
  generalize grow (redrawn w0 dq) osq = w1 at *
  clear X0 X1 X2 X3 N1 N2 N3 x0 x1 x2 x3 hz' hz2 hq' hm' hm2
  go_wp2_with fail
  go_loopw [3] (fun vi wr => ∃ k : Nat, k ≤ n ∧ vi = .int .i64 (k : Int) ∧ Hid (∀ i, i < k → (N i).i = (i : Int) ∧ (N i).f = f ∧ NdP (N i).i (N i).f (N i).n (N i).S) ∧ Below w0.heap.size w0 wr) (fun vi _ => n - (intOf vi).toNat)
  case atStart => exact ⟨0, Nat.zero_le _, rfl, fun i hi => absurd hi (Nat.not_lt_zero _), KB1.out⟩
  case round =>
    obtain ⟨k, hk, rfl, HP, hbel⟩ := hrel
    have RAr := RA.out.below hbel RA.out.lt
    have x0 := RAr.cell 0
    have x1 := RAr.cell 1
    simp at x0 x1
    clear RAr
    by_cases hlt : k < n
    case neg =>
      obtain rfl : k = n := by omega
      have HY : Hid (ntB f k N zs m = true) := ntB_yes ⟨HF.out, HNQ.out, HLB.out.1, HLB.out.2, hm, HP.out⟩
      go_wp2
      go_ret
      exact ⟨ret_bool HY.out.symm, below2 KB0.out hbel⟩
    have hki : (k : Int) < (n : Int) := by omega
    obtain ⟨b1, f1, an, cn, rfl, ⟨y0, y1, y2⟩, _, hr1⟩ := node_at (KH.out.below hbel) hlt
    have X0 : ∀ d os, (grow (redrawn wr d) os).cell? ⟨A, 0, none⟩ = _ := fun d os => cell_regrown x0 d os
    have X1 : ∀ d os, (grow (redrawn wr d) os).cell? ⟨A, 1, none⟩ = _ := fun d os => cell_regrown x1 d os
    have Y0 : ∀ d os, (grow (redrawn wr d) os).cell? ⟨b1, f1 + k * 3, none⟩ = _ := fun d os => cell_regrown y0 d os
    have Y1 : ∀ d os, (grow (redrawn wr d) os).cell? ⟨b1, f1 + k * 3 + 1, none⟩ = _ := fun d os => cell_regrown y1 d os
    have Y2 : ∀ d os, (grow (redrawn wr d) os).cell? ⟨b1, f1 + k * 3 + 2, none⟩ = _ := fun d os => cell_regrown y2 d os
    obtain ⟨o, HO⟩ : ∃ x, Hid (ndB (N k).i (N k).f (N k).n (N k).S = x) := ⟨_, rfl⟩
    have N1 : ∀ d os, Calls Tryz.prog 29 #[.agg #[.int .i64 (N k).i, .int .i64 (N k).f, .slice an (N k).n cn]] (grow (redrawn wr d) os) fun e w' => e = .returned (.bool o) ∧ ∃ p : Regrown, w' = grow (redrawn wr p.d) p.os := fun d os => Calls.regrown_of (by have := sNodeOk_any (N k).i (N k).f an (N k).n cn (N k).S (grow (redrawn wr d) os) (hr1.below (below_regrown wr d os)) (KNN.out k hlt).n (KNN.out k hlt).s; rw [HO.out] at this; exact this)
    have N2 := N1
    have N3 := N1
    obtain ⟨ki, HKI⟩ : ∃ x, Hid ((N k).i = x) := ⟨_, rfl⟩
    obtain ⟨kf, HKF⟩ : ∃ x, Hid ((N k).f = x) := ⟨_, rfl⟩
    rw [HKI.out] at Y0 N1 N2 N3
    rw [HKF.out] at Y1 N1 N2 N3
    have KBr : Hid (Below w.heap.size w wr ∧ Below w0.heap.size w0 wr) := ⟨below2 KB0.out hbel, hbel⟩
    have HLT : Hid (k < n) := hlt
    clear hr1 y0 y1 y2 hbel
    by_cases hi : ki = (k : Int)
    case neg =>
      have hi' : (ki != (k : Int)) = true := by simp [hi]
      have HN : Hid (ntB f n N zs m = false) := ntB_no fun h => hi (by rw [← HKI.out]; exact (h.2.2.2.2.2 k HLT.out).1)
      go_wp2_with fail
      refine wp_region_quiet_below (by kernel_rfl) (by kernel_rfl) ?_
      repeat (go_big_quiet_step (first | (with_reducible exact N1 _ _) | (with_reducible exact N2 _ _) | (with_reducible exact N3 _ _)))
      refine wpQuiet_nil ?_
      intro _ hw'
      obtain ⟨⟨dq, osq⟩, hw''⟩ := hw'
      subst hw''
      go_wp2
      go_ret
      exact ⟨ret_bool HN.out.symm, below2 KBr.out.1 (below_regrown wr dq osq)⟩
    have hi' : (ki != (k : Int)) = false := by simp [hi]
    by_cases hff : kf = f
    case neg =>
      have hf' : (kf != f) = true := by simp [hff]
      have HN : Hid (ntB f n N zs m = false) := ntB_no fun h => hff (by rw [← HKF.out]; exact (h.2.2.2.2.2 k HLT.out).2.1)
      go_wp2_with fail
      refine wp_region_quiet_below (by kernel_rfl) (by kernel_rfl) ?_
      repeat (go_big_quiet_step (first | (with_reducible exact N1 _ _) | (with_reducible exact N2 _ _) | (with_reducible exact N3 _ _)))
      refine wpQuiet_nil ?_
      intro _ hw'
      obtain ⟨⟨dq, osq⟩, hw''⟩ := hw'
      subst hw''
      go_wp2
      go_ret
      exact ⟨ret_bool HN.out.symm, below2 KBr.out.1 (below_regrown wr dq osq)⟩
    have HHI : Hid (ki = (k : Int)) := hi
    have HHF : Hid (kf = f) := hff
    rw [hi] at Y0 N1 N2 N3
    rw [hff] at Y1 N1 N2 N3
    have hkk : ((k : Int) != (k : Int)) = false := by simp
    have hf2 : (f != f) = false := by simp
    clear hi hff hi'
    cases o with
    | false =>
      have HN : Hid (ntB f n N zs m = false) := ntB_no fun h => by
        have := HO.out
        rw [ndB_yes (h.2.2.2.2.2 k HLT.out).2.2] at this
        cases this
      go_wp2_with fail
      refine wp_region_quiet_below (by kernel_rfl) (by kernel_rfl) ?_
      repeat (go_big_quiet_step (first | (with_reducible exact N1 _ _) | (with_reducible exact N2 _ _) | (with_reducible exact N3 _ _)))
      refine wpQuiet_nil ?_
      intro _ hw'
      obtain ⟨⟨dq, osq⟩, hw''⟩ := hw'
      subst hw''
      go_wp2
      go_ret
      exact ⟨ret_bool HN.out.symm, below2 KBr.out.1 (below_regrown wr dq osq)⟩
    | true =>
      have HP2 : Hid (∀ i, i < k + 1 → (N i).i = (i : Int) ∧ (N i).f = f ∧ NdP (N i).i (N i).f (N i).n (N i).S) := fun i hi2 => by
        by_cases ei : i = k
        · subst ei
          refine ⟨HKI.out.trans HHI.out, HKF.out.trans HHF.out, ?_⟩
          exact Classical.byContradiction fun hc => by have := HO.out; rw [ndB_no hc] at this; cases this
        · exact HP.out i (by omega)
      go_wp2_with fail
      refine wp_region_quiet_below (by kernel_rfl) (by kernel_rfl) ?_
      repeat (go_big_quiet_step (first | (with_reducible exact N1 _ _) | (with_reducible exact N2 _ _) | (with_reducible exact N3 _ _)))
      refine wpQuiet_nil ?_
      intro _ hw'
      obtain ⟨⟨dq, osq⟩, hw''⟩ := hw'
      subst hw''
      have KB4 : Hid (Below w0.heap.size w0 (grow (redrawn wr dq) osq)) := below2 KBr.out.2 (below_regrown wr dq osq)
      go_wp2
      go_roundw
      case rel => exact ⟨k + 1, by have := HLT.out; omega, by go_num, HP2, KB4.out⟩
      case measure => have := HLT.out; simp [intOf]; omega
end Go.Proofs.YtpomffkpjldloaaGreat
/- The walk of FnExactNetOk. Written by a program. -/
namespace Go.Proofs.YtpomffkpjldloaaGreat
set_option maxRecDepth 2000
open Go.ChangeShapes Go.WideShapes Go.ChangeAt Go.RowKit
theorem tot_ge3 {g : Nat → Nat} {n i : Nat} (hi : i < n) : g i ≤ tot g n := by
  induction n with
  | zero => omega
  | succ n ih =>
    rw [show tot g (n + 1) = tot g n + g n from rfl]
    by_cases e : i = n
    · subst e; omega
    · have := ih (by omega); omega
/-- What the count tells of a net. -/
theorem wtT_small {n : Nat} {N : Nat → Nd} {zs : List Int} {m : Nat} {Y : Nat → Sy} (h : wtT n N zs m Y ≤ 1048576) (hB : ∀ i, i < n → NdB (N i)) : n ≤ 1048576 ∧ (∀ i, i < n → NdS (N i)) ∧ (∀ i, i < n → NdN (N i)) ∧ zs.length ≤ 1048576 ∧ m ≤ 1048576 ∧ ∀ i, i < m → (Y i).p.m ≤ 1048576 := by
  unfold wtT wtNs wtYs at h
  have hw : ∀ i, i < n → wtN (N i) ≤ 1048576 := fun i hi => by have : wtN (N i) ≤ tot (fun i => wtN (N i)) n := tot_ge3 (g := fun i => wtN (N i)) hi; omega
  have hy : ∀ i, i < m → wtY (Y i) ≤ 1048576 := fun i hi => by have : wtY (Y i) ≤ tot (fun i => wtY (Y i)) m := tot_ge3 (g := fun i => wtY (Y i)) hi; omega
  have hsl : ∀ i, i < n → ∀ j, j < (N i).n → wtS ((N i).S j) ≤ 1048576 := fun i hi j hj => by
    have h1 := hw i hi
    unfold wtN wtL at h1
    have : wtS ((N i).S j) ≤ tot (fun j => wtS ((N i).S j)) (N i).n := tot_ge3 (g := fun j => wtS ((N i).S j)) hj
    omega
  refine ⟨by omega, fun i hi => ⟨?_, fun j hj => ?_⟩, fun i hi => ⟨?_, fun j hj => ?_⟩, by omega, by omega, fun i hi => ?_⟩
  · have h1 := hw i hi
    unfold wtN wtL at h1
    omega
  · have := hsl i hi j hj
    unfold wtS wtP at this
    exact ⟨by omega, by omega, by omega⟩
  · have h1 := hw i hi
    unfold wtN wtL at h1
    omega
  · have := hsl i hi j hj
    unfold wtS wtP at this
    exact ⟨by omega, ((hB i hi).s j hj).tx, by omega, by omega⟩
  · have := hy i hi
    unfold wtY wtP at this
    omega
end Go.Proofs.YtpomffkpjldloaaGreat
/- Whether an archive is right (ArchiveOk), in the program and in the model. Conditions: texts and lists of at most 2^20. -/
namespace Go.Proofs.YtpomffkpjldloaaGreat
set_option maxRecDepth 2000
open Go.ChangeShapes Go.WideShapes Go.ChangeAt Go.RowKit Go.Sort

theorem bl_total : ∀ x y : List UInt8, (!Op.bytesLess x y) = (Op.bytesLess y x || y == x) := by
  intro x
  induction x with
  | nil =>
    intro y
    cases y with
    | nil => rfl
    | cons b y => simp [Op.bytesLess]
  | cons a x ih =>
    intro y
    cases y with
    | nil => simp [Op.bytesLess]
    | cons b y =>
      have hi := ih y
      by_cases h1 : a < b
      · have h2 : ¬ b < a := by rw [UInt8.lt_iff_toNat_lt] at h1 ⊢; omega
        have h3 : ¬ b = a := fun e => h2 (by rw [e] at h1; exact absurd h1 (by rw [UInt8.lt_iff_toNat_lt]; omega))
        simp [Op.bytesLess, h1, h2, h3]
      · by_cases h2 : b < a
        · have h3 : ¬ a = b := fun e => h1 (by rw [e] at h2; exact absurd h2 (by rw [UInt8.lt_iff_toNat_lt]; omega))
          simp [Op.bytesLess, h1, h2, h3]
        · have h3 : a = b := by
            apply UInt8.toNat_inj.1
            rw [UInt8.lt_iff_toNat_lt] at h1 h2
            omega
          subst h3
          simp [Op.bytesLess, h1]
          simpa using hi
abbrev blt (s t : ByteArray) : Bool := Op.bytesLess s.toList t.toList
/-- Entries as told. -/
structure EnsP (n : Nat) (E : Nat → En) : Prop where
  nm : ∀ j, j < n → NmP (E j).nm
  up : ∀ j, j + 1 < n → blt (E j).nm (E (j + 1)).nm = true
  len : n ≤ 30
open Classical in
noncomputable def ensB (n : Nat) (E : Nat → En) : Bool := decide (EnsP n E)
theorem ensB_yes {n : Nat} {E : Nat → En} (h : EnsP n E) : ensB n E = true := by unfold ensB; exact @decide_eq_true _ (Classical.propDecidable _) h
theorem ensB_no {n : Nat} {E : Nat → En} (h : ¬ EnsP n E) : ensB n E = false := by unfold ensB; exact @decide_eq_false _ (Classical.propDecidable _) h
/-- The first k entries are names and ascend. -/
def EnK (k : Nat) (E : Nat → En) : Prop := (∀ j, j < k → NmP (E j).nm) ∧ ∀ j, j + 1 < k → blt (E j).nm (E (j + 1)).nm = true
theorem EnK.zero (E : Nat → En) : EnK 0 E := ⟨fun _ hj => absurd hj (Nat.not_lt_zero _), fun _ hj => absurd hj (Nat.not_lt_zero _)⟩
theorem EnK.one {E : Nat → En} (h : NmP (E 0).nm) : EnK 1 E := by
  refine ⟨fun j hj => ?_, fun j hj => absurd hj (by omega)⟩
  have e : j = 0 := by omega
  rw [e]
  exact h
theorem EnK.next {k : Nat} {E : Nat → En} (h : EnK (k + 1) E) (h1 : NmP (E (k + 1)).nm) (h2 : blt (E k).nm (E (k + 1)).nm = true) : EnK (k + 1 + 1) E := by
  refine ⟨fun j hj => ?_, fun j hj => ?_⟩
  · by_cases e : j = k + 1
    · subst e; exact h1
    · exact h.1 j (by omega)
  · by_cases e : j = k
    · subst e; exact h2
    · exact h.2 j (by omega)
set_option maxHeartbeats 4000000 in
theorem areEns_any (a : Option Addr) (n cap : Nat) (E : Nat → En) (w : World) (h : Rd w (ensD n E) (.slice a n cap)) (hn : n ≤ 1048576) (hE : ∀ i, i < n → (E i).nm.size ≤ 1048576) :
    Calls Tryz.prog 17 #[.slice a n cap] w fun e w' => e = .returned (.bool (ensB n E)) ∧ Below w.heap.size w w' := by
  have KH : Hid (Rd w (ensD n E) (.slice a n cap)) := h
  have KS : Hid (∀ i, i < n → (E i).nm.size ≤ 1048576) := hE
  have KN : Hid (∀ (s : ByteArray) W, s.size ≤ 1048576 → Calls Tryz.prog 35 #[.string s] W fun e w' => e = .returned (.bool (nmB s)) ∧ Below W.heap.size W w') := fun s W hs => isName_any s W hs
  clear h hE
  go_enter Tryz.func17, Tryz.ntmps17
  go_wp2
  go_loopw [7] (fun vi wr => ∃ k : Nat, k ≤ n ∧ vi = .int .i64 (k : Int) ∧ Hid (EnK k E ∧ Below w.heap.size w wr)) (fun vi _ => n - (intOf vi).toNat)
  case atStart => exact ⟨0, Nat.zero_le _, rfl, EnK.zero E, Below.refl _ _⟩
  case round =>
    obtain ⟨k, hk, rfl, HJ⟩ := hrel
    by_cases hlt : k < n
    · have hki : (k : Int) < (n : Int) := by omega
      obtain ⟨b1, f1, rfl, _, R1'⟩ := entry_at (KH.out.below HJ.out.2) hlt
      obtain ⟨⟨nm, rt, sz⟩, HE⟩ : ∃ z, Hid (E k = z) := ⟨_, rfl⟩
      rw [HE.out] at R1'
      have R1 : Hid (wr.rangeAt b1 (f1 + k * 3) [.string nm, .string rt, .int .i64 sz]) := R1'
      have hnm : nm.size ≤ 1048576 := by have := KS.out k hlt; rw [HE.out] at this; exact this
      obtain ⟨P, HP⟩ : ∃ x, Hid (x = wr.heap.size) := ⟨_, rfl⟩
      obtain ⟨w0, HW0⟩ : ∃ x, Hid (x = wr.alloc (.cells #[.string nm, .string rt, .int .i64 sz] 49)) := ⟨_, rfl⟩
      have RP : Hid (Row w0 P 49 #[.string nm, .string rt, .int .i64 sz]) := by show Row _ _ _ _; rw [HW0.out, HP.out]; exact Row.new wr _ _
      have hb0 : Below wr.heap.size wr w0 := by rw [HW0.out]; exact (Below.refl _ _).alloc (Nat.le_refl _) _
      have KB0 : Hid (Below w.heap.size w w0) := below2 HJ.out.2 hb0
      have p0 := RP.out.cell 0
      simp at p0
      have X0 : ∀ d os, (grow (redrawn w0 d) os).cell? ⟨P, 0, none⟩ = some (.string nm) := fun d os => cell_regrown p0 d os
      obtain ⟨c1, HC1⟩ : ∃ x, Hid (nmB nm = x) := ⟨_, rfl⟩
      have N1 : ∀ d os, Calls Tryz.prog 35 #[.string nm] (grow (redrawn w0 d) os) fun e w' => e = .returned (.bool c1) ∧ ∃ p : Regrown, w' = grow (redrawn w0 p.d) p.os := fun d os => Calls.regrown_of (by have := KN.out nm (grow (redrawn w0 d) os) hnm; rw [HC1.out] at this; exact this)
      have HNo : c1 = false → Hid (ensB n E = false) := fun e => ensB_no fun hp => by
        have h1 := nmB_yes (hp.nm k hlt)
        rw [HE.out] at h1
        have h2 := HC1.out
        rw [e] at h2
        rw [h2] at h1
        cases h1
      have HYs : c1 = true → NmP (E k).nm := fun e => Classical.byContradiction fun hn' => by
        have h1 := nmB_no hn'
        rw [HE.out] at h1
        have h2 := HC1.out
        rw [e] at h2
        rw [h2] at h1
        cases h1
      clear p0
      cases c1 with
      | false =>
        have HR := HNo rfl
        clear HNo HYs R1' hb0
        cases k with
        | zero =>
          go_wp2_with (refine wpList_load_mid (by rfl) 49 _ (by rfl) b1 (f1 + 0 * 3) (by rfl) [.string nm, .string rt, .int .i64 sz] _ ?_ Tryz.underlying49 (by rfl) Tryz.infoEn ?_; exact R1.out)
          rw [← HW0.out, ← HP.out]
          refine wp_region_quiet_below (by kernel_rfl) (by kernel_rfl) ?_
          repeat (go_big_quiet_step (first | (with_reducible exact N1 _ _)))
          refine wpQuiet_nil ?_
          intro _ hw'
          obtain ⟨⟨dq, osq⟩, hw''⟩ := hw'
          subst hw''
          go_wp2
          go_ret
          exact ⟨ret_bool HR.out.symm, below2 KB0.out (below_regrown w0 dq osq)⟩
        | succ k =>
          go_wp2_with (refine wpList_load_mid (by rfl) 49 _ (by rfl) b1 (f1 + (k + 1) * 3) (by rfl) [.string nm, .string rt, .int .i64 sz] _ ?_ Tryz.underlying49 (by rfl) Tryz.infoEn ?_; exact R1.out)
          rw [← HW0.out, ← HP.out]
          refine wp_region_quiet_below (by kernel_rfl) (by kernel_rfl) ?_
          repeat (go_big_quiet_step (first | (with_reducible exact N1 _ _)))
          refine wpQuiet_nil ?_
          intro _ hw'
          obtain ⟨⟨dq, osq⟩, hw''⟩ := hw'
          subst hw''
          go_wp2
          go_ret
          exact ⟨ret_bool HR.out.symm, below2 KB0.out (below_regrown w0 dq osq)⟩
      | true =>
        have hyes := HYs rfl
        cases k with
        | zero =>
          have HK : Hid (EnK 1 E) := EnK.one hyes
          clear HNo HYs R1' hb0 hyes HJ
          go_wp2_with (refine wpList_load_mid (by rfl) 49 _ (by rfl) b1 (f1 + 0 * 3) (by rfl) [.string nm, .string rt, .int .i64 sz] _ ?_ Tryz.underlying49 (by rfl) Tryz.infoEn ?_; exact R1.out)
          rw [← HW0.out, ← HP.out]
          refine wp_region_quiet_below (by kernel_rfl) (by kernel_rfl) ?_
          repeat (go_big_quiet_step (first | (with_reducible exact N1 _ _)))
          refine wpQuiet_nil ?_
          intro _ hw'
          obtain ⟨⟨dq, osq⟩, hw''⟩ := hw'
          subst hw''
          have HB9 : Hid (EnK 1 E ∧ Below w.heap.size w (grow (redrawn w0 dq) osq)) := ⟨HK.out, below2 KB0.out (below_regrown w0 dq osq)⟩
          go_wp2
          go_roundw
          case rel => exact ⟨1, by omega, by go_num, HB9⟩
          case measure => simp [intOf]; omega
        | succ k =>
          obtain ⟨_, _, e0, ⟨q0, _, _⟩, _⟩ := entry_at (KH.out.below HJ.out.2) (show k < n by omega)
          cases e0
          obtain ⟨pn, HPN⟩ : ∃ x, Hid ((E k).nm = x) := ⟨_, rfl⟩
          rw [HPN.out] at q0
          have q1 := (hb0.cell (block_lt_of_cell q0)).trans q0
          have Y0 : ∀ d os, (grow (redrawn w0 d) os).cell? ⟨b1, f1 + k * 3, none⟩ = some (.string pn) := fun d os => cell_regrown q1 d os
          obtain ⟨c2, HC2⟩ : ∃ x, Hid (Op.bytesLess pn.toList nm.toList = x) := ⟨_, rfl⟩
          have hc2 := HC2.out
          have HJk := HJ.out.1
          clear q0 q1
          cases c2 with
          | false =>
            have HR : Hid (ensB n E = false) := ensB_no fun hp => by
              have h1 := hp.up k (by omega)
              rw [HPN.out, HE.out] at h1
              have h2 : Op.bytesLess pn.toList nm.toList = true := h1
              rw [HC2.out] at h2
              cases h2
            clear HNo HYs R1' hb0 hyes HJ HJk
            go_wp2_with (refine wpList_load_mid (by rfl) 49 _ (by rfl) b1 (f1 + (k + 1) * 3) (by rfl) [.string nm, .string rt, .int .i64 sz] _ ?_ Tryz.underlying49 (by rfl) Tryz.infoEn ?_; exact R1.out)
            rw [← HW0.out, ← HP.out]
            refine wp_region_quiet_below (by kernel_rfl) (by kernel_rfl) ?_
            repeat (go_big_quiet_step (first | (with_reducible exact N1 _ _)))
            refine wpQuiet_nil ?_
            intro _ hw'
            obtain ⟨⟨dq, osq⟩, hw''⟩ := hw'
            subst hw''
            go_wp2
            go_ret
            exact ⟨ret_bool HR.out.symm, below2 KB0.out (below_regrown w0 dq osq)⟩
          | true =>
            have HK : Hid (EnK (k + 1 + 1) E) := HJk.next hyes (by rw [HPN.out, HE.out]; exact HC2.out)
            clear HNo HYs R1' hb0 hyes HJ HJk
            go_wp2_with (refine wpList_load_mid (by rfl) 49 _ (by rfl) b1 (f1 + (k + 1) * 3) (by rfl) [.string nm, .string rt, .int .i64 sz] _ ?_ Tryz.underlying49 (by rfl) Tryz.infoEn ?_; exact R1.out)
            rw [← HW0.out, ← HP.out]
            refine wp_region_quiet_below (by kernel_rfl) (by kernel_rfl) ?_
            repeat (go_big_quiet_step (first | (with_reducible exact N1 _ _)))
            refine wpQuiet_nil ?_
            intro _ hw'
            obtain ⟨⟨dq, osq⟩, hw''⟩ := hw'
            subst hw''
            have HB9 : Hid (EnK (k + 1 + 1) E ∧ Below w.heap.size w (grow (redrawn w0 dq) osq)) := ⟨HK.out, below2 KB0.out (below_regrown w0 dq osq)⟩
            go_wp2
            go_roundw
            case rel => exact ⟨k + 1 + 1, by omega, by go_num, HB9⟩
            case measure => simp [intOf]; omega
    · obtain rfl : k = n := by omega
      clear KH KS
      by_cases h30 : (k : Int) ≤ 30
      · have HR : Hid (ensB k E = true) := ensB_yes ⟨HJ.out.1.1, HJ.out.1.2, by omega⟩
        go_wp2
        go_ret
        exact ⟨ret_bool HR.out.symm, HJ.out.2⟩
      · have HR : Hid (ensB k E = false) := ensB_no fun hp => by have := hp.len; omega
        go_wp2
        go_ret
        exact ⟨ret_bool HR.out.symm, HJ.out.2⟩
end Go.Proofs.YtpomffkpjldloaaGreat
