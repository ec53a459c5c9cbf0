/- The walk of FnExactNetOk. Written by a program. -/
import Derived.Test.YtgpghfnhgmkhgaaGreatJ41
namespace Go.Proofs.YtgpghfnhgmkhgaaGreat
set_option maxRecDepth 2000
open Go.ChangeShapes Go.WideShapes Go.ChangeAt Go.RowKit
theorem Tryz.infoNtL : (Tryz.prog.info? 26).map (·.size) = some 4 := by kernel_rfl
theorem tot_ge3 {g : Nat → Nat} {n i : Nat} (hi : i < n) : g i ≤ tot g n := by
  induction n with
  | zero => omega
  | succ n ih =>
    rw [show tot g (n + 1) = tot g n + g n from rfl]
    by_cases e : i = n
    · subst e; omega
    · have := ih (by omega); omega
/-- What the count tells of a net. -/
theorem wtT_small {n : Nat} {N : Nat → Nd} {zs : List Int} {m : Nat} {Y : Nat → Sy} (h : wtT n N zs m Y ≤ 1048576) (hB : ∀ i, i < n → NdB (N i)) : n ≤ 1048576 ∧ (∀ i, i < n → NdS (N i)) ∧ (∀ i, i < n → NdN (N i)) ∧ zs.length ≤ 1048576 ∧ m ≤ 1048576 ∧ ∀ i, i < m → (Y i).p.m ≤ 1048576 := by
  unfold wtT wtNs wtYs at h
  have hw : ∀ i, i < n → wtN (N i) ≤ 1048576 := fun i hi => by have : wtN (N i) ≤ tot (fun i => wtN (N i)) n := tot_ge3 (g := fun i => wtN (N i)) hi; omega
  have hy : ∀ i, i < m → wtY (Y i) ≤ 1048576 := fun i hi => by have : wtY (Y i) ≤ tot (fun i => wtY (Y i)) m := tot_ge3 (g := fun i => wtY (Y i)) hi; omega
  have hsl : ∀ i, i < n → ∀ j, j < (N i).n → wtS ((N i).S j) ≤ 1048576 := fun i hi j hj => by
    have h1 := hw i hi
    unfold wtN wtL at h1
    have : wtS ((N i).S j) ≤ tot (fun j => wtS ((N i).S j)) (N i).n := tot_ge3 (g := fun j => wtS ((N i).S j)) hj
    omega
  refine ⟨by omega, fun i hi => ⟨?_, fun j hj => ?_⟩, fun i hi => ⟨?_, fun j hj => ?_⟩, by omega, by omega, fun i hi => ?_⟩
  · have h1 := hw i hi
    unfold wtN wtL at h1
    omega
  · have := hsl i hi j hj
    unfold wtS wtP at this
    exact ⟨by omega, by omega, by omega⟩
  · have h1 := hw i hi
    unfold wtN wtL at h1
    omega
  · have := hsl i hi j hj
    unfold wtS wtP at this
    exact ⟨by omega, ((hB i hi).s j hj).tx, by omega, by omega⟩
  · have := hy i hi
    unfold wtY wtP at this
    omega
set_option maxHeartbeats 8000000 in
theorem walk_FnExactNetOk (f : Int) (a : Option Addr) (n c : Nat) (l : Option Addr) (zs : List Int) (d : Nat) (e : Option Addr) (m g : Nat) (N : Nat → Nd) (Y : Nat → Sy) (w : World) (w0 : NetA w a n c l zs e m g N Y) :
    Calls Tryz.prog 3 #[.agg #[.int .i64 f, .slice a n c, .slice l zs.length d, .slice e m g]] w fun e w' => e = .returned (.bool true) ∧ Below w.heap.size w w' := by
  have hT := w0
  clear w0
  have KA : Hid (∀ W, Below w.heap.size w W → NetA W a n c l zs e m g N Y) := fun W hW => ⟨hT.rn.below hW, hT.rl.below hW, hT.ry.below hW, hT.hn, hT.hl, hT.hm, hT.bn, hT.by'⟩
  obtain ⟨B, HB⟩ : ∃ x, Hid (x = w.heap.size) := ⟨_, rfl⟩
  obtain ⟨w0, HW0⟩ : ∃ x, Hid (x = w.alloc (.cells #[.int .i64 f, .slice a n c, .slice l zs.length d, .slice e m g] 26)) := ⟨_, rfl⟩
  have HR0 : Hid (Row w0 B 26 #[.int .i64 f, .slice a n c, .slice l zs.length d, .slice e m g]) := by show Row _ _ _ _; rw [HW0.out, HB.out]; exact Row.new w _ _
  have hb0 : Below w.heap.size w w0 := by rw [HW0.out]; exact (Below.refl _ _).alloc (Nat.le_refl _) _
  have KZ : Hid (Calls Tryz.prog 4 #[.agg #[.int .i64 f, .slice a n c, .slice l zs.length d, .slice e m g], .int .i64 ((1048576 : Nat) : Int)] w0 _) := szNt_any f a n c l zs d e m g N Y 1048576 w0 (KA.out _ hb0) (by omega)
  have KB0 : Hid (Below w.heap.size w w0) := hb0
  clear hb0
  by_cases h0 : wtT n N zs m Y ≤ 1048576
  case neg =>
    rw [szN_no h0] at KZ
    clear h0 hT
    go_enter Tryz.func3, Tryz.ntmps3
    go_wp2_with (rw [← HW0.out, ← HB.out]; refine wpList_load_row (by rfl) 26 _ (by rfl) B (by rfl) 26 #[.int .i64 f, .slice a n c, .slice l zs.length d, .slice e m g] (0, 0) _ ?_ Tryz.underlying26 (by rfl) Tryz.infoNtL ?_; exact HR0.out)
    refine Calls.mono KZ.out ?_
    rintro e' w1 ⟨rfl, b1⟩
    go_wp2
    go_ret
    exact ⟨rfl, below2 KB0.out b1⟩
  obtain ⟨left, hleft⟩ : ∃ q, 1048576 - wtT n N zs m Y = q := ⟨_, rfl⟩
  rw [szN_yes h0, hleft] at KZ
  have neg0 : ¬ ((left : Int) < 0) := by omega
  obtain ⟨hn1, hS, hNN, hz1, hm1, hY1⟩ := wtT_small h0 hT.bn
  obtain ⟨ans, HAns⟩ : ∃ x, Hid (ntB f n N zs m = x) := ⟨_, rfl⟩
  have hff : (ans != ans) = false := by simp
  have KTo : Hid (∀ W, NetA W a n c l zs e m g N Y → Calls Tryz.prog 6 #[.agg #[.int .i64 f, .slice a n c, .slice l zs.length d, .slice e m g]] W fun r w' => ∃ g1 g2 g3, r = .returned (ntV f (.slice (some ⟨g1, 0, none⟩) n n) (.slice (some ⟨g2, 0, none⟩) zs.length zs.length) (.slice (some ⟨g3, 0, none⟩) m m)) ∧ (Rd w' (ndsD n N) (.slice (some ⟨g1, 0, none⟩) n n) ∧ IntsAt w' (some ⟨g2, 0, none⟩) zs.length zs ∧ Rd w' (sysD m Y) (.slice (some ⟨g3, 0, none⟩) m m)) ∧ Below W.heap.size W w') := fun W hW => by
    refine (toNt_any f a n c l zs d e m g N Y W hW hn1 hS hz1 hm1 hY1).mono ?_
    rintro r w' ⟨g1, g2, g3, rfl, F1, F2, F3, o1, o2, o3, _, _, _, bb⟩
    exact ⟨g1, g2, g3, rfl, ⟨o1.rd, rd_ints.1 o2.rd, o3.rd⟩, bb⟩
  have KSp : Hid (∀ g1 g2 g3 W, Rd W (ndsD n N) (.slice (some ⟨g1, 0, none⟩) n n) → IntsAt W (some ⟨g2, 0, none⟩) zs.length zs → Calls Tryz.prog 5 #[ntV f (.slice (some ⟨g1, 0, none⟩) n n) (.slice (some ⟨g2, 0, none⟩) zs.length zs.length) (.slice (some ⟨g3, 0, none⟩) m m)] W fun r w' => r = .returned (.bool ans) ∧ Below W.heap.size W w') := fun g1 g2 g3 W h1 h2 => by
    have := sNetOk_any f (some ⟨g1, 0, none⟩) n n (some ⟨g2, 0, none⟩) zs zs.length (some ⟨g3, 0, none⟩) m m N W h1 h2 hn1 hz1 hNN
    rw [HAns.out] at this
    exact this
  have KIm : Hid (∀ g1 g2 g3 W, Rd W (ndsD n N) (.slice (some ⟨g1, 0, none⟩) n n) → IntsAt W (some ⟨g2, 0, none⟩) zs.length zs → Calls Tryz.prog 7 #[ntV f (.slice (some ⟨g1, 0, none⟩) n n) (.slice (some ⟨g2, 0, none⟩) zs.length zs.length) (.slice (some ⟨g3, 0, none⟩) m m)] W fun r w' => r = .returned (.bool ans) ∧ Below W.heap.size W w') := fun g1 g2 g3 W h1 h2 => by
    have := netOk_any f (some ⟨g1, 0, none⟩) n n (some ⟨g2, 0, none⟩) zs zs.length (some ⟨g3, 0, none⟩) m m N W h1 h2 hn1 hz1 hNN
    rw [HAns.out] at this
    exact this
  have KEq : Hid (∀ g1 g2 g3 k1 k2 k3 W, (Rd W (ndsD n N) (.slice (some ⟨g1, 0, none⟩) n n) ∧ IntsAt W (some ⟨g2, 0, none⟩) zs.length zs ∧ Rd W (sysD m Y) (.slice (some ⟨g3, 0, none⟩) m m)) → (Rd W (ndsD n N) (.slice (some ⟨k1, 0, none⟩) n n) ∧ IntsAt W (some ⟨k2, 0, none⟩) zs.length zs ∧ Rd W (sysD m Y) (.slice (some ⟨k3, 0, none⟩) m m)) → Calls Tryz.prog 8 #[ntV f (.slice (some ⟨g1, 0, none⟩) n n) (.slice (some ⟨g2, 0, none⟩) zs.length zs.length) (.slice (some ⟨g3, 0, none⟩) m m), ntV f (.slice (some ⟨k1, 0, none⟩) n n) (.slice (some ⟨k2, 0, none⟩) zs.length zs.length) (.slice (some ⟨k3, 0, none⟩) m m)] W fun r w' => r = .returned (.bool true) ∧ Below W.heap.size W w') := fun g1 g2 g3 k1 k2 k3 W h1 h2 => eqNt_same f _ _ n n n _ _ zs zs.length zs.length _ _ m m m N Y W h1.1 h2.1 h1.2.1 h2.2.1 h1.2.2 h2.2.2 hn1 hS hz1 hm1 hY1
  clear h0 hleft hS hNN hY1 hT hn1 hz1 hm1
  go_enter Tryz.func3, Tryz.ntmps3
  go_wp2_with (rw [← HW0.out, ← HB.out]; refine wpList_load_row (by rfl) 26 _ (by rfl) B (by rfl) 26 #[.int .i64 f, .slice a n c, .slice l zs.length d, .slice e m g] (0, 0) _ ?_ Tryz.underlying26 (by rfl) Tryz.infoNtL ?_; exact HR0.out)
  refine Calls.mono KZ.out ?_
  rintro e' w1 ⟨rfl, b1⟩
  have HR1 : Hid (Row w1 B 26 #[.int .i64 f, .slice a n c, .slice l zs.length d, .slice e m g]) := HR0.out.below b1 HR0.out.lt
  have KB1 : Hid (Below w.heap.size w w1) := below2 KB0.out b1
  clear b1 KZ
  go_wp2_with (refine wpList_load_row (by rfl) 26 _ (by rfl) B (by rfl) 26 #[.int .i64 f, .slice a n c, .slice l zs.length d, .slice e m g] (0, 0) _ ?_ Tryz.underlying26 (by rfl) Tryz.infoNtL ?_; exact HR1.out)
  refine Calls.mono (KTo.out _ (KA.out _ KB1.out)) ?_
  rintro e' w2 ⟨g21, g22, g23, rfl, O2, b2⟩
  have HR2 : Hid (Row w2 B 26 #[.int .i64 f, .slice a n c, .slice l zs.length d, .slice e m g]) := HR1.out.below b2 HR1.out.lt
  have KB2 : Hid (Below w.heap.size w w2) := below2 KB1.out b2
  have KS2 : Hid _ := KSp.out g21 g22 g23 w2 O2.1 O2.2.1
  clear b2 O2
  go_wp2_with fail
  refine Calls.mono KS2.out ?_
  rintro e' w3 ⟨rfl, b3⟩
  have HR3 : Hid (Row w3 B 26 #[.int .i64 f, .slice a n c, .slice l zs.length d, .slice e m g]) := HR2.out.below b3 HR2.out.lt
  have KB3 : Hid (Below w.heap.size w w3) := below2 KB2.out b3
  clear b3 KS2
  go_wp2_with (refine wpList_load_row (by rfl) 26 _ (by rfl) B (by rfl) 26 #[.int .i64 f, .slice a n c, .slice l zs.length d, .slice e m g] (0, 0) _ ?_ Tryz.underlying26 (by rfl) Tryz.infoNtL ?_; exact HR3.out)
  refine Calls.mono (KTo.out _ (KA.out _ KB3.out)) ?_
  rintro e' w4 ⟨g41, g42, g43, rfl, O4, b4⟩
  obtain ⟨w5, HW5⟩ : ∃ x, Hid (x = w4.alloc (.cells #[.int .i64 f, .slice (some ⟨g41, 0, none⟩) n n, .slice (some ⟨g42, 0, none⟩) zs.length zs.length, .slice (some ⟨g43, 0, none⟩) m m] 32)) := ⟨_, rfl⟩
  obtain ⟨D, HD⟩ : ∃ x, Hid (x = w4.heap.size) := ⟨_, rfl⟩
  have b45 : Below w4.heap.size w4 w5 := by rw [HW5.out]; exact (Below.refl _ _).alloc (Nat.le_refl _) _
  have HX5 : Hid (Row w5 D 32 #[.int .i64 f, .slice (some ⟨g41, 0, none⟩) n n, .slice (some ⟨g42, 0, none⟩) zs.length zs.length, .slice (some ⟨g43, 0, none⟩) m m]) := by show Row _ _ _ _; rw [HW5.out, HD.out]; exact Row.new w4 _ _
  have HR5 : Hid (Row w5 B 26 #[.int .i64 f, .slice a n c, .slice l zs.length d, .slice e m g]) := HR3.out.below (below2 b4 b45) HR3.out.lt
  have KO5 : Hid (Rd w5 (ndsD n N) (.slice (some ⟨g41, 0, none⟩) n n) ∧ IntsAt w5 (some ⟨g42, 0, none⟩) zs.length zs ∧ Rd w5 (sysD m Y) (.slice (some ⟨g43, 0, none⟩) m m)) := ⟨O4.1.below b45, O4.2.1.below b45, O4.2.2.below b45⟩
  have KB5 : Hid (Below w.heap.size w w5) := below2 KB3.out (below2 b4 b45)
  have KI5 : Hid _ := KIm.out g41 g42 g43 w5 KO5.out.1 KO5.out.2.1
  clear b4 b45 O4
  go_wp2_with (rw [← HW5.out, ← HD.out]; refine wpList_load_row (by rfl) 32 _ (by rfl) D (by rfl) 32 #[.int .i64 f, .slice (some ⟨g41, 0, none⟩) n n, .slice (some ⟨g42, 0, none⟩) zs.length zs.length, .slice (some ⟨g43, 0, none⟩) m m] (0, 0) _ ?_ Tryz.underlying32 (by rfl) Tryz.infoNt ?_; exact HX5.out)
  refine Calls.mono KI5.out ?_
  rintro e' w6 ⟨rfl, b6⟩
  have HR6 : Hid (Row w6 B 26 #[.int .i64 f, .slice a n c, .slice l zs.length d, .slice e m g]) := HR5.out.below b6 HR5.out.lt
  have HX6 : Hid (Row w6 D 32 #[.int .i64 f, .slice (some ⟨g41, 0, none⟩) n n, .slice (some ⟨g42, 0, none⟩) zs.length zs.length, .slice (some ⟨g43, 0, none⟩) m m]) := HX5.out.below b6 HX5.out.lt
  have KO6 : Hid (Rd w6 (ndsD n N) (.slice (some ⟨g41, 0, none⟩) n n) ∧ IntsAt w6 (some ⟨g42, 0, none⟩) zs.length zs ∧ Rd w6 (sysD m Y) (.slice (some ⟨g43, 0, none⟩) m m)) := ⟨KO5.out.1.below b6, KO5.out.2.1.below b6, KO5.out.2.2.below b6⟩
  have KB6 : Hid (Below w.heap.size w w6) := below2 KB5.out b6
  clear b6 KI5
  have KTP : Hid _ := KTo.out w6.drew (KA.out w6.drew (below_drewN KB6.out 1))
  have q0 := HR6.out.cell 0
  have y0 := HX6.out.cell 0
  have q1 := HR6.out.cell 1
  have y1 := HX6.out.cell 1
  have q2 := HR6.out.cell 2
  have y2 := HX6.out.cell 2
  have q3 := HR6.out.cell 3
  have y3 := HX6.out.cell 3
  simp at q0 y0 q1 y1 q2 y2 q3 y3
  have lB := HR6.out.lt
  have lD := HX6.out.lt
  go_wp2_with fail
  go_region_held3 (fun w' => w'.cell? ⟨B, 0, none⟩ = some (.int .i64 f) ∧ w'.cell? ⟨B, 1, none⟩ = some (.slice a n c) ∧ w'.cell? ⟨B, 2, none⟩ = some (.slice l zs.length d) ∧ w'.cell? ⟨B, 3, none⟩ = some (.slice e m g) ∧ w'.cell? ⟨D, 0, none⟩ = some (.int .i64 f) ∧ w'.cell? ⟨D, 1, none⟩ = some (.slice (some ⟨g41, 0, none⟩) n n) ∧ w'.cell? ⟨D, 2, none⟩ = some (.slice (some ⟨g42, 0, none⟩) zs.length zs.length) ∧ w'.cell? ⟨D, 3, none⟩ = some (.slice (some ⟨g43, 0, none⟩) m m)) (go_keep) ((first | (go_at_call 6; refine Calls.mono (KTP.out) ?_; rintro e' w7 ⟨k1, k2, k3, rfl, O7, b7'⟩; have b7 := below_of_drew b7'; clear b7'; have KO7 : Hid _ := O7; clear O7; have p0 := (b7.cell (p := ⟨B, 0, none⟩) lB).trans q0; have z0 := (b7.cell (p := ⟨D, 0, none⟩) lD).trans y0; have p1 := (b7.cell (p := ⟨B, 1, none⟩) lB).trans q1; have z1 := (b7.cell (p := ⟨D, 1, none⟩) lD).trans y1; have p2 := (b7.cell (p := ⟨B, 2, none⟩) lB).trans q2; have z2 := (b7.cell (p := ⟨D, 2, none⟩) lD).trans y2; have p3 := (b7.cell (p := ⟨B, 3, none⟩) lB).trans q3; have z3 := (b7.cell (p := ⟨D, 3, none⟩) lD).trans y3) | (guard_hyp b7; go_at_call 8; refine Calls.mono (KEq.out g41 g42 g43 k1 k2 k3 _ ⟨KO6.out.1.below b7, KO6.out.2.1.below b7, KO6.out.2.2.below b7⟩ KO7.out) ?_; rintro e' w8 ⟨rfl, b8⟩; have b78 := below2 b7 b8; have s0 := (b78.cell (p := ⟨B, 0, none⟩) lB).trans q0; have t0 := (b78.cell (p := ⟨D, 0, none⟩) lD).trans y0; have s1 := (b78.cell (p := ⟨B, 1, none⟩) lB).trans q1; have t1 := (b78.cell (p := ⟨D, 1, none⟩) lD).trans y1; have s2 := (b78.cell (p := ⟨B, 2, none⟩) lB).trans q2; have t2 := (b78.cell (p := ⟨D, 2, none⟩) lD).trans y2; have s3 := (b78.cell (p := ⟨B, 3, none⟩) lB).trans q3; have t3 := (b78.cell (p := ⟨D, 3, none⟩) lD).trans y3)))
  all_goals
    go_wp2
    go_ret
    exact ⟨rfl, below2 KB6.out b78⟩
end Go.Proofs.YtgpghfnhgmkhgaaGreat
