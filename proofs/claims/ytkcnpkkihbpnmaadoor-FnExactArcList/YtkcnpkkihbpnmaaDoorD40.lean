/- The walk of FnExactArcList. It holds where the library's table of powers of ten stands as its text lays it. Written by a program. -/
import Derived.Test.YtkcnpkkihbpnmaaDoorD39
import Derived.Test.YtkcnpkkihbpnmaaDoorD37
import Derived.Test.YtkcnpkkihbpnmaaDoorD36
namespace Go.Proofs.YtkcnpkkihbpnmaaDoor
set_option maxRecDepth 2000
open Go.ChangeShapes Go.WideShapes Go.ChangeAt Go.RowKit
theorem tot_ge4 {g : Nat → Nat} {n i : Nat} (hi : i < n) : g i ≤ tot g n := by
  have := tot_le g hi
  omega
theorem wtA_list {n : Nat} {N : Nat → Nd} {zs : List Int} {m : Nat} {Y : Nat → Sy} {ne : Nat} {E : Nat → En} {nm : Nat} (h : wtA n N zs m Y ne E nm ≤ 1048576) (hB : ∀ i, i < ne → EnB (E i)) : wtT n N zs m Y ≤ 1048576 ∧ ne ≤ 1048576 ∧ nm ≤ 1048576 ∧ (∀ i, i < ne → EnL (E i)) ∧ tot (fun i => wtE (E i)) ne + ne ≤ 1048576 := by
  unfold wtA wtEs at h
  refine ⟨by omega, by omega, by omega, fun i hi => ?_, by omega⟩
  have h1 : wtE (E i) ≤ tot (fun i => wtE (E i)) ne := tot_ge4 (g := fun i => wtE (E i)) hi
  have h2 : (E i).nm.size + (E i).rt.size = wtE (E i) := rfl
  have h3 := (hB i hi).z
  have h4 : -9223372036854775808 ≤ (E i).sz ∧ (E i).sz ≤ 9223372036854775807 := by
    unfold Lit.wf at h3
    rw [Bool.and_eq_true] at h3
    exact ⟨of_decide_eq_true h3.1, of_decide_eq_true h3.2⟩
  exact ⟨by omega, by omega, h4⟩
set_option maxHeartbeats 8000000 in
theorem walk_FnExactArcList (f : Int) (a : Option Addr) (n c : Nat) (l : Option Addr) (zs : List Int) (d : Nat) (e : Option Addr) (m g : Nat) (N : Nat → Nd) (Y : Nat → Sy) (x : Option Addr) (ne cx : Nat) (E : Nat → En) (y : Option Addr) (nm cy : Nat) (M : Nat → Ma) (w : World) (w0 : ArcA w a n c l zs e m g N Y x ne cx E y nm cy M) (htab : TabOk w) :
    Calls Tryd.prog 3 #[.agg #[.int .i64 f, .slice a n c, .slice l zs.length d, .slice e m g, .slice x ne cx, .slice y nm cy]] w fun e w' => e = .returned (.bool true) ∧ Below w.heap.size w w' := by
  have hT := w0
  clear w0
  have KTb : Hid (∀ W, Below w.heap.size w W → TabOk W) := fun W hW => htab.below hW
  clear htab
  have KA : Hid (∀ W, Below w.heap.size w W → ArcA W a n c l zs e m g N Y x ne cx E y nm cy M) := fun W hW => hT.below hW
  obtain ⟨B, HB⟩ : ∃ x, Hid (x = w.heap.size) := ⟨_, rfl⟩
  obtain ⟨v1, HV1⟩ : ∃ z, Hid (Value.slice a n c = z) := ⟨_, rfl⟩
  obtain ⟨v2, HV2⟩ : ∃ z, Hid (Value.slice l zs.length d = z) := ⟨_, rfl⟩
  obtain ⟨v3, HV3⟩ : ∃ z, Hid (Value.slice e m g = z) := ⟨_, rfl⟩
  obtain ⟨v4, HV4⟩ : ∃ z, Hid (Value.slice x ne cx = z) := ⟨_, rfl⟩
  obtain ⟨v5, HV5⟩ : ∃ z, Hid (Value.slice y nm cy = z) := ⟨_, rfl⟩
  obtain ⟨w0, HW0⟩ : ∃ x, Hid (x = w.alloc (.cells #[.int .i64 f, v1, v2, v3, v4, v5] 30)) := ⟨_, rfl⟩
  have HR0 : Hid (Row w0 B 30 #[.int .i64 f, v1, v2, v3, v4, v5]) := by show Row _ _ _ _; rw [HW0.out, HB.out]; exact Row.new w _ _
  have hb0 : Below w.heap.size w w0 := by rw [HW0.out]; exact (Below.refl _ _).alloc (Nat.le_refl _) _
  have KZ : Hid (Calls Tryd.prog 4 #[arV f v1 v2 v3 v4 v5, .int .i64 ((1048576 : Nat) : Int)] w0 fun e w' => e = .returned (.int .i64 (szN 1048576 (wtA n N zs m Y ne E nm))) ∧ Below w0.heap.size w0 w') := by rw [← HV1.out, ← HV2.out, ← HV3.out, ← HV4.out, ← HV5.out]; exact szArc_any f a n c l zs d e m g N Y x ne cx E y nm cy M 1048576 w0 (KA.out _ hb0) (by omega)
  have KB0 : Hid (Below w.heap.size w w0) := hb0
  clear hb0
  by_cases h0 : wtA n N zs m Y ne E nm ≤ 1048576
  case neg =>
    rw [szN_no h0] at KZ
    rw [HV1.out, HV2.out, HV3.out, HV4.out, HV5.out]
    clear h0 hT
    go_enter Tryd.func3, Tryd.ntmps3
    go_wp2_with (rw [← HW0.out, ← HB.out]; refine wpList_load_row (by rfl) 30 _ (by rfl) B (by rfl) 30 #[.int .i64 f, v1, v2, v3, v4, v5] (0, 0) _ ?_ Tryd.underlying30 (by rfl) Tryd.infoArL ?_; exact HR0.out)
    refine Calls.mono KZ.out ?_
    rintro e' w1 ⟨rfl, b1⟩
    go_wp2
    go_ret
    exact ⟨rfl, below2 KB0.out b1⟩
  obtain ⟨left, hleft⟩ : ∃ q, 1048576 - wtA n N zs m Y ne E nm = q := ⟨_, rfl⟩
  rw [szN_yes h0, hleft] at KZ
  have neg0 : ¬ ((left : Int) < 0) := by omega
  obtain ⟨hwt, hne1, hnm1, hEs, htt⟩ := wtA_list h0 hT.be
  obtain ⟨hn1, hS, hz1, hm1, hY1, _⟩ := (wtT_little hwt).2
  obtain ⟨ans, HAns⟩ : ∃ x, Hid (alS E ne = x) := ⟨_, rfl⟩
  obtain ⟨zl, HZL⟩ : ∃ x, Hid (zs.length = x) := ⟨_, rfl⟩
  have hff : (ans.toList != ans.toList) = false := by simp
  have KTo : Hid (∀ W, Below w.heap.size w W → Calls Tryd.prog 6 #[arV f v1 v2 v3 v4 v5] W fun r w' => ∃ g1 g2 g3 g4 g5, r = .returned (arV f (.slice (some ⟨g1, 0, none⟩) n n) (.slice (some ⟨g2, 0, none⟩) zl zl) (.slice (some ⟨g3, 0, none⟩) m m) (.slice (some ⟨g4, 0, none⟩) ne ne) (.slice (some ⟨g5, 0, none⟩) nm nm)) ∧ (Rd w' (ndsD n N) (.slice (some ⟨g1, 0, none⟩) n n) ∧ IntsAt w' (some ⟨g2, 0, none⟩) zl zs ∧ Rd w' (sysD m Y) (.slice (some ⟨g3, 0, none⟩) m m) ∧ Rd w' (ensD ne E) (.slice (some ⟨g4, 0, none⟩) ne ne) ∧ Rd w' (masD nm M) (.slice (some ⟨g5, 0, none⟩) nm nm)) ∧ Below W.heap.size W w') := fun W hW => by
    rw [← HV1.out, ← HV2.out, ← HV3.out, ← HV4.out, ← HV5.out, ← HZL.out]
    refine (toArc_any f a n c l zs d e m g N Y x ne cx E y nm cy M W (KA.out W hW) hn1 hS hz1 hm1 hY1 hne1 hnm1).mono ?_
    rintro r w' ⟨g1, g2, g3, g4, g5, rfl, ⟨F1, F2, F3, F4, F5, o⟩, bb⟩
    exact ⟨g1, g2, g3, g4, g5, rfl, ⟨o.nt.n.rd, rd_ints.1 o.nt.z.rd, o.nt.y.rd, o.e.rd, o.m.rd⟩, bb⟩
  have KSp : Hid (∀ g1 g2 g3 g4 g5 W, (Rd W (ndsD n N) (.slice (some ⟨g1, 0, none⟩) n n) ∧ IntsAt W (some ⟨g2, 0, none⟩) zl zs ∧ Rd W (sysD m Y) (.slice (some ⟨g3, 0, none⟩) m m) ∧ Rd W (ensD ne E) (.slice (some ⟨g4, 0, none⟩) ne ne) ∧ Rd W (masD nm M) (.slice (some ⟨g5, 0, none⟩) nm nm)) → Calls Tryd.prog 5 #[arV f (.slice (some ⟨g1, 0, none⟩) n n) (.slice (some ⟨g2, 0, none⟩) zl zl) (.slice (some ⟨g3, 0, none⟩) m m) (.slice (some ⟨g4, 0, none⟩) ne ne) (.slice (some ⟨g5, 0, none⟩) nm nm)] W fun r w' => r = .returned (.string ans) ∧ Below W.heap.size W w') := fun g1 g2 g3 g4 g5 W h1 => by
    rw [← HZL.out] at h1 ⊢
    have := sArcList_any f (.slice (some ⟨g1, 0, none⟩) n n) (.slice (some ⟨g2, 0, none⟩) zs.length zs.length) (.slice (some ⟨g3, 0, none⟩) m m) (.slice (some ⟨g5, 0, none⟩) nm nm) (some ⟨g4, 0, none⟩) ne ne E W h1.2.2.2.1 hEs htt
    rw [HAns.out] at this
    exact this
  have KIm : Hid (∀ g1 g2 g3 g4 g5 W, (Rd W (ndsD n N) (.slice (some ⟨g1, 0, none⟩) n n) ∧ IntsAt W (some ⟨g2, 0, none⟩) zl zs ∧ Rd W (sysD m Y) (.slice (some ⟨g3, 0, none⟩) m m) ∧ Rd W (ensD ne E) (.slice (some ⟨g4, 0, none⟩) ne ne) ∧ Rd W (masD nm M) (.slice (some ⟨g5, 0, none⟩) nm nm)) → TabOk W → Calls Tryd.prog 7 #[arV f (.slice (some ⟨g1, 0, none⟩) n n) (.slice (some ⟨g2, 0, none⟩) zl zl) (.slice (some ⟨g3, 0, none⟩) m m) (.slice (some ⟨g4, 0, none⟩) ne ne) (.slice (some ⟨g5, 0, none⟩) nm nm)] W fun r w' => r = .returned (.string ans) ∧ Below W.heap.size W w') := fun g1 g2 g3 g4 g5 W h1 hTb => by
    rw [← HZL.out] at h1 ⊢
    have := arcList_any f (.slice (some ⟨g1, 0, none⟩) n n) (.slice (some ⟨g2, 0, none⟩) zs.length zs.length) (.slice (some ⟨g3, 0, none⟩) m m) (.slice (some ⟨g5, 0, none⟩) nm nm) (some ⟨g4, 0, none⟩) ne ne E W h1.2.2.2.1 hEs htt hTb
    rw [HAns.out] at this
    exact this
  have KEq : Hid (∀ g1 g2 g3 g4 g5 k1 k2 k3 k4 k5 W, (Rd W (ndsD n N) (.slice (some ⟨g1, 0, none⟩) n n) ∧ IntsAt W (some ⟨g2, 0, none⟩) zl zs ∧ Rd W (sysD m Y) (.slice (some ⟨g3, 0, none⟩) m m) ∧ Rd W (ensD ne E) (.slice (some ⟨g4, 0, none⟩) ne ne) ∧ Rd W (masD nm M) (.slice (some ⟨g5, 0, none⟩) nm nm)) → (Rd W (ndsD n N) (.slice (some ⟨k1, 0, none⟩) n n) ∧ IntsAt W (some ⟨k2, 0, none⟩) zl zs ∧ Rd W (sysD m Y) (.slice (some ⟨k3, 0, none⟩) m m) ∧ Rd W (ensD ne E) (.slice (some ⟨k4, 0, none⟩) ne ne) ∧ Rd W (masD nm M) (.slice (some ⟨k5, 0, none⟩) nm nm)) → Calls Tryd.prog 8 #[arV f (.slice (some ⟨g1, 0, none⟩) n n) (.slice (some ⟨g2, 0, none⟩) zl zl) (.slice (some ⟨g3, 0, none⟩) m m) (.slice (some ⟨g4, 0, none⟩) ne ne) (.slice (some ⟨g5, 0, none⟩) nm nm), arV f (.slice (some ⟨k1, 0, none⟩) n n) (.slice (some ⟨k2, 0, none⟩) zl zl) (.slice (some ⟨k3, 0, none⟩) m m) (.slice (some ⟨k4, 0, none⟩) ne ne) (.slice (some ⟨k5, 0, none⟩) nm nm)] W fun r w' => r = .returned (.bool true) ∧ Below W.heap.size W w') := fun g1 g2 g3 g4 g5 k1 k2 k3 k4 k5 W h1 h2 => by
    rw [← HZL.out] at h1 h2 ⊢
    exact eqArc_of f _ _ _ _ _ _ _ _ _ _ W (fun V hV => eqNt_same f _ _ n n n _ _ zs zs.length zs.length _ _ m m m N Y V (h1.1.below hV) (h2.1.below hV) (h1.2.1.below hV) (h2.2.1.below hV) (h1.2.2.1.below hV) (h2.2.2.1.below hV) hn1 hS hz1 hm1 hY1) (fun V hV => eqEns_same _ _ ne ne ne E V (h1.2.2.2.1.below hV) (h2.2.2.2.1.below hV) hne1) (fun V hV => eqMas_same _ _ nm nm nm M V (h1.2.2.2.2.below hV) (h2.2.2.2.2.below hV) hnm1)
  have KBl : Hid (∀ g1 g2 g3 g4 g5 W W', Below W.heap.size W W' → (Rd W (ndsD n N) (.slice (some ⟨g1, 0, none⟩) n n) ∧ IntsAt W (some ⟨g2, 0, none⟩) zl zs ∧ Rd W (sysD m Y) (.slice (some ⟨g3, 0, none⟩) m m) ∧ Rd W (ensD ne E) (.slice (some ⟨g4, 0, none⟩) ne ne) ∧ Rd W (masD nm M) (.slice (some ⟨g5, 0, none⟩) nm nm)) → (Rd W' (ndsD n N) (.slice (some ⟨g1, 0, none⟩) n n) ∧ IntsAt W' (some ⟨g2, 0, none⟩) zl zs ∧ Rd W' (sysD m Y) (.slice (some ⟨g3, 0, none⟩) m m) ∧ Rd W' (ensD ne E) (.slice (some ⟨g4, 0, none⟩) ne ne) ∧ Rd W' (masD nm M) (.slice (some ⟨g5, 0, none⟩) nm nm))) := fun g1 g2 g3 g4 g5 W W' hb h => ⟨h.1.below hb, h.2.1.below hb, h.2.2.1.below hb, h.2.2.2.1.below hb, h.2.2.2.2.below hb⟩
  rw [HV1.out, HV2.out, HV3.out, HV4.out, HV5.out]
  clear h0 hleft hS hY1 hT hn1 hz1 hm1 hwt hne1 hnm1 hEs htt
  go_enter Tryd.func3, Tryd.ntmps3
  go_wp2_with (rw [← HW0.out, ← HB.out]; refine wpList_load_row (by rfl) 30 _ (by rfl) B (by rfl) 30 #[.int .i64 f, v1, v2, v3, v4, v5] (0, 0) _ ?_ Tryd.underlying30 (by rfl) Tryd.infoArL ?_; exact HR0.out)
  refine Calls.mono KZ.out ?_
  rintro e' w1 ⟨rfl, b1⟩
  have HR1 : Hid (Row w1 B 30 #[.int .i64 f, v1, v2, v3, v4, v5]) := HR0.out.below b1 HR0.out.lt
  have KB1 : Hid (Below w.heap.size w w1) := below2 KB0.out b1
  clear b1 KZ
  go_wp2_with (refine wpList_load_row (by rfl) 30 _ (by rfl) B (by rfl) 30 #[.int .i64 f, v1, v2, v3, v4, v5] (0, 0) _ ?_ Tryd.underlying30 (by rfl) Tryd.infoArL ?_; exact HR1.out)
  refine Calls.mono (KTo.out _ KB1.out) ?_
  rintro e' w2 ⟨g21, g22, g23, g24, g25, rfl, O2, b2⟩
  have HR2 : Hid (Row w2 B 30 #[.int .i64 f, v1, v2, v3, v4, v5]) := HR1.out.below b2 HR1.out.lt
  have KB2 : Hid (Below w.heap.size w w2) := below2 KB1.out b2
  have KS2 : Hid _ := KSp.out g21 g22 g23 g24 g25 w2 O2
  clear b2 O2
  go_wp2_with fail
  refine Calls.mono KS2.out ?_
  rintro e' w3 ⟨rfl, b3⟩
  have HR3 : Hid (Row w3 B 30 #[.int .i64 f, v1, v2, v3, v4, v5]) := HR2.out.below b3 HR2.out.lt
  have KB3 : Hid (Below w.heap.size w w3) := below2 KB2.out b3
  clear b3 KS2
  go_wp2_with (refine wpList_load_row (by rfl) 30 _ (by rfl) B (by rfl) 30 #[.int .i64 f, v1, v2, v3, v4, v5] (0, 0) _ ?_ Tryd.underlying30 (by rfl) Tryd.infoArL ?_; exact HR3.out)
  refine Calls.mono (KTo.out _ KB3.out) ?_
  rintro e' w4 ⟨g41, g42, g43, g44, g45, rfl, O4, b4⟩
  obtain ⟨w5, HW5⟩ : ∃ x, Hid (x = w4.alloc (.cells #[.int .i64 f, .slice (some ⟨g41, 0, none⟩) n n, .slice (some ⟨g42, 0, none⟩) zl zl, .slice (some ⟨g43, 0, none⟩) m m, .slice (some ⟨g44, 0, none⟩) ne ne, .slice (some ⟨g45, 0, none⟩) nm nm] 40)) := ⟨_, rfl⟩
  obtain ⟨D, HD⟩ : ∃ x, Hid (x = w4.heap.size) := ⟨_, rfl⟩
  have b45 : Below w4.heap.size w4 w5 := by rw [HW5.out]; exact (Below.refl _ _).alloc (Nat.le_refl _) _
  have HX5 : Hid (Row w5 D 40 #[.int .i64 f, .slice (some ⟨g41, 0, none⟩) n n, .slice (some ⟨g42, 0, none⟩) zl zl, .slice (some ⟨g43, 0, none⟩) m m, .slice (some ⟨g44, 0, none⟩) ne ne, .slice (some ⟨g45, 0, none⟩) nm nm]) := by show Row _ _ _ _; rw [HW5.out, HD.out]; exact Row.new w4 _ _
  have HR5 : Hid (Row w5 B 30 #[.int .i64 f, v1, v2, v3, v4, v5]) := HR3.out.below (below2 b4 b45) HR3.out.lt
  have KO5 : Hid (Rd w5 (ndsD n N) (.slice (some ⟨g41, 0, none⟩) n n) ∧ IntsAt w5 (some ⟨g42, 0, none⟩) zl zs ∧ Rd w5 (sysD m Y) (.slice (some ⟨g43, 0, none⟩) m m) ∧ Rd w5 (ensD ne E) (.slice (some ⟨g44, 0, none⟩) ne ne) ∧ Rd w5 (masD nm M) (.slice (some ⟨g45, 0, none⟩) nm nm)) := KBl.out _ _ _ _ _ _ _ b45 O4
  have KB5 : Hid (Below w.heap.size w w5) := below2 KB3.out (below2 b4 b45)
  have KI5 : Hid _ := KIm.out g41 g42 g43 g44 g45 w5 KO5.out (KTb.out _ KB5.out)
  clear b4 b45 O4
  go_wp2_with (rw [← HW5.out, ← HD.out]; refine wpList_load_row (by rfl) 40 _ (by rfl) D (by rfl) 40 #[.int .i64 f, .slice (some ⟨g41, 0, none⟩) n n, .slice (some ⟨g42, 0, none⟩) zl zl, .slice (some ⟨g43, 0, none⟩) m m, .slice (some ⟨g44, 0, none⟩) ne ne, .slice (some ⟨g45, 0, none⟩) nm nm] (0, 0) _ ?_ Tryd.underlying40 (by rfl) Tryd.infoAr ?_; exact HX5.out)
  refine Calls.mono KI5.out ?_
  rintro e' w6 ⟨rfl, b6⟩
  have HR6 : Hid (Row w6 B 30 #[.int .i64 f, v1, v2, v3, v4, v5]) := HR5.out.below b6 HR5.out.lt
  have HX6 : Hid (Row w6 D 40 #[.int .i64 f, .slice (some ⟨g41, 0, none⟩) n n, .slice (some ⟨g42, 0, none⟩) zl zl, .slice (some ⟨g43, 0, none⟩) m m, .slice (some ⟨g44, 0, none⟩) ne ne, .slice (some ⟨g45, 0, none⟩) nm nm]) := HX5.out.below b6 HX5.out.lt
  have KO6 : Hid (Rd w6 (ndsD n N) (.slice (some ⟨g41, 0, none⟩) n n) ∧ IntsAt w6 (some ⟨g42, 0, none⟩) zl zs ∧ Rd w6 (sysD m Y) (.slice (some ⟨g43, 0, none⟩) m m) ∧ Rd w6 (ensD ne E) (.slice (some ⟨g44, 0, none⟩) ne ne) ∧ Rd w6 (masD nm M) (.slice (some ⟨g45, 0, none⟩) nm nm)) := KBl.out _ _ _ _ _ _ _ b6 KO5.out
  have KB6 : Hid (Below w.heap.size w w6) := below2 KB5.out b6
  clear b6 KI5
  have KTP : Hid _ := KTo.out w6.drew (below_drewN KB6.out 1)
  have q0 := HR6.out.cell 0
  have y0 := HX6.out.cell 0
  have q1 := HR6.out.cell 1
  have y1 := HX6.out.cell 1
  have q2 := HR6.out.cell 2
  have y2 := HX6.out.cell 2
  have q3 := HR6.out.cell 3
  have y3 := HX6.out.cell 3
  have q4 := HR6.out.cell 4
  have y4 := HX6.out.cell 4
  have q5 := HR6.out.cell 5
  have y5 := HX6.out.cell 5
  simp at q0 y0 q1 y1 q2 y2 q3 y3 q4 y4 q5 y5
  have lB := HR6.out.lt
  have lD := HX6.out.lt
  go_wp2_with fail
  go_region_held3 (fun w' => w'.cell? ⟨B, 0, none⟩ = some (.int .i64 f) ∧ w'.cell? ⟨B, 1, none⟩ = some (v1) ∧ w'.cell? ⟨B, 2, none⟩ = some (v2) ∧ w'.cell? ⟨B, 3, none⟩ = some (v3) ∧ w'.cell? ⟨B, 4, none⟩ = some (v4) ∧ w'.cell? ⟨B, 5, none⟩ = some (v5) ∧ w'.cell? ⟨D, 0, none⟩ = some (.int .i64 f) ∧ w'.cell? ⟨D, 1, none⟩ = some (.slice (some ⟨g41, 0, none⟩) n n) ∧ w'.cell? ⟨D, 2, none⟩ = some (.slice (some ⟨g42, 0, none⟩) zl zl) ∧ w'.cell? ⟨D, 3, none⟩ = some (.slice (some ⟨g43, 0, none⟩) m m) ∧ w'.cell? ⟨D, 4, none⟩ = some (.slice (some ⟨g44, 0, none⟩) ne ne) ∧ w'.cell? ⟨D, 5, none⟩ = some (.slice (some ⟨g45, 0, none⟩) nm nm)) (go_keep) ((first | (go_at_call 6; refine Calls.mono (KTP.out) ?_; rintro e' w7 ⟨k1, k2, k3, k4, k5, rfl, O7, b7'⟩; have b7 := below_of_drew b7'; clear b7'; have KO7 : Hid _ := O7; clear O7; have p0 := (b7.cell (p := ⟨B, 0, none⟩) lB).trans q0; have z0 := (b7.cell (p := ⟨D, 0, none⟩) lD).trans y0; have p1 := (b7.cell (p := ⟨B, 1, none⟩) lB).trans q1; have z1 := (b7.cell (p := ⟨D, 1, none⟩) lD).trans y1; have p2 := (b7.cell (p := ⟨B, 2, none⟩) lB).trans q2; have z2 := (b7.cell (p := ⟨D, 2, none⟩) lD).trans y2; have p3 := (b7.cell (p := ⟨B, 3, none⟩) lB).trans q3; have z3 := (b7.cell (p := ⟨D, 3, none⟩) lD).trans y3; have p4 := (b7.cell (p := ⟨B, 4, none⟩) lB).trans q4; have z4 := (b7.cell (p := ⟨D, 4, none⟩) lD).trans y4; have p5 := (b7.cell (p := ⟨B, 5, none⟩) lB).trans q5; have z5 := (b7.cell (p := ⟨D, 5, none⟩) lD).trans y5) | (guard_hyp b7; go_at_call 8; refine Calls.mono (KEq.out g41 g42 g43 g44 g45 k1 k2 k3 k4 k5 _ (KBl.out _ _ _ _ _ _ _ b7 KO6.out) KO7.out) ?_; rintro e' w8 ⟨rfl, b8⟩; have b78 := below2 b7 b8; have s0 := (b78.cell (p := ⟨B, 0, none⟩) lB).trans q0; have t0 := (b78.cell (p := ⟨D, 0, none⟩) lD).trans y0; have s1 := (b78.cell (p := ⟨B, 1, none⟩) lB).trans q1; have t1 := (b78.cell (p := ⟨D, 1, none⟩) lD).trans y1; have s2 := (b78.cell (p := ⟨B, 2, none⟩) lB).trans q2; have t2 := (b78.cell (p := ⟨D, 2, none⟩) lD).trans y2; have s3 := (b78.cell (p := ⟨B, 3, none⟩) lB).trans q3; have t3 := (b78.cell (p := ⟨D, 3, none⟩) lD).trans y3; have s4 := (b78.cell (p := ⟨B, 4, none⟩) lB).trans q4; have t4 := (b78.cell (p := ⟨D, 4, none⟩) lD).trans y4; have s5 := (b78.cell (p := ⟨B, 5, none⟩) lB).trans q5; have t5 := (b78.cell (p := ⟨D, 5, none⟩) lD).trans y5)))
  all_goals
    go_wp2
    go_ret
    exact ⟨rfl, below2 KB6.out b78⟩
end Go.Proofs.YtkcnpkkihbpnmaaDoor
