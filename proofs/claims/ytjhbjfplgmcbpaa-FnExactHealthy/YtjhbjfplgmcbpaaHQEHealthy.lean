/- For every input: the function Healthy of the program answers as its model does, whatever its net and its root are, and it leaves the net as it was. No condition. -/
import Derived.Test.YtjhbjfplgmcbpaaH46
import Derived.Test.YtjhbjfplgmcbpaaH45
import Derived.Test.YtjhbjfplgmcbpaaH18
import Derived.Deep.CutRange
namespace Go.Proofs.Ytjhbjfplgmcbpaa
set_option maxRecDepth 2000
open Go.ChangeShapes Go.WideShapes Go.ChangeAt Go.RowKit
set_option maxHeartbeats 8000000 in
theorem walk_FnExactHealthy (f : Int) (a : Option Addr) (n c : Nat) (l : Option Addr) (zs : List Int) (d : Nat) (e : Option Addr) (m g : Nat) (N : Nat → Nd) (Y : Nat → Sy) (root : ByteArray) (w : World) (w0 : NetA w a n c l zs e m g N Y) (_w1 : root.size ≤ maxLen) :
    Calls Try.prog 4 #[.agg #[.int .i64 f, .slice a n c, .slice l zs.length d, .slice e m g], .string root] w fun e w' => e = .returned (.bool true) ∧ Below w.heap.size w w' := by
  clear _w1
  have hT := w0
  clear w0
  have KA : Hid (∀ W, Below w.heap.size w W → NetA W a n c l zs e m g N Y) := fun W hW => ⟨hT.rn.below hW, hT.rl.below hW, hT.ry.below hW, hT.hn, hT.hl, hT.hm, hT.bn, hT.by'⟩
  obtain ⟨B, HB⟩ : ∃ x, Hid (x = w.heap.size) := ⟨_, rfl⟩
  obtain ⟨w0, HW0⟩ : ∃ x, Hid (x = w.alloc (.cells #[.int .i64 f, .slice a n c, .slice l zs.length d, .slice e m g] 26)) := ⟨_, rfl⟩
  have HR0 : Hid (Row w0 B 26 #[.int .i64 f, .slice a n c, .slice l zs.length d, .slice e m g]) := by show Row _ _ _ _; rw [HW0.out, HB.out]; exact Row.new w _ _
  have hb0 : Below w.heap.size w w0 := by rw [HW0.out]; exact (Below.refl _ _).alloc (Nat.le_refl _) _
  have KZ : Hid (Calls Try.prog 5 #[.agg #[.int .i64 f, .slice a n c, .slice l zs.length d, .slice e m g], .int .i64 ((1048576 : Nat) : Int)] w0 _) := szNt_any f a n c l zs d e m g N Y 1048576 w0 (KA.out _ hb0) (by omega)
  have KB0 : Hid (Below w.heap.size w w0) := hb0
  clear hb0 hT
  by_cases hr0 : root.size ≤ 1048576
  case neg =>
    have hr1 : (root.size : Int) > 1048576 := by omega
    go_enter Try.func4, Try.ntmps4
    go_wp2_with fail
    rw [← HW0.out]
    go_ret
    exact ⟨rfl, KB0.out⟩
  have hr1 : ¬ ((root.size : Int) > 1048576) := by omega
  clear hr0
  by_cases h0 : wtT n N zs m Y ≤ 1048576
  case neg =>
    rw [szN_no h0] at KZ
    clear h0
    go_enter Try.func4, Try.ntmps4
    go_wp2_with (rw [← HW0.out, ← HB.out]; refine wpList_load_row (by rfl) 26 _ (by rfl) B (by rfl) 26 #[.int .i64 f, .slice a n c, .slice l zs.length d, .slice e m g] (0, 0) _ ?_ Try.underlying26 (by rfl) Try.infoNtL2 ?_; exact HR0.out)
    refine Calls.mono KZ.out ?_
    rintro e' w1 ⟨rfl, b1⟩
    go_wp2
    go_ret
    exact ⟨rfl, below2 KB0.out b1⟩
  obtain ⟨left, hleft⟩ : ∃ q, 1048576 - wtT n N zs m Y = q := ⟨_, rfl⟩
  rw [szN_yes h0, hleft] at KZ
  have neg0 : ¬ ((left : Int) < 0) := by omega
  obtain ⟨hQ, hW⟩ := wtT_little h0
  obtain ⟨L, HL⟩ : ∃ x, Hid (hlB N root (kl (lyP zs) n) = x) := ⟨_, rfl⟩
  have hff : (L != L) = false := by simp
  have KTo : Hid (∀ W, NetA W a n c l zs e m g N Y → Calls Try.prog 7 #[.agg #[.int .i64 f, .slice a n c, .slice l zs.length d, .slice e m g]] W fun r w' => ∃ g1 g2 g3, r = .returned (ntV f (.slice (some ⟨g1, 0, none⟩) n n) (.slice (some ⟨g2, 0, none⟩) zs.length zs.length) (.slice (some ⟨g3, 0, none⟩) m m)) ∧ (∃ F1 F2 F3, NtO w' W.heap.size n N zs m Y (.slice (some ⟨g1, 0, none⟩) n n) (.slice (some ⟨g2, 0, none⟩) zs.length zs.length) (.slice (some ⟨g3, 0, none⟩) m m) F1 F2 F3 ∧ ∀ x, F1 x ∨ F2 x ∨ F3 x → W.heap.size ≤ x ∧ x < w'.heap.size) ∧ Below W.heap.size W w') := fun W hW' => by
    refine (toNt_any f a n c l zs d e m g N Y W hW' hW.kn hW.kN hW.kz hW.km hW.kY).mono ?_
    rintro r w' ⟨g1, g2, g3, rfl, F1, F2, F3, o1, o2, o3, d1, d2, d3, bb⟩
    obtain ⟨G1, G2, G3, o, hd⟩ := NtO.cut (⟨o1, o2, o3, d1, d2, d3⟩ : NtO w' W.heap.size n N zs m Y _ _ _ F1 F2 F3)
    exact ⟨g1, g2, g3, rfl, ⟨G1, G2, G3, o, hd⟩, bb⟩
  have KSp : Hid (∀ g1 g2 g3 W, Rd W (ndsD n N) (.slice (some ⟨g1, 0, none⟩) n n) → IntsAt W (some ⟨g2, 0, none⟩) zs.length zs → Calls Try.prog 12 #[ntV f (.slice (some ⟨g1, 0, none⟩) n n) (.slice (some ⟨g2, 0, none⟩) zs.length zs.length) (.slice (some ⟨g3, 0, none⟩) m m), .string root] W fun r w' => r = .returned (.bool L) ∧ Below W.heap.size W w') := fun g1 g2 g3 W h1 h2 => by
    have := sHealthy_any f (some ⟨g1, 0, none⟩) n n (some ⟨g2, 0, none⟩) zs.length zs (.slice (some ⟨g3, 0, none⟩) m m) N root W h1 h2 hW.kn hW.kz hQ
    rw [HL.out] at this
    exact this
  have KIm : Hid (∀ g1 g2 g3 W, Rd W (ndsD n N) (.slice (some ⟨g1, 0, none⟩) n n) → IntsAt W (some ⟨g2, 0, none⟩) zs.length zs → Calls Try.prog 13 #[ntV f (.slice (some ⟨g1, 0, none⟩) n n) (.slice (some ⟨g2, 0, none⟩) zs.length zs.length) (.slice (some ⟨g3, 0, none⟩) m m), .string root] W fun r w' => r = .returned (.bool L) ∧ Below W.heap.size W w') := fun g1 g2 g3 W h1 h2 => by
    have := healthy_any f (some ⟨g1, 0, none⟩) n n (some ⟨g2, 0, none⟩) zs.length zs (.slice (some ⟨g3, 0, none⟩) m m) N root W h1 h2 hW.kn hW.kz hQ
    rw [HL.out] at this
    exact this
  have KEq : Hid (∀ g1 g2 g3 k1 k2 k3 W, (Rd W (ndsD n N) (.slice (some ⟨g1, 0, none⟩) n n) ∧ IntsAt W (some ⟨g2, 0, none⟩) zs.length zs ∧ Rd W (sysD m Y) (.slice (some ⟨g3, 0, none⟩) m m)) → (Rd W (ndsD n N) (.slice (some ⟨k1, 0, none⟩) n n) ∧ IntsAt W (some ⟨k2, 0, none⟩) zs.length zs ∧ Rd W (sysD m Y) (.slice (some ⟨k3, 0, none⟩) m m)) → Calls Try.prog 9 #[ntV f (.slice (some ⟨g1, 0, none⟩) n n) (.slice (some ⟨g2, 0, none⟩) zs.length zs.length) (.slice (some ⟨g3, 0, none⟩) m m), ntV f (.slice (some ⟨k1, 0, none⟩) n n) (.slice (some ⟨k2, 0, none⟩) zs.length zs.length) (.slice (some ⟨k3, 0, none⟩) m m)] W fun r w' => r = .returned (.bool true) ∧ Below W.heap.size W w') := fun g1 g2 g3 k1 k2 k3 W h1 h2 => eqNt_same f _ _ n n n _ _ zs zs.length zs.length _ _ m m m N Y W h1.1 h2.1 h1.2.1 h2.2.1 h1.2.2 h2.2.2 hW.kn hW.kN hW.kz hW.km hW.kY
  have KW : Hid (NtW n N zs m Y) := hW
  clear h0 hleft hQ hW
  go_enter Try.func4, Try.ntmps4
  go_wp2_with (rw [← HW0.out, ← HB.out]; refine wpList_load_row (by rfl) 26 _ (by rfl) B (by rfl) 26 #[.int .i64 f, .slice a n c, .slice l zs.length d, .slice e m g] (0, 0) _ ?_ Try.underlying26 (by rfl) Try.infoNtL2 ?_; exact HR0.out)
  refine Calls.mono KZ.out ?_
  rintro e' w1 ⟨rfl, b1⟩
  have HR1 : Hid (Row w1 B 26 #[.int .i64 f, .slice a n c, .slice l zs.length d, .slice e m g]) := HR0.out.below b1 HR0.out.lt
  have KB1 : Hid (Below w.heap.size w w1) := below2 KB0.out b1
  clear b1 KZ HR0 HW0 KB0
  go_wp2_with (refine wpList_load_row (by rfl) 26 _ (by rfl) B (by rfl) 26 #[.int .i64 f, .slice a n c, .slice l zs.length d, .slice e m g] (0, 0) _ ?_ Try.underlying26 (by rfl) Try.infoNtL2 ?_; exact HR1.out)
  refine Calls.mono (KTo.out _ (KA.out _ KB1.out)) ?_
  rintro e' w2 ⟨g21, g22, g23, rfl, ⟨_, _, _, O2, _⟩, b2⟩
  have HR2 : Hid (Row w2 B 26 #[.int .i64 f, .slice a n c, .slice l zs.length d, .slice e m g]) := HR1.out.below b2 HR1.out.lt
  have KB2 : Hid (Below w.heap.size w w2) := below2 KB1.out b2
  have KS2 : Hid _ := KSp.out g21 g22 g23 w2 O2.n.rd (rd_ints.1 O2.z.rd)
  clear b2 O2 HR1 KB1
  go_wp2_with fail
  refine Calls.mono KS2.out ?_
  rintro e' w4 ⟨rfl, b4⟩
  have HR4 := HR2.out.below b4 HR2.out.lt
  have KB4 := below2 KB2.out b4
  have KE : Hid (∀ W, Below w4.heap.size w4 W → Row W B 26 #[.int .i64 f, .slice a n c, .slice l zs.length d, .slice e m g] ∧ NetA W a n c l zs e m g N Y ∧ Below w.heap.size w W) := fun W hW => ⟨HR4.below hW HR4.lt, KA.out _ (below2 KB4 hW), below2 KB4 hW⟩
  have R4 := (KE.out w4 (Below.refl _ _)).1
  have RR4 : Hid (Row w4 B 26 #[.int .i64 f, .slice a n c, .slice l zs.length d, .slice e m g]) := R4
  have KT4 : Hid _ := KTo.out _ (KE.out w4 (Below.refl _ _)).2.1
  clear b4 HR4 KB4 R4 KS2 HR2 KB2 KA
  go_wp2_with (refine wpList_load_row (by rfl) 26 _ (by rfl) B (by rfl) 26 #[.int .i64 f, .slice a n c, .slice l zs.length d, .slice e m g] (0, 0) _ ?_ Try.underlying26 (by rfl) Try.infoNtL2 ?_; exact RR4.out)
  refine Calls.mono KT4.out ?_
  rintro e' w5 ⟨g1, g2, g3, rfl, ⟨F1, F2, F3, O5, hF5⟩, b5⟩
  obtain ⟨w6, HW6⟩ : ∃ x, Hid (x = w5.alloc (.cells #[.int .i64 f, .slice (some ⟨g1, 0, none⟩) n n, .slice (some ⟨g2, 0, none⟩) zs.length zs.length, .slice (some ⟨g3, 0, none⟩) m m] 31)) := ⟨_, rfl⟩
  obtain ⟨D, HD⟩ : ∃ x, Hid (x = w5.heap.size) := ⟨_, rfl⟩
  have b56 : Below w5.heap.size w5 w6 := by rw [HW6.out]; exact (Below.refl _ _).alloc (Nat.le_refl _) _
  have KX6 : Hid (Row w6 D 31 #[.int .i64 f, .slice (some ⟨g1, 0, none⟩) n n, .slice (some ⟨g2, 0, none⟩) zs.length zs.length, .slice (some ⟨g3, 0, none⟩) m m]) := by show Row _ _ _ _; rw [HW6.out, HD.out]; exact Row.new w5 _ _
  have KO6 : Hid (NtO w6 w4.heap.size n N zs m Y (.slice (some ⟨g1, 0, none⟩) n n) (.slice (some ⟨g2, 0, none⟩) zs.length zs.length) (.slice (some ⟨g3, 0, none⟩) m m) F1 F2 F3) := O5.below b56
  have HFb : Hid (∀ x, F1 x ∨ F2 x ∨ F3 x → w4.heap.size ≤ x ∧ x < D) := fun x hx => by rw [HD.out]; exact hF5 x hx
  have cum6 : Hid (Below w4.heap.size w4 w6) := below2 b5 b56
  have HD4 : Hid (w4.heap.size ≤ D) := by show _ ≤ _; rw [HD.out]; exact b5.size
  have KC6 : Hid _ := KIm.out g1 g2 g3 w6 KO6.out.n.rd (rd_ints.1 KO6.out.z.rd)
  clear b5 b56 O5 hF5 KT4 RR4
  go_wp2_with (rw [← HW6.out, ← HD.out]; refine wpList_load_row (by rfl) 31 _ (by rfl) D (by rfl) 31 #[.int .i64 f, .slice (some ⟨g1, 0, none⟩) n n, .slice (some ⟨g2, 0, none⟩) zs.length zs.length, .slice (some ⟨g3, 0, none⟩) m m] (0, 0) _ ?_ Try.underlying31 (by rfl) Try.infoNt ?_; exact KX6.out)
  refine Calls.mono KC6.out ?_
  rintro e' w8 ⟨rfl, b8⟩
  have cum8 : Hid (Below w4.heap.size w4 w8) := below2 cum6.out b8
  have KX8 : Hid (Row w8 D 31 #[.int .i64 f, .slice (some ⟨g1, 0, none⟩) n n, .slice (some ⟨g2, 0, none⟩) zs.length zs.length, .slice (some ⟨g3, 0, none⟩) m m]) := KX6.out.below b8 KX6.out.lt
  have KO8 : Hid (NtO w8 w4.heap.size n N zs m Y (.slice (some ⟨g1, 0, none⟩) n n) (.slice (some ⟨g2, 0, none⟩) zs.length zs.length) (.slice (some ⟨g3, 0, none⟩) m m) F1 F2 F3) := KO6.out.below b8
  clear b8 KC6 cum6 KX6 KO6 HW6 HD
  go_upto_region 12 with fail
  go_cut [33] from 29 to 33 (fun v wx => Hid (v = .bool false ∧ Below w8.heap.size w8 wx))
  case first =>
    have RB8 := (KE.out _ cum8.out).1
    have q0 := RB8.cell 0
    have q1 := RB8.cell 1
    have q2 := RB8.cell 2
    have q3 := RB8.cell 3
    have y0 := KX8.out.cell 0
    have y1 := KX8.out.cell 1
    have y2 := KX8.out.cell 2
    have y3 := KX8.out.cell 3
    simp at q0 q1 q2 q3 y0 y1 y2 y3
    have lB := RB8.lt
    have lD := KX8.out.lt
    have KTP : Hid _ := KTo.out w8.drew (KE.out w8.drew (below_drewN cum8.out 1)).2.1
    have KO8r : Hid (Rd w8 (ndsD n N) (.slice (some ⟨g1, 0, none⟩) n n) ∧ IntsAt w8 (some ⟨g2, 0, none⟩) zs.length zs ∧ Rd w8 (sysD m Y) (.slice (some ⟨g3, 0, none⟩) m m)) := ⟨KO8.out.n.rd, rd_ints.1 KO8.out.z.rd, KO8.out.y.rd⟩
    clear RB8
    go_region_held3 (fun w' => w'.cell? ⟨B, 0, none⟩ = some (.int .i64 f) ∧ w'.cell? ⟨B, 1, none⟩ = some (.slice a n c) ∧ w'.cell? ⟨B, 2, none⟩ = some (.slice l zs.length d) ∧ w'.cell? ⟨B, 3, none⟩ = some (.slice e m g) ∧ w'.cell? ⟨D, 0, none⟩ = some (.int .i64 f) ∧ w'.cell? ⟨D, 1, none⟩ = some (.slice (some ⟨g1, 0, none⟩) n n) ∧ w'.cell? ⟨D, 2, none⟩ = some (.slice (some ⟨g2, 0, none⟩) zs.length zs.length) ∧ w'.cell? ⟨D, 3, none⟩ = some (.slice (some ⟨g3, 0, none⟩) m m)) (go_keep) ((first | (go_at_call 7; refine Calls.mono (KTP.out) ?_; rintro e' v7 ⟨k1, k2, k3, rfl, ⟨_, _, _, O7, _⟩, b7'⟩; have v7b := below_of_drew b7'; clear b7'; have KO7 : Hid (Rd v7 (ndsD n N) (.slice (some ⟨k1, 0, none⟩) n n) ∧ IntsAt v7 (some ⟨k2, 0, none⟩) zs.length zs ∧ Rd v7 (sysD m Y) (.slice (some ⟨k3, 0, none⟩) m m)) := ⟨O7.n.rd, rd_ints.1 O7.z.rd, O7.y.rd⟩; clear O7; have p0 := (v7b.cell (p := ⟨B, 0, none⟩) lB).trans q0; have z0 := (v7b.cell (p := ⟨D, 0, none⟩) lD).trans y0; have p1 := (v7b.cell (p := ⟨B, 1, none⟩) lB).trans q1; have z1 := (v7b.cell (p := ⟨D, 1, none⟩) lD).trans y1; have p2 := (v7b.cell (p := ⟨B, 2, none⟩) lB).trans q2; have z2 := (v7b.cell (p := ⟨D, 2, none⟩) lD).trans y2; have p3 := (v7b.cell (p := ⟨B, 3, none⟩) lB).trans q3; have z3 := (v7b.cell (p := ⟨D, 3, none⟩) lD).trans y3) | (guard_hyp v7b; go_at_call 9; refine Calls.mono (KEq.out g1 g2 g3 k1 k2 k3 _ ⟨KO8r.out.1.below v7b, KO8r.out.2.1.below v7b, KO8r.out.2.2.below v7b⟩ KO7.out) ?_; rintro e' v8 ⟨rfl, b8'⟩; have b78 := below2 v7b b8'; have s0 := (b78.cell (p := ⟨B, 0, none⟩) lB).trans q0; have t0 := (b78.cell (p := ⟨D, 0, none⟩) lD).trans y0; have s1 := (b78.cell (p := ⟨B, 1, none⟩) lB).trans q1; have t1 := (b78.cell (p := ⟨D, 1, none⟩) lD).trans y1; have s2 := (b78.cell (p := ⟨B, 2, none⟩) lB).trans q2; have t2 := (b78.cell (p := ⟨D, 2, none⟩) lD).trans y2; have s3 := (b78.cell (p := ⟨B, 3, none⟩) lB).trans q3; have t3 := (b78.cell (p := ⟨D, 3, none⟩) lD).trans y3)))
    all_goals
      go_wp2_with fail
      go_meet
      exact ⟨rfl, b78⟩
  obtain ⟨rfl, bc⟩ := hcut.out
  clear hcut
  have KF : Hid (Below w.heap.size w wc) := (KE.out _ (below2 cum8.out bc)).2.2
  clear bc
  go_wp2
  go_ret
  exact ⟨rfl, KF.out⟩
end Go.Proofs.Ytjhbjfplgmcbpaa
namespace Go.Proofs.Ytjhbjfplgmcbpaa.fnExactHealthy
open Go.ChangeShapes Go.WideShapes Go.ChangeAt Go.RowKit
open Go.ChangeMaps (open_string shut_string)
set_option linter.unusedVariables false
theorem own : ownKnob Try.prog.godebug = none := by kernel_rfl
theorem laidOut : laidOutB Try.prog = true := by kernel_rfl
set_option maxRecDepth 100000 in
theorem lifted (os : Os) (started : os.Started) (H : Type) (enc : TypeId × Value → H) :
    ReturnsInHanded {} Try.checked os 4 .any (Rows.fnExactHealthySpec.pre6 enc Try.prog Try.f4 Rows.fnExactHealthyRow.domain false) (Rows.fnExactHealthySpec.post enc Try.prog Try.f4 false true false false) := by
  refine returnsInHanded_of_change (C := Try.checked) own started (by kernel_rfl) Try.func4
    (ChangeSpec.witness6 (enc := enc) (C := Try.checked) false ⟨#[], #[.agg #[.int .i64 0, .slice none 0 0, .slice none 0 0, .slice none 0 0], .string ByteArray.empty], []⟩ 8 (by kernel_rfl) (by kernel_rfl) (by kernel_rfl) (by kernel_rfl)) ?_
  intro W base args ds gs before hval0 hW hcnd _
  have hval : ∀ (j : Nat) t v, Try.f4.params[j]? = some t → args[j]? = some v → Value.okWide Try.prog W .any base t v := hval0
  have hW' := hW
  obtain ⟨p, q, hA0, hV, rfl, hfz, hnd⟩ := hW
  have hA : DataW.TrodAll enc Try.prog W 0 (fun _ => true) true Try.f4.params.toList args.toList ds p := hA0
  rw [Try.params4] at hA hval
  obtain ⟨v0, vs0, d0, ds0, p0, q0, hargs, rfl, rfl, h0, r0⟩ := trodAll_cons hA
  obtain ⟨v1, vs1, d1, ds1, p1, q1, rfl, rfl, rfl, h1, r1⟩ := trodAll_cons r0
  obtain ⟨rfl, rfl, rfl⟩ := trodAll_nil r1
  obtain rfl : args = #[v0, v1] := by cases args; simp_all
  obtain ⟨rfl, rfl⟩ := trodVars_none hV
  obtain ⟨cs0, rfl, _, _⟩ : ∃ cs, v0 = .agg cs ∧ cs.size = Try.prog.cellsOf 26 ∧ Row.okWide Try.prog W .any base 26 cs := by
    have := hval 0 26 v0 rfl rfl
    simpa [Value.okWide, Try.underlying26] using this
  have k0 := h0
  have lt0 : ∀ x ∈ p0, x.block < W.heap.size := by obtain ⟨m, hm⟩ := k0; exact DataW.trod_lt m _ _ _ hm
  obtain ⟨r0f, r0a, r0n, r0c, r0l, r0z, r0d, r0e, r0m, r0g, r0N, r0Y, hcs0, w0⟩ : ∃ (f : Int) (a : Option Addr) (n c : Nat) (l : Option Addr) (zs : List Int) (d : Nat) (e : Option Addr) (m g : Nat) (N : Nat → Nd) (Y : Nat → Sy), cs0.toList = [.int .i64 f, .slice a n c, .slice l zs.length d, .slice e m g] ∧ NetA W a n c l zs e m g N Y := by
    obtain ⟨fuel, hf⟩ := h0
    exact open_net (by simpa [Value.cells] using hf)
  obtain ⟨l0⟩ := cs0
  obtain rfl : l0 = _ := hcs0
  obtain ⟨a1, rfl, rfl, rfl, w1⟩ := open_string Try.underlying9 (hval 1 9 v1 rfl rfl) h1
  clear hA0 hval0
  refine (walk_FnExactHealthy r0f r0a r0n r0c r0l r0z r0d r0e r0m r0g r0N r0Y a1 W w0 w1).mono fun e W' ⟨he, bel⟩ => ?_
  subst he
  exact ⟨_, rfl, _, _, _, [], _, [], hW', trodAll_mk1 (shut_bool Try.underlying4 _), (trodAll_cons_mk (Below.trod laidOut (by kernel_rfl) (of_decide_eq_true (by kernel_rfl)) k0 bel lt0) (trodAll_cons_mk (shut_string Try.underlying9 w1) trodAll_mk0)), rfl, bel.frame _, fun h => by cases h⟩
theorem over : Rows.fnExactHealthyRow.holds Try.pinned (OpenSpec.ofChange Rows.fnExactHealthySpec) :=
  OpenClaim.holds_of_wide 4 Try.f4 rfl rfl rfl rfl rfl rfl rfl ⟨rfl, rfl, rfl, rfl, rfl⟩ rfl rfl rfl rfl rfl (by kernel_rfl) Try.func4 (by kernel_rfl)
    (of_decide_eq_true (by kernel_rfl)) (by unfold Func.isWrapper; first | (rw [if_pos (by decide +kernel)]; kernel_rfl) | (rw [if_neg (by decide +kernel)]; exact ⟨rfl, rfl⟩))
    (fun os started H enc _ => lifted os started H enc)
theorem proved : Rows.FnExactHealthySaid := over
#print axioms proved
end Go.Proofs.Ytjhbjfplgmcbpaa.fnExactHealthy
