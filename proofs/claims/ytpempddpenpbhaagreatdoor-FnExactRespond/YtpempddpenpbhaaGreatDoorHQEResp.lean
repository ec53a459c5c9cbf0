/- For every input: the function Respond of the program answers as its model does, whatever its node, its root and its salt are, and leaves the node as it was. Condition, tied by the card: the listed tables of the library start as the program's text lays them. -/
import Derived.Test.YtpempddpenpbhaaGreatDoorH33
import Derived.Test.YtpempddpenpbhaaGreatDoorH42
import Derived.Test.YtpempddpenpbhaaGreatDoorH37
import Derived.Test.YtpempddpenpbhaaGreatDoorH10
namespace Go.Proofs.YtpempddpenpbhaaGreatDoor
set_option maxRecDepth 2000
open Go.ChangeShapes Go.WideShapes Go.ChangeAt Go.RowKit
set_option maxHeartbeats 4000000 in
theorem walk_FnExactRespond (id f : Int) (a : Option Addr) (n c : Nat) (S : Nat → Sl) (root salt : ByteArray) (w : World) (w0 : Rd w (slsD n S) (.slice a n c) ∧ n ≤ maxLen ∧ ∀ i, i < n → SlB (S i)) (_w1 : root.size ≤ maxLen) (_w2 : salt.size ≤ maxLen) (htab : TabOk w) :
    Calls Tryz.prog 3 #[.agg #[.int .i64 id, .int .i64 f, .slice a n c], .string root, .string salt] w fun e w' => e = .returned (.bool true) ∧ Below w.heap.size w w' := by
  clear _w1 _w2
  obtain ⟨hT, hn, hB⟩ := w0
  have HTb : Hid (TabOk w) := htab
  clear htab
  obtain ⟨B, HB⟩ : ∃ x, Hid (x = w.heap.size) := ⟨_, rfl⟩
  obtain ⟨w0, HW0⟩ : ∃ x, Hid (x = w.alloc (.cells #[.int .i64 id, .int .i64 f, .slice a n c] 24)) := ⟨_, rfl⟩
  have HR0 : Hid (Row w0 B 24 #[.int .i64 id, .int .i64 f, .slice a n c]) := by show Row _ _ _ _; rw [HW0.out, HB.out]; exact Row.new w _ _
  have hb0 : Below w.heap.size w w0 := by rw [HW0.out]; exact (Below.refl _ _).alloc (Nat.le_refl _) _
  have T0 : Rd w0 (slsD n S) (.slice a n c) := hT.below hb0
  have KZ : Hid (Calls Tryz.prog 4 #[.agg #[.int .i64 id, .int .i64 f, .slice a n c], .int .i64 ((1048576 : Nat) : Int)] w0 _) := szNd_any id f a n c S 1048576 w0 T0 (by omega) hn hB
  have KB0 : Hid (Below w.heap.size w w0) := hb0
  clear hT hb0
  by_cases hr0 : root.size ≤ 1048576
  case neg =>
    have hr1 : (root.size : Int) > 1048576 := by omega
    clear hB T0
    go_enter Tryz.func3, Tryz.ntmps3
    go_wp2_with fail
    rw [← HW0.out]
    go_ret
    exact ⟨rfl, KB0.out⟩
  have hr1 : ¬ ((root.size : Int) > 1048576) := by omega
  by_cases hs0 : salt.size ≤ 1048576
  case neg =>
    have hs1 : (salt.size : Int) > 1048576 := by omega
    clear hB T0 hr0
    go_enter Tryz.func3, Tryz.ntmps3
    go_wp2_with fail
    rw [← HW0.out]
    go_ret
    exact ⟨rfl, KB0.out⟩
  have hs1 : ¬ ((salt.size : Int) > 1048576) := by omega
  clear hr0 hs0
  by_cases h0 : wtL n S ≤ 1048576
  case neg =>
    rw [szN_no h0] at KZ
    clear h0 hB T0
    go_enter Tryz.func3, Tryz.ntmps3
    go_wp2_with (rw [← HW0.out, ← HB.out]; refine wpList_load_row (by rfl) 24 _ (by rfl) B (by rfl) 24 _ (0, 0) _ HR0.out Tryz.underlying24 (by rfl) Tryz.infoNdL2 ?_)
    refine Calls.mono KZ.out ?_
    rintro e w1 ⟨rfl, b1⟩
    go_wp2
    go_ret
    exact ⟨rfl, below2 KB0.out b1⟩
  obtain ⟨left, hleft⟩ : ∃ q, 1048576 - wtL n S = q := ⟨_, rfl⟩
  rw [szN_yes h0, hleft] at KZ
  have neg0 : ¬ ((left : Int) < 0) := by omega
  obtain ⟨hn1, hS, hN, _⟩ := wtL_little h0
  have KS : Hid (∀ i, i < n → SlS (S i)) := hS
  have KNN : Hid (∀ i, i < n → SlK (S i)) := hN
  have KT0 : Hid (Rd w0 (slsD n S) (.slice a n c)) := T0
  obtain ⟨ans, HAns⟩ : ∃ x, Hid (reT S root n salt = x) := ⟨_, rfl⟩
  have hff : (ans.toList != ans.toList) = false := by simp
  have hff2 := ba_beq ans
  clear h0 hleft hB T0 hS hN
  go_enter Tryz.func3, Tryz.ntmps3
  go_wp2_with (rw [← HW0.out, ← HB.out]; refine wpList_load_row (by rfl) 24 _ (by rfl) B (by rfl) 24 _ (0, 0) _ HR0.out Tryz.underlying24 (by rfl) Tryz.infoNdL2 ?_)
  refine Calls.mono KZ.out ?_
  rintro e w1 ⟨rfl, b1⟩
  have HR1 : Hid (Row w1 B 24 #[.int .i64 id, .int .i64 f, .slice a n c]) := HR0.out.below b1 HR0.out.lt
  have KT1 : Hid (Rd w1 (slsD n S) (.slice a n c)) := KT0.out.below b1
  have KB1 : Hid (Below w.heap.size w w1) := below2 KB0.out b1
  clear b1 KZ
  go_wp2_with (refine wpList_load_row (by rfl) 24 _ (by rfl) B (by rfl) 24 _ (0, 0) _ HR1.out Tryz.underlying24 (by rfl) Tryz.infoNdL2 ?_)
  refine Calls.mono (toNd_any id f a n c S _ KT1.out hn1 KS.out) ?_
  rintro e w2 ⟨g2, rfl, O2, b2⟩
  have HR2 : Hid (Row w2 B 24 #[.int .i64 id, .int .i64 f, .slice a n c]) := HR1.out.below b2 HR1.out.lt
  have KT2 : Hid (Rd w2 (slsD n S) (.slice a n c)) := KT1.out.below b2
  have KB2 : Hid (Below w.heap.size w w2) := below2 KB1.out b2
  have KS2 : Hid (Calls Tryz.prog 5 #[ndV id f (.slice (some ⟨g2, 0, none⟩) n n), .string root, .string salt] w2 fun e w' => e = .returned (.string ans) ∧ Below w2.heap.size w2 w') := by
    have := sRespond_any id f (some ⟨g2, 0, none⟩) n n S root salt w2 O2.rd hn1 KS.out KNN.out
    rw [HAns.out] at this
    exact this
  clear b2 O2
  go_wp2_with fail
  refine Calls.mono KS2.out ?_
  rintro e w3 ⟨rfl, b3⟩
  have HR3 : Hid (Row w3 B 24 #[.int .i64 id, .int .i64 f, .slice a n c]) := HR2.out.below b3 HR2.out.lt
  have KT3 : Hid (Rd w3 (slsD n S) (.slice a n c)) := KT2.out.below b3
  have KB3 : Hid (Below w.heap.size w w3) := below2 KB2.out b3
  clear b3 KS2
  go_wp2_with (refine wpList_load_row (by rfl) 24 _ (by rfl) B (by rfl) 24 _ (0, 0) _ HR3.out Tryz.underlying24 (by rfl) Tryz.infoNdL2 ?_)
  refine Calls.mono (toNd_any id f a n c S _ KT3.out hn1 KS.out) ?_
  rintro e w4 ⟨g4, rfl, O4, b4⟩
  obtain ⟨w5, HW5⟩ : ∃ x, Hid (x = w4.alloc (.cells #[.int .i64 id, .int .i64 f, .slice (some ⟨g4, 0, none⟩) n n] 29)) := ⟨_, rfl⟩
  obtain ⟨D, HD⟩ : ∃ x, Hid (x = w4.heap.size) := ⟨_, rfl⟩
  have b45 : Below w4.heap.size w4 w5 := by rw [HW5.out]; exact (Below.refl _ _).alloc (Nat.le_refl _) _
  have HX5 : Hid (Row w5 D 29 #[.int .i64 id, .int .i64 f, .slice (some ⟨g4, 0, none⟩) n n]) := by show Row _ _ _ _; rw [HW5.out, HD.out]; exact Row.new w4 _ _
  have HR5 : Hid (Row w5 B 24 #[.int .i64 id, .int .i64 f, .slice a n c]) := HR3.out.below (below2 b4 b45) HR3.out.lt
  have KT5 : Hid (Rd w5 (slsD n S) (.slice a n c)) := (KT3.out.below b4).below b45
  have KO5 : Hid (Rd w5 (slsD n S) (.slice (some ⟨g4, 0, none⟩) n n)) := O4.rd.below b45
  have KB5 : Hid (Below w.heap.size w w5) := below2 KB3.out (below2 b4 b45)
  have KI5 : Hid (Calls Tryz.prog 7 #[ndV id f (.slice (some ⟨g4, 0, none⟩) n n), .string root, .string salt] w5 fun e w' => e = .returned (.string ans) ∧ Below w5.heap.size w5 w') := by
    have := respond_any id f (some ⟨g4, 0, none⟩) n n S root salt w5 KO5.out hn1 KNN.out (HTb.out.below KB5.out)
    rw [HAns.out] at this
    exact this
  clear b4 b45 O4
  go_wp2_with (rw [← HW5.out, ← HD.out]; refine wpList_load_row (by rfl) 29 _ (by rfl) D (by rfl) 29 _ (0, 0) _ HX5.out Tryz.underlying29 (by rfl) Tryz.infoNd ?_)
  refine Calls.mono KI5.out ?_
  rintro e w6 ⟨rfl, b6⟩
  have HR6 : Hid (Row w6 B 24 #[.int .i64 id, .int .i64 f, .slice a n c]) := HR5.out.below b6 HR5.out.lt
  have HX6 : Hid (Row w6 D 29 #[.int .i64 id, .int .i64 f, .slice (some ⟨g4, 0, none⟩) n n]) := HX5.out.below b6 HX5.out.lt
  have KT6 : Hid (Rd w6 (slsD n S) (.slice a n c)) := KT5.out.below b6
  have KO6 : Hid (Rd w6 (slsD n S) (.slice (some ⟨g4, 0, none⟩) n n)) := KO5.out.below b6
  have KB6 : Hid (Below w.heap.size w w6) := below2 KB5.out b6
  clear b6 KI5
  have KTP : Hid _ := toNd_any id f a n c S w6.drew KT6.out.drew hn1 KS.out
  have q0 := HR6.out.cell 0
  have y0 := HX6.out.cell 0
  have q1 := HR6.out.cell 1
  have y1 := HX6.out.cell 1
  have q2 := HR6.out.cell 2
  have y2 := HX6.out.cell 2
  simp at q0 y0 q1 y1 q2 y2
  have lB := HR6.out.lt
  have lD := HX6.out.lt
  go_wp2_with fail
  go_region_held3 (fun w' => w'.cell? ⟨B, 0, none⟩ = some (.int .i64 id) ∧ w'.cell? ⟨B, 1, none⟩ = some (.int .i64 f) ∧ w'.cell? ⟨B, 2, none⟩ = some (.slice a n c) ∧ w'.cell? ⟨D, 0, none⟩ = some (.int .i64 id) ∧ w'.cell? ⟨D, 1, none⟩ = some (.int .i64 f) ∧ w'.cell? ⟨D, 2, none⟩ = some (.slice (some ⟨g4, 0, none⟩) n n)) (go_keep) ((first | (go_at_call 6; refine Calls.mono (KTP.out) ?_; rintro e w7 ⟨g7, rfl, O7, b7'⟩; have b7 := below_of_drew b7'; clear b7'; have KO7 : Hid (Rd w7 (slsD n S) (.slice (some ⟨g7, 0, none⟩) n n)) := O7.rd; clear O7; have p0 := (b7.cell (p := ⟨B, 0, none⟩) lB).trans q0; have z0 := (b7.cell (p := ⟨D, 0, none⟩) lD).trans y0; have p1 := (b7.cell (p := ⟨B, 1, none⟩) lB).trans q1; have z1 := (b7.cell (p := ⟨D, 1, none⟩) lD).trans y1; have p2 := (b7.cell (p := ⟨B, 2, none⟩) lB).trans q2; have z2 := (b7.cell (p := ⟨D, 2, none⟩) lD).trans y2) | (guard_hyp b7; go_at_call 8; refine Calls.mono (eqNd_same id f (some ⟨g4, 0, none⟩) (some ⟨g7, 0, none⟩) n n n S _ (KO6.out.below b7) KO7.out hn1 KS.out) ?_; rintro e w8 ⟨rfl, b8⟩; have b78 := below2 b7 b8; have s0 := (b78.cell (p := ⟨B, 0, none⟩) lB).trans q0; have t0 := (b78.cell (p := ⟨D, 0, none⟩) lD).trans y0; have s1 := (b78.cell (p := ⟨B, 1, none⟩) lB).trans q1; have t1 := (b78.cell (p := ⟨D, 1, none⟩) lD).trans y1; have s2 := (b78.cell (p := ⟨B, 2, none⟩) lB).trans q2; have t2 := (b78.cell (p := ⟨D, 2, none⟩) lD).trans y2)))
  all_goals
    go_wp2
    go_ret
    exact ⟨rfl, below2 KB6.out b78⟩
end Go.Proofs.YtpempddpenpbhaaGreatDoor
namespace Go.Proofs.YtpempddpenpbhaaGreatDoor.fnExactRespond
open Go.ChangeShapes Go.WideShapes Go.ChangeAt Go.RowKit
open Go.ChangeMaps (open_string shut_string)
set_option linter.unusedVariables false
theorem own : ownKnob Tryz.prog.godebug = none := by kernel_rfl
theorem laidOut : laidOutB Tryz.prog = true := by kernel_rfl
set_option maxRecDepth 100000 in
theorem lifted (os : Os) (started : os.Started) (H : Type) (enc : TypeId × Value → H) :
    ReturnsInHanded {} Tryz.checked os 3 .any (fun w args => (Rows.fnExactRespondSpec.pre enc Tryz.prog Tryz.f3 [] false w args ∧ laidMetH Tryz.prog laid3 w) ∧ sizedMet enc Tryz.prog Tryz.f3 (OpenSpec.ofChange Rows.fnExactRespondSpec) false w args)
      (Rows.fnExactRespondSpec.post enc Tryz.prog Tryz.f3 false true false false) := by
  refine returnsInHanded_of_change_and (C := Tryz.checked) (X := fun w _ => laidMetH Tryz.prog laid3 w) (fun _ _ _ hh h => h.of_heap hh) own started (by kernel_rfl) Tryz.func3
    (ChangeSpec.witness_shaped (enc := enc) (C := Tryz.checked) (os := os) (X := fun w _ => laidMetH Tryz.prog laid3 w) false (World.doorLaid Tryz.prog 4000 os) #[.agg #[.int .i64 0, .int .i64 0, .slice none 0 0], .string ByteArray.empty, .string ByteArray.empty] 8 rfl (World.shaped_of_RefB (by kernel_rfl) (by kernel_rfl)) (by kernel_rfl) (by kernel_rfl) (by kernel_rfl) (door_met os _)) ?_
  intro W base args ds gs before hval0 hW _ _ hL _
  have hval : ∀ (j : Nat) t v, Tryz.f3.params[j]? = some t → args[j]? = some v → Value.okWide Tryz.prog W .any base t v := hval0
  have hW' := hW
  obtain ⟨p, q, hA0, hV, rfl, hfz, hnd⟩ := hW
  have hA : DataW.TrodAll enc Tryz.prog W 0 (fun _ => true) true Tryz.f3.params.toList args.toList ds p := hA0
  rw [Tryz.params3] at hA hval
  obtain ⟨v0, vs0, d0, ds0, p0, q0, hargs, rfl, rfl, h0, r0⟩ := trodAll_cons hA
  obtain ⟨v1, vs1, d1, ds1, p1, q1, rfl, rfl, rfl, h1, r1⟩ := trodAll_cons r0
  obtain ⟨v2, vs2, d2, ds2, p2, q2, rfl, rfl, rfl, h2, r2⟩ := trodAll_cons r1
  obtain ⟨rfl, rfl, rfl⟩ := trodAll_nil r2
  obtain rfl : args = #[v0, v1, v2] := by cases args; simp_all
  obtain ⟨rfl, rfl⟩ := trodVars_none hV
  obtain ⟨cs0, rfl, _, _⟩ : ∃ cs, v0 = .agg cs ∧ cs.size = Tryz.prog.cellsOf 24 ∧ Row.okWide Tryz.prog W .any base 24 cs := by
    have := hval 0 24 v0 rfl rfl
    simpa [Value.okWide, Tryz.underlying24] using this
  have k0 := h0
  have lt0 : ∀ x ∈ p0, x.block < W.heap.size := by obtain ⟨m, hm⟩ := k0; exact DataW.trod_lt m _ _ _ hm
  obtain ⟨r0i, r0f, r0a, r0m, r0c, r0S, hcs0, w0⟩ : ∃ (id f : Int) (a : Option Addr) (n c : Nat) (S : Nat → Sl), cs0.toList = [.int .i64 id, .int .i64 f, .slice a n c] ∧ Rd W (slsD n S) (.slice a n c) ∧ n ≤ maxLen ∧ ∀ i, i < n → SlB (S i) := by
    obtain ⟨fuel, hf⟩ := h0
    exact open_node (by simpa [Value.cells] using hf)
  obtain ⟨l0⟩ := cs0
  obtain rfl : l0 = _ := hcs0
  obtain ⟨a1, rfl, rfl, rfl, w1⟩ := open_string Tryz.underlying9 (hval 1 9 v1 rfl rfl) h1
  obtain ⟨a2, rfl, rfl, rfl, w2⟩ := open_string Tryz.underlying9 (hval 2 9 v2 rfl rfl) h2
  clear hA0 hval0
  refine (walk_FnExactRespond r0i r0f r0a r0m r0c r0S a1 a2 W w0 w1 w2 (tab_of_laid hL)).mono fun e W' ⟨he, bel⟩ => ?_
  subst he
  exact ⟨_, rfl, _, _, _, [], _, [], hW', trodAll_mk1 (shut_bool Tryz.underlying4 _), (trodAll_cons_mk (Below.trod laidOut (by kernel_rfl) (of_decide_eq_true (by kernel_rfl)) k0 bel lt0) (trodAll_cons_mk (shut_string Tryz.underlying9 w1) (trodAll_cons_mk (shut_string Tryz.underlying9 w2) trodAll_mk0))), rfl, bel.frame _, fun h => by cases h⟩
theorem over : Rows.fnExactRespondRow.holds Tryz.pinned (OpenSpec.ofChange Rows.fnExactRespondSpec) :=
  OpenClaim.holds_of_wide 3 Tryz.f3 rfl rfl rfl rfl rfl rfl rfl ⟨rfl, rfl, rfl, rfl, rfl⟩ rfl rfl rfl rfl rfl (by kernel_rfl) Tryz.func3 (by kernel_rfl)
    (of_decide_eq_true (by kernel_rfl)) (by unfold Func.isWrapper; first | (rw [if_pos (by decide +kernel)]; kernel_rfl) | (rw [if_neg (by decide +kernel)]; exact ⟨rfl, rfl⟩))
    (fun os started H enc _ => lifted os started H enc)
theorem said : Rows.FnExactRespondSaid := over
theorem proved : Rows.FnExactRespondCardSaid :=
  Claim7.holds_tied_plain_at .later [] [.data, .data, .data] true (true, Rows.fnExactRespondCard.stood.harness.2) false
    said (fun _ h => by cases h) (by kernel_rfl) (fun _ h => by cases h) fnExactRespond_row_tie rfl ⟨rfl, rfl⟩ (by kernel_rfl) rfl
    (fun f fn hf hfn => by
      obtain rfl : f = 3 := Option.some.inj ((show Tryz.prog.funcNamed Rows.fnExactRespondRow.func = some 3 by kernel_rfl).symm.trans hf) |>.symm
      obtain rfl : fn = Tryz.f3 := (Option.some.inj (Tryz.func3.symm.trans hfn)).symm
      exact ⟨by kernel_rfl, fun j t ht => by
        rw [Tryz.params3] at ht
        have hm : t ∈ [24, 9, 9] := by simpa using Array.mem_of_getElem? ht
        have hall : ([24, 9, 9].all fun u => !Tryz.prog.wantsStandIn u) = true := by kernel_rfl
        exact (show Tryz.prog.wantsStandIn t = false by simpa using List.all_eq_true.1 hall t hm)⟩)
    (by kernel_rfl)
#print axioms proved
end Go.Proofs.YtpempddpenpbhaaGreatDoor.fnExactRespond
