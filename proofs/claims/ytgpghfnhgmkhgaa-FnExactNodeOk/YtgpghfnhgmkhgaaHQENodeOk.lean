/- For every input: the function NodeOk of the program answers as its model does, whatever its node is, and leaves it as it was. No condition. -/
import Derived.Test.YtgpghfnhgmkhgaaH31
import Derived.Test.YtgpghfnhgmkhgaaH36
import Derived.Test.YtgpghfnhgmkhgaaH37
import Derived.Test.YtgpghfnhgmkhgaaH34
namespace Go.Proofs.Ytgpghfnhgmkhgaa
set_option maxRecDepth 2000
open Go.ChangeShapes Go.WideShapes Go.ChangeAt Go.RowKit
theorem Try.infoNdL : (Try.prog.info? 24).map (·.size) = some 3 := by kernel_rfl
theorem tot_ge {g : Nat → Nat} {n i : Nat} (hi : i < n) : g i ≤ tot g n := by
  induction n with
  | zero => omega
  | succ n ih =>
    rw [show tot g (n + 1) = tot g n + g n from rfl]
    by_cases e : i = n
    · subst e; omega
    · have := ih (by omega); omega
/-- What the count tells of the slots. -/
theorem wtL_small {n : Nat} {S : Nat → Sl} (h : wtL n S ≤ 1048576) (hB : ∀ i, i < n → SlB (S i)) : n ≤ 1048576 ∧ (∀ i, i < n → SlS (S i)) ∧ ∀ i, i < n → SlN (S i) := by
  unfold wtL at h
  have hw : ∀ i, i < n → wtS (S i) ≤ 1048576 := fun i hi => by have : wtS (S i) ≤ tot (fun i => wtS (S i)) n := tot_ge (g := fun i => wtS (S i)) hi; omega
  refine ⟨by omega, fun i hi => ?_, fun i hi => ?_⟩
  · have := hw i hi
    unfold wtS wtP at this
    exact ⟨by omega, by omega, by omega⟩
  · have := hw i hi
    unfold wtS wtP at this
    exact ⟨by omega, (hB i hi).tx, by omega, by omega⟩
set_option maxHeartbeats 4000000 in
theorem walk_FnExactNodeOk (id f : Int) (a : Option Addr) (n c : Nat) (S : Nat → Sl) (w : World) (w0 : Rd w (slsD n S) (.slice a n c) ∧ n ≤ maxLen ∧ ∀ i, i < n → SlB (S i)) :
    Calls Try.prog 3 #[.agg #[.int .i64 id, .int .i64 f, .slice a n c]] w fun e w' => e = .returned (.bool true) ∧ Below w.heap.size w w' := by
  obtain ⟨hT, hn, hB⟩ := w0
  obtain ⟨B, HB⟩ : ∃ x, Hid (x = w.heap.size) := ⟨_, rfl⟩
  obtain ⟨w0, HW0⟩ : ∃ x, Hid (x = w.alloc (.cells #[.int .i64 id, .int .i64 f, .slice a n c] 24)) := ⟨_, rfl⟩
  have HR0 : Hid (Row w0 B 24 #[.int .i64 id, .int .i64 f, .slice a n c]) := by show Row _ _ _ _; rw [HW0.out, HB.out]; exact Row.new w _ _
  have hb0 : Below w.heap.size w w0 := by rw [HW0.out]; exact (Below.refl _ _).alloc (Nat.le_refl _) _
  have T0 : Rd w0 (slsD n S) (.slice a n c) := hT.below hb0
  have KZ : Hid (Calls Try.prog 8 #[.agg #[.int .i64 id, .int .i64 f, .slice a n c], .int .i64 ((1048576 : Nat) : Int)] w0 _) := szNd_any id f a n c S 1048576 w0 T0 (by omega) hn hB
  have KB0 : Hid (Below w.heap.size w w0) := hb0
  clear hT hb0
  by_cases h0 : wtL n S ≤ 1048576
  case neg =>
    rw [szN_no h0] at KZ
    clear h0 hB T0
    go_enter Try.func3, Try.ntmps3
    go_wp2_with (rw [← HW0.out, ← HB.out]; refine wpList_load_row (by rfl) 24 _ (by rfl) B (by rfl) 24 _ (0, 0) _ HR0.out Try.underlying24 (by rfl) Try.infoNdL ?_)
    refine Calls.mono KZ.out ?_
    rintro e w1 ⟨rfl, b1⟩
    go_wp2
    go_ret
    exact ⟨rfl, below2 KB0.out b1⟩
  obtain ⟨left, hleft⟩ : ∃ q, 1048576 - wtL n S = q := ⟨_, rfl⟩
  rw [szN_yes h0, hleft] at KZ
  have neg0 : ¬ ((left : Int) < 0) := by omega
  obtain ⟨hn1, hS, hN⟩ := wtL_small h0 hB
  have KS : Hid (∀ i, i < n → SlS (S i)) := hS
  have KNN : Hid (∀ i, i < n → SlN (S i)) := hN
  have KT0 : Hid (Rd w0 (slsD n S) (.slice a n c)) := T0
  obtain ⟨ans, HAns⟩ : ∃ x, Hid (ndB id f n S = x) := ⟨_, rfl⟩
  have hff : (ans != ans) = false := by simp
  clear h0 hleft hB T0 hS hN
  go_enter Try.func3, Try.ntmps3
  go_wp2_with (rw [← HW0.out, ← HB.out]; refine wpList_load_row (by rfl) 24 _ (by rfl) B (by rfl) 24 _ (0, 0) _ HR0.out Try.underlying24 (by rfl) Try.infoNdL ?_)
  refine Calls.mono KZ.out ?_
  rintro e w1 ⟨rfl, b1⟩
  have HR1 : Hid (Row w1 B 24 #[.int .i64 id, .int .i64 f, .slice a n c]) := HR0.out.below b1 HR0.out.lt
  have KT1 : Hid (Rd w1 (slsD n S) (.slice a n c)) := KT0.out.below b1
  have KB1 : Hid (Below w.heap.size w w1) := below2 KB0.out b1
  clear b1 KZ
  go_wp2_with (refine wpList_load_row (by rfl) 24 _ (by rfl) B (by rfl) 24 _ (0, 0) _ HR1.out Try.underlying24 (by rfl) Try.infoNdL ?_)
  refine Calls.mono (toNd_any id f a n c S _ KT1.out hn1 KS.out) ?_
  rintro e w2 ⟨g2, rfl, O2, b2⟩
  have HR2 : Hid (Row w2 B 24 #[.int .i64 id, .int .i64 f, .slice a n c]) := HR1.out.below b2 HR1.out.lt
  have KT2 : Hid (Rd w2 (slsD n S) (.slice a n c)) := KT1.out.below b2
  have KB2 : Hid (Below w.heap.size w w2) := below2 KB1.out b2
  have KS2 : Hid (Calls Try.prog 9 #[ndV id f (.slice (some ⟨g2, 0, none⟩) n n)] w2 fun e w' => e = .returned (.bool ans) ∧ Below w2.heap.size w2 w') := by
    have := sNodeOk_any id f (some ⟨g2, 0, none⟩) n n S w2 O2.rd hn1 KNN.out
    rw [HAns.out] at this
    exact this
  clear b2 O2
  go_wp2_with fail
  refine Calls.mono KS2.out ?_
  rintro e w3 ⟨rfl, b3⟩
  have HR3 : Hid (Row w3 B 24 #[.int .i64 id, .int .i64 f, .slice a n c]) := HR2.out.below b3 HR2.out.lt
  have KT3 : Hid (Rd w3 (slsD n S) (.slice a n c)) := KT2.out.below b3
  have KB3 : Hid (Below w.heap.size w w3) := below2 KB2.out b3
  clear b3 KS2
  go_wp2_with (refine wpList_load_row (by rfl) 24 _ (by rfl) B (by rfl) 24 _ (0, 0) _ HR3.out Try.underlying24 (by rfl) Try.infoNdL ?_)
  refine Calls.mono (toNd_any id f a n c S _ KT3.out hn1 KS.out) ?_
  rintro e w4 ⟨g4, rfl, O4, b4⟩
  obtain ⟨w5, HW5⟩ : ∃ x, Hid (x = w4.alloc (.cells #[.int .i64 id, .int .i64 f, .slice (some ⟨g4, 0, none⟩) n n] 29)) := ⟨_, rfl⟩
  obtain ⟨D, HD⟩ : ∃ x, Hid (x = w4.heap.size) := ⟨_, rfl⟩
  have b45 : Below w4.heap.size w4 w5 := by rw [HW5.out]; exact (Below.refl _ _).alloc (Nat.le_refl _) _
  have HX5 : Hid (Row w5 D 29 #[.int .i64 id, .int .i64 f, .slice (some ⟨g4, 0, none⟩) n n]) := by show Row _ _ _ _; rw [HW5.out, HD.out]; exact Row.new w4 _ _
  have HR5 : Hid (Row w5 B 24 #[.int .i64 id, .int .i64 f, .slice a n c]) := HR3.out.below (below2 b4 b45) HR3.out.lt
  have KT5 : Hid (Rd w5 (slsD n S) (.slice a n c)) := (KT3.out.below b4).below b45
  have KO5 : Hid (Rd w5 (slsD n S) (.slice (some ⟨g4, 0, none⟩) n n)) := O4.rd.below b45
  have KB5 : Hid (Below w.heap.size w w5) := below2 KB3.out (below2 b4 b45)
  have KI5 : Hid (Calls Try.prog 11 #[ndV id f (.slice (some ⟨g4, 0, none⟩) n n)] w5 fun e w' => e = .returned (.bool ans) ∧ Below w5.heap.size w5 w') := by
    have := nodeOk_any id f (some ⟨g4, 0, none⟩) n n S w5 KO5.out hn1 KNN.out
    rw [HAns.out] at this
    exact this
  clear b4 b45 O4
  go_wp2_with (rw [← HW5.out, ← HD.out]; refine wpList_load_row (by rfl) 29 _ (by rfl) D (by rfl) 29 _ (0, 0) _ HX5.out Try.underlying29 (by rfl) Try.infoNd ?_)
  refine Calls.mono KI5.out ?_
  rintro e w6 ⟨rfl, b6⟩
  have HR6 : Hid (Row w6 B 24 #[.int .i64 id, .int .i64 f, .slice a n c]) := HR5.out.below b6 HR5.out.lt
  have HX6 : Hid (Row w6 D 29 #[.int .i64 id, .int .i64 f, .slice (some ⟨g4, 0, none⟩) n n]) := HX5.out.below b6 HX5.out.lt
  have KT6 : Hid (Rd w6 (slsD n S) (.slice a n c)) := KT5.out.below b6
  have KO6 : Hid (Rd w6 (slsD n S) (.slice (some ⟨g4, 0, none⟩) n n)) := KO5.out.below b6
  have KB6 : Hid (Below w.heap.size w w6) := below2 KB5.out b6
  clear b6 KI5
  have KTP : Hid _ := toNd_any id f a n c S w6.drew KT6.out.drew hn1 KS.out
  have q0 := HR6.out.cell 0
  have y0 := HX6.out.cell 0
  have q1 := HR6.out.cell 1
  have y1 := HX6.out.cell 1
  have q2 := HR6.out.cell 2
  have y2 := HX6.out.cell 2
  simp at q0 y0 q1 y1 q2 y2
  have lB := HR6.out.lt
  have lD := HX6.out.lt
  go_wp2_with fail
  go_region_held3 (fun w' => w'.cell? ⟨B, 0, none⟩ = some (.int .i64 id) ∧ w'.cell? ⟨B, 1, none⟩ = some (.int .i64 f) ∧ w'.cell? ⟨B, 2, none⟩ = some (.slice a n c) ∧ w'.cell? ⟨D, 0, none⟩ = some (.int .i64 id) ∧ w'.cell? ⟨D, 1, none⟩ = some (.int .i64 f) ∧ w'.cell? ⟨D, 2, none⟩ = some (.slice (some ⟨g4, 0, none⟩) n n)) (go_keep) ((first | (go_at_call 10; refine Calls.mono (KTP.out) ?_; rintro e w7 ⟨g7, rfl, O7, b7'⟩; have b7 := below_of_drew b7'; clear b7'; have KO7 : Hid (Rd w7 (slsD n S) (.slice (some ⟨g7, 0, none⟩) n n)) := O7.rd; clear O7; have p0 := (b7.cell (p := ⟨B, 0, none⟩) lB).trans q0; have z0 := (b7.cell (p := ⟨D, 0, none⟩) lD).trans y0; have p1 := (b7.cell (p := ⟨B, 1, none⟩) lB).trans q1; have z1 := (b7.cell (p := ⟨D, 1, none⟩) lD).trans y1; have p2 := (b7.cell (p := ⟨B, 2, none⟩) lB).trans q2; have z2 := (b7.cell (p := ⟨D, 2, none⟩) lD).trans y2) | (guard_hyp b7; go_at_call 12; refine Calls.mono (eqNd_same id f (some ⟨g4, 0, none⟩) (some ⟨g7, 0, none⟩) n n n S _ (KO6.out.below b7) KO7.out hn1 KS.out) ?_; rintro e w8 ⟨rfl, b8⟩; have b78 := below2 b7 b8; have s0 := (b78.cell (p := ⟨B, 0, none⟩) lB).trans q0; have t0 := (b78.cell (p := ⟨D, 0, none⟩) lD).trans y0; have s1 := (b78.cell (p := ⟨B, 1, none⟩) lB).trans q1; have t1 := (b78.cell (p := ⟨D, 1, none⟩) lD).trans y1; have s2 := (b78.cell (p := ⟨B, 2, none⟩) lB).trans q2; have t2 := (b78.cell (p := ⟨D, 2, none⟩) lD).trans y2)))
  all_goals
    go_wp2
    go_ret
    exact ⟨rfl, below2 KB6.out b78⟩
end Go.Proofs.Ytgpghfnhgmkhgaa
namespace Go.Proofs.Ytgpghfnhgmkhgaa.fnExactNodeOk
open Go.ChangeShapes Go.WideShapes Go.ChangeAt Go.RowKit
open Go.ChangeMaps (open_string shut_string)
set_option linter.unusedVariables false
theorem own : ownKnob Try.prog.godebug = none := by kernel_rfl
theorem laidOut : laidOutB Try.prog = true := by kernel_rfl
set_option maxRecDepth 100000 in
theorem lifted (os : Os) (started : os.Started) (H : Type) (enc : TypeId × Value → H) :
    ReturnsInHanded {} Try.checked os 3 .any (Rows.fnExactNodeOkSpec.pre6 enc Try.prog Try.f3 Rows.fnExactNodeOkRow.domain false) (Rows.fnExactNodeOkSpec.post enc Try.prog Try.f3 false true false false) := by
  refine returnsInHanded_of_change (C := Try.checked) own started (by kernel_rfl) Try.func3
    (ChangeSpec.witness6 (enc := enc) (C := Try.checked) false ⟨#[], #[.agg #[.int .i64 0, .int .i64 0, .slice none 0 0]], []⟩ 8 (by kernel_rfl) (by kernel_rfl) (by kernel_rfl) (by kernel_rfl)) ?_
  intro W base args ds gs before hval0 hW hcnd _
  have hval : ∀ (j : Nat) t v, Try.f3.params[j]? = some t → args[j]? = some v → Value.okWide Try.prog W .any base t v := hval0
  have hW' := hW
  obtain ⟨p, q, hA0, hV, rfl, hfz, hnd⟩ := hW
  have hA : DataW.TrodAll enc Try.prog W 0 (fun _ => true) true Try.f3.params.toList args.toList ds p := hA0
  rw [Try.params3] at hA hval
  obtain ⟨v0, vs0, d0, ds0, p0, q0, hargs, rfl, rfl, h0, r0⟩ := trodAll_cons hA
  obtain ⟨rfl, rfl, rfl⟩ := trodAll_nil r0
  obtain rfl : args = #[v0] := by cases args; simp_all
  obtain ⟨rfl, rfl⟩ := trodVars_none hV
  obtain ⟨cs0, rfl, _, _⟩ : ∃ cs, v0 = .agg cs ∧ cs.size = Try.prog.cellsOf 24 ∧ Row.okWide Try.prog W .any base 24 cs := by
    have := hval 0 24 v0 rfl rfl
    simpa [Value.okWide, Try.underlying24] using this
  have k0 := h0
  have lt0 : ∀ x ∈ p0, x.block < W.heap.size := by obtain ⟨m, hm⟩ := k0; exact DataW.trod_lt m _ _ _ hm
  obtain ⟨r0i, r0f, r0a, r0m, r0c, r0S, hcs0, w0⟩ : ∃ (id f : Int) (a : Option Addr) (n c : Nat) (S : Nat → Sl), cs0.toList = [.int .i64 id, .int .i64 f, .slice a n c] ∧ Rd W (slsD n S) (.slice a n c) ∧ n ≤ maxLen ∧ ∀ i, i < n → SlB (S i) := by
    obtain ⟨fuel, hf⟩ := h0
    exact open_node (by simpa [Value.cells] using hf)
  obtain ⟨l0⟩ := cs0
  obtain rfl : l0 = _ := hcs0
  clear hA0 hval0
  refine (walk_FnExactNodeOk r0i r0f r0a r0m r0c r0S W w0).mono fun e W' ⟨he, bel⟩ => ?_
  subst he
  exact ⟨_, rfl, _, _, _, [], _, [], hW', trodAll_mk1 (shut_bool Try.underlying4 _), (trodAll_cons_mk (Below.trod laidOut (by kernel_rfl) (of_decide_eq_true (by kernel_rfl)) k0 bel lt0) trodAll_mk0), rfl, bel.frame _, fun h => by cases h⟩
theorem over : Rows.fnExactNodeOkRow.holds Try.pinned (OpenSpec.ofChange Rows.fnExactNodeOkSpec) :=
  OpenClaim.holds_of_wide 3 Try.f3 rfl rfl rfl rfl rfl rfl rfl ⟨rfl, rfl, rfl, rfl, rfl⟩ rfl rfl rfl rfl rfl (by kernel_rfl) Try.func3 (by kernel_rfl)
    (of_decide_eq_true (by kernel_rfl)) (by unfold Func.isWrapper; first | (rw [if_pos (by decide +kernel)]; kernel_rfl) | (rw [if_neg (by decide +kernel)]; exact ⟨rfl, rfl⟩))
    (fun os started H enc _ => lifted os started H enc)
theorem proved : Rows.FnExactNodeOkSaid := over
#print axioms proved
end Go.Proofs.Ytgpghfnhgmkhgaa.fnExactNodeOk
