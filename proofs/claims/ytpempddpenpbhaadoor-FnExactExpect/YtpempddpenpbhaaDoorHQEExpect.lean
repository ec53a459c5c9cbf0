/- For every input: the function Expect of the program answers as its model does, whatever its piece and its salt are, and leaves the piece as it was. Condition, tied by the card: the listed tables of the library start as the program's text lays them. -/
import Derived.Test.YtpempddpenpbhaaDoorH25
import Derived.Test.YtpempddpenpbhaaDoorH42
import Derived.Test.YtpempddpenpbhaaDoorH15
namespace Go.Proofs.YtpempddpenpbhaaDoor
set_option maxRecDepth 2000
open Go.ChangeShapes Go.WideShapes Go.ChangeAt Go.RowKit
set_option maxHeartbeats 4000000 in
theorem walk_FnExactExpect (r : ByteArray) (k n i : Int) (b : ByteArray) (a : Option Addr) (m c : Nat) (S : Nat → ByteArray) (s : ByteArray) (w : World) (w0 : ((Lit.int .i64 k).wf = true ∧ (Lit.int .i64 n).wf = true ∧ (Lit.int .i64 i).wf = true) ∧ r.size ≤ maxLen ∧ b.size ≤ maxLen ∧ IsTxt w a m S) (_w1 : s.size ≤ maxLen) (htab : TabOk w) :
    Calls Tryd.prog 3 #[.agg #[.string r, .int .i64 k, .int .i64 n, .int .i64 i, .string b, .slice a m c], .string s] w fun e w' => e = .returned (.bool true) ∧ Below w.heap.size w w' := by
  obtain ⟨⟨u1, u2, u3⟩, hr, hb, hT, hm, hL⟩ := w0
  clear u1 u2 u3 _w1
  have HTb : Hid (TabOk w) := htab
  clear htab
  obtain ⟨B, HB⟩ : ∃ x, Hid (x = w.heap.size) := ⟨_, rfl⟩
  obtain ⟨w0, HW0⟩ : ∃ x, Hid (x = w.alloc (.cells (pcC r k n i b (.slice a m c)) 24)) := ⟨_, rfl⟩
  have HR0 : Hid (Row w0 B 24 (pcC r k n i b (.slice a m c))) := by show Row _ _ _ _; rw [HW0.out, HB.out]; exact Row.new w _ _
  have hb0 : Below w.heap.size w w0 := by rw [HW0.out]; exact (Below.refl _ _).alloc (Nat.le_refl _) _
  have T0 : TxtAt w0 a m S := hT.below hb0
  have KZ : Hid (Calls Tryd.prog 4 #[pcV r k n i b (.slice a m c), .int .i64 ((1048576 : Nat) : Int)] w0 fun e w' => e = .returned (.int .i64 (szPc r b m S 1048576)) ∧ Below w0.heap.size w0 w') := szPc_any r k n i b a m c S 1048576 w0 T0 (by omega) hm hL hr hb
  have KB0 : Hid (Below w.heap.size w w0) := hb0
  have iL : (Tryd.prog.info? 24).map (·.size) = some 6 := by kernel_rfl
  have IL : Hid ((Tryd.prog.info? 24).map (·.size) = some 6) := iL
  clear hT hb0 iL
  by_cases hsz : s.size ≤ 1048576
  case neg =>
    have hs1 : (s.size : Int) > 1048576 := by omega
    clear hL T0
    go_enter Tryd.func3, Tryd.ntmps3
    go_wp2_with fail
    rw [← HW0.out]
    go_ret
    exact ⟨rfl, KB0.out⟩
  have hs1 : ¬ ((s.size : Int) > 1048576) := by omega
  clear hsz
  by_cases h0 : r.size + b.size + (m + tot (fun i => (S i).size) m) ≤ 1048576
  case neg =>
    rw [szPc_no h0] at KZ
    clear h0 hL T0
    go_enter Tryd.func3, Tryd.ntmps3
    go_wp2_with (rw [← HW0.out, ← HB.out]; refine wpList_load_row (by rfl) 24 _ (by rfl) B (by rfl) 24 _ (0, 0) _ HR0.out Tryd.underlying24 (by rfl) IL.out ?_)
    refine Calls.mono KZ.out ?_
    rintro e w1 ⟨rfl, b1⟩
    go_wp2
    go_ret
    exact ⟨rfl, below2 KB0.out b1⟩
  obtain ⟨left, hleft⟩ : ∃ q, 1048576 - (r.size + b.size + (m + tot (fun i => (S i).size) m)) = q := ⟨_, rfl⟩
  rw [szPc_yes h0, hleft] at KZ
  have neg0 : ¬ ((left : Int) < 0) := by omega
  have hm1 : m ≤ 1048576 := by omega
  have KL : Hid (∀ i, i < m → (S i).size ≤ maxLen) := hL
  have KT0 : Hid (TxtAt w0 a m S) := T0
  obtain ⟨ans, HAns⟩ : ∃ x, Hid (exT r k n i b m S s = x) := ⟨_, rfl⟩
  have hff : (ans.toList != ans.toList) = false := by simp
  have hff2 := ba_beq ans
  clear h0 hleft hL T0
  go_enter Tryd.func3, Tryd.ntmps3
  go_wp2_with (rw [← HW0.out, ← HB.out]; refine wpList_load_row (by rfl) 24 _ (by rfl) B (by rfl) 24 _ (0, 0) _ HR0.out Tryd.underlying24 (by rfl) IL.out ?_)
  refine Calls.mono KZ.out ?_
  rintro e w1 ⟨rfl, b1⟩
  have HR1 : Hid (Row w1 B 24 (pcC r k n i b (.slice a m c))) := HR0.out.below b1 HR0.out.lt
  have KT1 : Hid (TxtAt w1 a m S) := KT0.out.below b1
  have KB1 : Hid (Below w.heap.size w w1) := below2 KB0.out b1
  clear b1 KZ
  go_wp2_with (refine wpList_load_row (by rfl) 24 _ (by rfl) B (by rfl) 24 _ (0, 0) _ HR1.out Tryd.underlying24 (by rfl) IL.out ?_)
  refine Calls.mono (toPc_any r k n i b a m c S _ KT1.out hm1) ?_
  rintro e w2 ⟨g2, rfl, O2, b2⟩
  have HR2 : Hid (Row w2 B 24 (pcC r k n i b (.slice a m c))) := HR1.out.below b2 HR1.out.lt
  have KT2 : Hid (TxtAt w2 a m S) := KT1.out.below b2
  have KO2 : Hid (TxtAt w2 (some ⟨g2, 0, none⟩) m S) := OwnT.at O2
  have KB2 : Hid (Below w.heap.size w w2) := below2 KB1.out b2
  have KS2 : Hid (Calls Tryd.prog 5 #[pcV r k n i b (.slice (some ⟨g2, 0, none⟩) m m), .string s] w2 fun e w' => e = .returned (.string ans) ∧ Below w2.heap.size w2 w') := by
    have := sExpect_any r k n i b (some ⟨g2, 0, none⟩) m m S s w2 KO2.out hm1 KL.out
    rw [HAns.out] at this
    exact this
  clear b2 O2
  go_wp2_with fail
  refine Calls.mono KS2.out ?_
  rintro e w3 ⟨rfl, b3⟩
  have HR3 : Hid (Row w3 B 24 (pcC r k n i b (.slice a m c))) := HR2.out.below b3 HR2.out.lt
  have KT3 : Hid (TxtAt w3 a m S) := KT2.out.below b3
  have KB3 : Hid (Below w.heap.size w w3) := below2 KB2.out b3
  clear b3 KS2
  go_wp2_with (refine wpList_load_row (by rfl) 24 _ (by rfl) B (by rfl) 24 _ (0, 0) _ HR3.out Tryd.underlying24 (by rfl) IL.out ?_)
  refine Calls.mono (toPc_any r k n i b a m c S _ KT3.out hm1) ?_
  rintro e w4 ⟨g4, rfl, O4, b4⟩
  obtain ⟨w5, HW5⟩ : ∃ x, Hid (x = w4.alloc (.cells (pcC r k n i b (.slice (some ⟨g4, 0, none⟩) m m)) 27)) := ⟨_, rfl⟩
  obtain ⟨D, HD⟩ : ∃ x, Hid (x = w4.heap.size) := ⟨_, rfl⟩
  have b45 : Below w4.heap.size w4 w5 := by rw [HW5.out]; exact (Below.refl _ _).alloc (Nat.le_refl _) _
  have HX5 : Hid (Row w5 D 27 (pcC r k n i b (.slice (some ⟨g4, 0, none⟩) m m))) := by show Row _ _ _ _; rw [HW5.out, HD.out]; exact Row.new w4 _ _
  have HR5 : Hid (Row w5 B 24 (pcC r k n i b (.slice a m c))) := HR3.out.below (below2 b4 b45) HR3.out.lt
  have KT5 : Hid (TxtAt w5 a m S) := (KT3.out.below b4).below b45
  have KO5 : Hid (TxtAt w5 (some ⟨g4, 0, none⟩) m S) := (OwnT.at O4).below b45
  have KB5 : Hid (Below w.heap.size w w5) := below2 KB3.out (below2 b4 b45)
  have KI5 : Hid (Calls Tryd.prog 7 #[pcV r k n i b (.slice (some ⟨g4, 0, none⟩) m m), .string s] w5 fun e w' => e = .returned (.string ans) ∧ Below w5.heap.size w5 w') := by
    have := expect_any r k n i b (some ⟨g4, 0, none⟩) m m S s w5 KO5.out hm1 KL.out (HTb.out.below KB5.out)
    rw [HAns.out] at this
    exact this
  clear b4 b45 O4
  go_wp2_with (rw [← HW5.out, ← HD.out]; refine wpList_load_row (by rfl) 27 _ (by rfl) D (by rfl) 27 _ (0, 0) _ HX5.out Tryd.underlying27 (by rfl) Tryd.infoPc ?_)
  refine Calls.mono KI5.out ?_
  rintro e w6 ⟨rfl, b6⟩
  have HR6 : Hid (Row w6 B 24 (pcC r k n i b (.slice a m c))) := HR5.out.below b6 HR5.out.lt
  have HX6 : Hid (Row w6 D 27 (pcC r k n i b (.slice (some ⟨g4, 0, none⟩) m m))) := HX5.out.below b6 HX5.out.lt
  have KT6 : Hid (TxtAt w6 a m S) := KT5.out.below b6
  have KO6 : Hid (TxtAt w6 (some ⟨g4, 0, none⟩) m S) := KO5.out.below b6
  have KB6 : Hid (Below w.heap.size w w6) := below2 KB5.out b6
  clear b6 KI5
  have KTP : Hid (Calls Tryd.prog 6 #[pcV r k n i b (.slice a m c)] w6.drew fun e w' => ∃ g, e = .returned (pcV r k n i b (.slice (some ⟨g, 0, none⟩) m m)) ∧ OwnT w' w6.drew.heap.size (some ⟨g, 0, none⟩) m m S ∧ Below w6.drew.heap.size w6.drew w') := toPc_any r k n i b a m c S w6.drew KT6.out hm1
  have q0 := HR6.out.cell 0
  have y0 := HX6.out.cell 0
  have q1 := HR6.out.cell 1
  have y1 := HX6.out.cell 1
  have q2 := HR6.out.cell 2
  have y2 := HX6.out.cell 2
  have q3 := HR6.out.cell 3
  have y3 := HX6.out.cell 3
  have q4 := HR6.out.cell 4
  have y4 := HX6.out.cell 4
  have q5 := HR6.out.cell 5
  have y5 := HX6.out.cell 5
  simp at q0 y0 q1 y1 q2 y2 q3 y3 q4 y4 q5 y5
  have lB := HR6.out.lt
  have lD := HX6.out.lt
  go_wp2_with fail
  go_region_held3 (fun w' => w'.cell? ⟨B, 0, none⟩ = some (.string r) ∧ w'.cell? ⟨B, 1, none⟩ = some (.int .i64 k) ∧ w'.cell? ⟨B, 2, none⟩ = some (.int .i64 n) ∧ w'.cell? ⟨B, 3, none⟩ = some (.int .i64 i) ∧ w'.cell? ⟨B, 4, none⟩ = some (.string b) ∧ w'.cell? ⟨B, 5, none⟩ = some (.slice a m c) ∧ w'.cell? ⟨D, 0, none⟩ = some (.string r) ∧ w'.cell? ⟨D, 1, none⟩ = some (.int .i64 k) ∧ w'.cell? ⟨D, 2, none⟩ = some (.int .i64 n) ∧ w'.cell? ⟨D, 3, none⟩ = some (.int .i64 i) ∧ w'.cell? ⟨D, 4, none⟩ = some (.string b) ∧ w'.cell? ⟨D, 5, none⟩ = some (.slice (some ⟨g4, 0, none⟩) m m)) (go_keep) ((first | (go_at_call 6; refine Calls.mono (KTP.out) ?_; rintro e w7 ⟨g7, rfl, O7, b7'⟩; have b7 := below_of_drew b7'; clear b7'; have KO7 : Hid (TxtAt w7 (some ⟨g7, 0, none⟩) m S) := OwnT.at O7; clear O7; have p0 := (b7.cell (p := ⟨B, 0, none⟩) lB).trans q0; have z0 := (b7.cell (p := ⟨D, 0, none⟩) lD).trans y0; have p1 := (b7.cell (p := ⟨B, 1, none⟩) lB).trans q1; have z1 := (b7.cell (p := ⟨D, 1, none⟩) lD).trans y1; have p2 := (b7.cell (p := ⟨B, 2, none⟩) lB).trans q2; have z2 := (b7.cell (p := ⟨D, 2, none⟩) lD).trans y2; have p3 := (b7.cell (p := ⟨B, 3, none⟩) lB).trans q3; have z3 := (b7.cell (p := ⟨D, 3, none⟩) lD).trans y3; have p4 := (b7.cell (p := ⟨B, 4, none⟩) lB).trans q4; have z4 := (b7.cell (p := ⟨D, 4, none⟩) lD).trans y4; have p5 := (b7.cell (p := ⟨B, 5, none⟩) lB).trans q5; have z5 := (b7.cell (p := ⟨D, 5, none⟩) lD).trans y5) | (guard_hyp b7; go_at_call 8; refine Calls.mono (eqPc_same r k n i b (some ⟨g4, 0, none⟩) (some ⟨g7, 0, none⟩) m m m S _ (KO6.out.below b7) KO7.out hm1) ?_; rintro e w8 ⟨rfl, b8⟩; have b78 := below2 b7 b8; have s0 := (b78.cell (p := ⟨B, 0, none⟩) lB).trans q0; have t0 := (b78.cell (p := ⟨D, 0, none⟩) lD).trans y0; have s1 := (b78.cell (p := ⟨B, 1, none⟩) lB).trans q1; have t1 := (b78.cell (p := ⟨D, 1, none⟩) lD).trans y1; have s2 := (b78.cell (p := ⟨B, 2, none⟩) lB).trans q2; have t2 := (b78.cell (p := ⟨D, 2, none⟩) lD).trans y2; have s3 := (b78.cell (p := ⟨B, 3, none⟩) lB).trans q3; have t3 := (b78.cell (p := ⟨D, 3, none⟩) lD).trans y3; have s4 := (b78.cell (p := ⟨B, 4, none⟩) lB).trans q4; have t4 := (b78.cell (p := ⟨D, 4, none⟩) lD).trans y4; have s5 := (b78.cell (p := ⟨B, 5, none⟩) lB).trans q5; have t5 := (b78.cell (p := ⟨D, 5, none⟩) lD).trans y5)))
  all_goals
    go_wp2
    go_ret
    exact ⟨rfl, below2 KB6.out b78⟩
end Go.Proofs.YtpempddpenpbhaaDoor
namespace Go.Proofs.YtpempddpenpbhaaDoor.fnExactExpect
open Go.ChangeShapes Go.WideShapes Go.ChangeAt Go.RowKit
open Go.ChangeMaps (open_string shut_string)
set_option linter.unusedVariables false
theorem own : ownKnob Tryd.prog.godebug = none := by kernel_rfl
theorem laidOut : laidOutB Tryd.prog = true := by kernel_rfl
set_option maxRecDepth 100000 in
theorem lifted (os : Os) (started : os.Started) (H : Type) (enc : TypeId × Value → H) :
    ReturnsInHanded {} Tryd.checked os 3 .any (fun w args => (Rows.fnExactExpectSpec.pre enc Tryd.prog Tryd.f3 [] false w args ∧ laidMetH Tryd.prog laid3 w) ∧ sizedMet enc Tryd.prog Tryd.f3 (OpenSpec.ofChange Rows.fnExactExpectSpec) false w args)
      (Rows.fnExactExpectSpec.post enc Tryd.prog Tryd.f3 false true false false) := by
  refine returnsInHanded_of_change_and (C := Tryd.checked) (X := fun w _ => laidMetH Tryd.prog laid3 w) (fun _ _ _ hh h => h.of_heap hh) own started (by kernel_rfl) Tryd.func3
    (ChangeSpec.witness_shaped (enc := enc) (C := Tryd.checked) (os := os) (X := fun w _ => laidMetH Tryd.prog laid3 w) false (World.doorLaid Tryd.prog 4000 os) #[.agg #[.string ByteArray.empty, .int .i64 0, .int .i64 0, .int .i64 0, .string ByteArray.empty, .slice none 0 0], .string ByteArray.empty] 8 rfl (World.shaped_of_RefB (by kernel_rfl) (by kernel_rfl)) (by kernel_rfl) (by kernel_rfl) (by kernel_rfl) (door_met os _)) ?_
  intro W base args ds gs before hval0 hW _ _ hL _
  have hval : ∀ (j : Nat) t v, Tryd.f3.params[j]? = some t → args[j]? = some v → Value.okWide Tryd.prog W .any base t v := hval0
  have hW' := hW
  obtain ⟨p, q, hA0, hV, rfl, hfz, hnd⟩ := hW
  have hA : DataW.TrodAll enc Tryd.prog W 0 (fun _ => true) true Tryd.f3.params.toList args.toList ds p := hA0
  rw [Tryd.params3] at hA hval
  obtain ⟨v0, vs0, d0, ds0, p0, q0, hargs, rfl, rfl, h0, r0⟩ := trodAll_cons hA
  obtain ⟨v1, vs1, d1, ds1, p1, q1, rfl, rfl, rfl, h1, r1⟩ := trodAll_cons r0
  obtain ⟨rfl, rfl, rfl⟩ := trodAll_nil r1
  obtain rfl : args = #[v0, v1] := by cases args; simp_all
  obtain ⟨rfl, rfl⟩ := trodVars_none hV
  obtain ⟨cs0, rfl, _, _⟩ : ∃ cs, v0 = .agg cs ∧ cs.size = Tryd.prog.cellsOf 24 ∧ Row.okWide Tryd.prog W .any base 24 cs := by
    have := hval 0 24 v0 rfl rfl
    simpa [Value.okWide, Tryd.underlying24] using this
  have k0 := h0
  have lt0 : ∀ x ∈ p0, x.block < W.heap.size := by obtain ⟨m, hm⟩ := k0; exact DataW.trod_lt m _ _ _ hm
  obtain ⟨r0r, r0k, r0n, r0i, r0b, r0a, r0m, r0c, r0S, hcs0, w0⟩ : ∃ (r : ByteArray) (k n i : Int) (b : ByteArray) (a : Option Addr) (m c : Nat) (S : Nat → ByteArray), cs0.toList = [.string r, .int .i64 k, .int .i64 n, .int .i64 i, .string b, .slice a m c] ∧ ((Lit.int .i64 k).wf = true ∧ (Lit.int .i64 n).wf = true ∧ (Lit.int .i64 i).wf = true) ∧ r.size ≤ maxLen ∧ b.size ≤ maxLen ∧ IsTxt W a m S := by
    obtain ⟨fuel, hf⟩ := h0
    exact open_piece (by simpa [Value.cells] using hf)
  obtain ⟨l0⟩ := cs0
  obtain rfl : l0 = _ := hcs0
  obtain ⟨a1, rfl, rfl, rfl, w1⟩ := open_string Tryd.underlying9 (hval 1 9 v1 rfl rfl) h1
  clear hA0 hval0
  refine (walk_FnExactExpect r0r r0k r0n r0i r0b r0a r0m r0c r0S a1 W w0 w1 (tab_of_laid hL)).mono fun e W' ⟨he, bel⟩ => ?_
  subst he
  exact ⟨_, rfl, _, _, _, [], _, [], hW', trodAll_mk1 (shut_bool Tryd.underlying4 _), (trodAll_cons_mk (Below.trod laidOut (by kernel_rfl) (of_decide_eq_true (by kernel_rfl)) k0 bel lt0) (trodAll_cons_mk (shut_string Tryd.underlying9 w1) trodAll_mk0)), rfl, bel.frame _, fun h => by cases h⟩
theorem over : Rows.fnExactExpectRow.holds Tryd.pinned (OpenSpec.ofChange Rows.fnExactExpectSpec) :=
  OpenClaim.holds_of_wide 3 Tryd.f3 rfl rfl rfl rfl rfl rfl rfl ⟨rfl, rfl, rfl, rfl, rfl⟩ rfl rfl rfl rfl rfl (by kernel_rfl) Tryd.func3 (by kernel_rfl)
    (of_decide_eq_true (by kernel_rfl)) (by unfold Func.isWrapper; first | (rw [if_pos (by decide +kernel)]; kernel_rfl) | (rw [if_neg (by decide +kernel)]; exact ⟨rfl, rfl⟩))
    (fun os started H enc _ => lifted os started H enc)
theorem said : Rows.FnExactExpectSaid := over
theorem proved : Rows.FnExactExpectCardSaid :=
  Claim7.holds_tied_plain_at .later [] [.data, .data, .data] true (true, Rows.fnExactExpectCard.stood.harness.2) false
    said (fun _ h => by cases h) (by kernel_rfl) (fun _ h => by cases h) fnExactExpect_row_tie rfl ⟨rfl, rfl⟩ (by kernel_rfl) rfl
    (fun f fn hf hfn => by
      obtain rfl : f = 3 := Option.some.inj ((show Tryd.prog.funcNamed Rows.fnExactExpectRow.func = some 3 by kernel_rfl).symm.trans hf) |>.symm
      obtain rfl : fn = Tryd.f3 := (Option.some.inj (Tryd.func3.symm.trans hfn)).symm
      exact ⟨by kernel_rfl, fun j t ht => by
        rw [Tryd.params3] at ht
        have hm : t ∈ [24, 9] := by simpa using Array.mem_of_getElem? ht
        have hall : ([24, 9].all fun u => !Tryd.prog.wantsStandIn u) = true := by kernel_rfl
        exact (show Tryd.prog.wantsStandIn t = false by simpa using List.all_eq_true.1 hall t hm)⟩)
    (by kernel_rfl)
#print axioms proved
end Go.Proofs.YtpempddpenpbhaaDoor.fnExactExpect
