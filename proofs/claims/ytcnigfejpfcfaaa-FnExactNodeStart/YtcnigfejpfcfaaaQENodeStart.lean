/- For every input: the function NodeStart of the program answers as its model does, whatever its two numbers are, and its answer owns its memory. No condition. -/
import Derived.Test.YtcnigfejpfcfaaaJ15
import Derived.Test.YtcnigfejpfcfaaaRows
namespace Go.Proofs.Ytcnigfejpfcfaaa
set_option maxRecDepth 2000
open Go.ChangeShapes Go.WideShapes Go.ChangeAt Go.RowKit

theorem markSls_nil (a : Option Addr) (cap k : Nat) (w : World) (_hk : k ≤ 1000) : Calls Try.prog 30 #[.slice a 0 cap, .int .i64 (k : Int)] w fun e w' => e = .returned (.int .i64 (k : Int)) ∧ w' = w := by
  go_enter Try.func30, Try.ntmps30
  go_wp2
  go_loopw [1, 5] (fun vk vi wr => vk = .int .i64 (k : Int) ∧ vi = .int .i64 0 ∧ wr = w) (fun _ _ _ => 0)
  case atStart => exact ⟨rfl, rfl, rfl⟩
  case round =>
    obtain ⟨rfl, rfl, hw⟩ := hrel
    obtain rfl := hw.symm
    go_wp2
    go_ret
    exact ⟨rfl, rfl⟩
theorem heldSls_nil (a : Option Addr) (cap k : Nat) (w : World) (_hk : k ≤ 1000) : Calls Try.prog 31 #[.slice a 0 cap, .int .i64 (k : Int)] w fun e w' => e = .returned (.int .i64 (k : Int)) ∧ w' = w := by
  go_enter Try.func31, Try.ntmps31
  go_wp2
  go_loopw [1, 5] (fun vk vi wr => vk = .int .i64 (k : Int) ∧ vi = .int .i64 0 ∧ wr = w) (fun _ _ _ => 0)
  case atStart => exact ⟨rfl, rfl, rfl⟩
  case round =>
    obtain ⟨rfl, rfl, hw⟩ := hrel
    obtain rfl := hw.symm
    go_wp2
    go_ret
    exact ⟨rfl, rfl⟩
theorem markNd_nil (id f : Int) (a : Option Addr) (w : World) : Calls Try.prog 10 #[ndV id f (.slice a 0 0), .int .i64 1] w fun e w' => e = .returned (.int .i64 1) ∧ Below w.heap.size w w' := by
  have KM : Hid (∀ W, Calls Try.prog 30 #[.slice a 0 0, .int .i64 1] W fun e w' => e = .returned (.int .i64 1) ∧ w' = W) := fun W => markSls_nil a 0 1 W (by omega)
  go_enter Try.func10, Try.ntmps10
  go_wp2_with fail
  refine Calls.mono (KM.out _) ?_
  rintro e w' ⟨rfl, hw⟩
  obtain rfl := hw.symm
  clear hw
  go_wp2
  go_ret
  exact ⟨rfl, (Below.refl _ _).alloc (Nat.le_refl _) _⟩
theorem heldNd_nil (id f : Int) (a : Option Addr) (w : World) : Calls Try.prog 11 #[ndV id f (.slice a 0 0), .int .i64 1] w fun e w' => e = .returned (.int .i64 1) ∧ Below w.heap.size w w' := by
  have KM : Hid (∀ W, Calls Try.prog 31 #[.slice a 0 0, .int .i64 1] W fun e w' => e = .returned (.int .i64 1) ∧ w' = W) := fun W => heldSls_nil a 0 1 W (by omega)
  go_enter Try.func11, Try.ntmps11
  go_wp2_with fail
  refine Calls.mono (KM.out _) ?_
  rintro e w' ⟨rfl, hw⟩
  obtain rfl := hw.symm
  clear hw
  go_wp2
  go_ret
  exact ⟨rfl, (Below.refl _ _).alloc (Nat.le_refl _) _⟩
set_option maxHeartbeats 4000000 in
theorem walk_FnExactNodeStart (a0 a1 : Int) (w : World) (_w0 : (Lit.int .i64 a0).wf = true) (_w1 : (Lit.int .i64 a1).wf = true) :
    Calls Try.prog 3 #[.int .i64 a0, .int .i64 a1] w fun e w' => e = .returned (.bool true) ∧ Below w.heap.size w w' := by
  clear _w0 _w1
  have KS : Hid (∀ W, Calls Try.prog 7 #[.int .i64 a0, .int .i64 a1] W _) := fun W => sNodeStart_any a0 a1 W
  have KI : Hid (∀ W, Calls Try.prog 8 #[.int .i64 a0, .int .i64 a1] W _) := fun W => nodeStart_any a0 a1 W
  obtain ⟨id, HI⟩ : ∃ x, Hid ((if seB a0 a1 then a0 else 0) = x) := ⟨_, rfl⟩
  obtain ⟨f, HF⟩ : ∃ x, Hid ((if seB a0 a1 then a1 else 0) = x) := ⟨_, rfl⟩
  simp only [HI.out, HF.out] at KS KI
  generalize seB a0 a1 = ok at KS KI
  have hfl : (ok != ok) = false := by simp
  have KE : Hid (∀ a b W, Calls Try.prog 9 #[ndV id f (.slice a 0 0), ndV id f (.slice b 0 0)] W fun e w' => e = .returned (.bool true) ∧ Below W.heap.size W w') := fun a b W => eqNd_same id f a b 0 0 0 (fun _ => ⟨⟨#[]⟩, ⟨⟨#[]⟩, 0, 0, 0, ⟨#[]⟩, 0, fun _ => ⟨#[]⟩⟩, false, false, false, false, [], []⟩) W (Rd.nil _ _ _ _ _ _) (Rd.nil _ _ _ _ _ _) (by omega) (fun i hi => absurd hi (Nat.not_lt_zero _))
  have KM : Hid (∀ a W, Calls Try.prog 10 #[ndV id f (.slice a 0 0), .int .i64 1] W fun e w' => e = .returned (.int .i64 1) ∧ Below W.heap.size W w') := fun a W => markNd_nil id f a W
  have KH : Hid (∀ a W, Calls Try.prog 11 #[ndV id f (.slice a 0 0), .int .i64 1] W fun e w' => e = .returned (.int .i64 1) ∧ Below W.heap.size W w') := fun a W => heldNd_nil id f a W
  clear HI HF
  go_enter Try.func3, Try.ntmps3
  go_wp2_with fail
  refine Calls.mono (KS.out _) ?_
  rintro e v1 ⟨rfl, b1⟩
  obtain ⟨B1, HB1⟩ : ∃ x, Hid (x = v1.heap.size) := ⟨_, rfl⟩
  obtain ⟨w1, HW1⟩ : ∃ x, Hid (x = v1.alloc (.cells #[.int .i64 id, .int .i64 f, .slice none 0 0] 24)) := ⟨_, rfl⟩
  have R1 : Hid (Row w1 B1 24 #[.int .i64 id, .int .i64 f, .slice none 0 0]) := by show Row _ _ _ _; rw [HW1.out, HB1.out]; exact Row.new v1 _ _
  have E1 : Hid (Below w.heap.size w w1) := by show Below _ _ _; rw [HW1.out]; exact b1.alloc b1.size _
  clear b1
  go_wp2_with fail
  rw [← HW1.out, ← HB1.out]
  refine Calls.mono (KI.out _) ?_
  rintro e v2 ⟨a2, rfl, _, b2⟩
  obtain ⟨B2, HB2⟩ : ∃ x, Hid (x = v2.heap.size) := ⟨_, rfl⟩
  obtain ⟨w2, HW2⟩ : ∃ x, Hid (x = v2.alloc (.cells #[.int .i64 id, .int .i64 f, .slice a2 0 0] 24)) := ⟨_, rfl⟩
  have R2 : Hid (Row w2 B2 24 #[.int .i64 id, .int .i64 f, .slice a2 0 0]) := by show Row _ _ _ _; rw [HW2.out, HB2.out]; exact Row.new v2 _ _
  have b12 : Below w1.heap.size w1 w2 := by rw [HW2.out]; exact b2.alloc b2.size _
  have R1' : Hid (Row w2 B1 24 #[.int .i64 id, .int .i64 f, .slice none 0 0]) := R1.out.below b12 R1.out.lt
  have E2 : Hid (Below w.heap.size w w2) := below2 E1.out b12
  have x0 := R1'.out.cell 0
  have x1 := R1'.out.cell 1
  have x2 := R1'.out.cell 2
  simp at x0 x1 x2
  clear b2 b12 R1 E1
  go_wp2_with (rw [← HW2.out, ← HB2.out]; refine wpList_load_row (by rfl) 24 _ (by rfl) B2 (by rfl) 24 _ (0, 0) _ R2.out Try.underlying24 (by rfl) Try.infoNd ?_)
  refine Calls.mono (KE.out _ _ _) ?_
  rintro e w3 ⟨rfl, b3⟩
  have l1 := R1'.out.lt
  have l2 := R2.out.lt
  have Q : Hid (∀ W, Below w2.heap.size w2 W → Row W B1 24 #[.int .i64 id, .int .i64 f, .slice none 0 0] ∧ Row W B2 24 #[.int .i64 id, .int .i64 f, .slice a2 0 0] ∧ Below w.heap.size w W) := fun W hW => ⟨R1'.out.below hW l1, R2.out.below hW l2, below2 E2.out hW⟩
  have S3 : Hid (Below w2.heap.size w2 w3) := b3
  have y0 := (Q.out _ b3).2.1.cell 0
  have y1 := (Q.out _ b3).2.1.cell 1
  have y2 := (Q.out _ b3).2.1.cell 2
  simp at y0 y1 y2
  clear x0 x1 x2 b3 R1' R2 E2
  go_wp2_with fail
  refine Calls.mono (KM.out _ _) ?_
  rintro e w4 ⟨rfl, b4⟩
  have S4 : Hid (Below w2.heap.size w2 w4) := below2 S3.out b4
  replace y0 := (Q.out _ S4.out).2.1.cell 0
  replace y1 := (Q.out _ S4.out).2.1.cell 1
  replace y2 := (Q.out _ S4.out).2.1.cell 2
  simp at y0 y1 y2
  clear b4 S3
  go_wp2_with fail
  refine Calls.mono (KH.out _ _) ?_
  rintro e w5 ⟨rfl, b5⟩
  have S5 : Hid (Below w2.heap.size w2 w5) := below2 S4.out b5
  clear b5 S4 y0 y1 y2
  go_wp2_with fail
  refine Calls.mono (KI.out _) ?_
  rintro e v6 ⟨a6, rfl, _, b6⟩
  obtain ⟨B6, HB6⟩ : ∃ x, Hid (x = v6.heap.size) := ⟨_, rfl⟩
  obtain ⟨w6, HW6⟩ : ∃ x, Hid (x = v6.alloc (.cells #[.int .i64 id, .int .i64 f, .slice a6 0 0] 24)) := ⟨_, rfl⟩
  have R6 : Hid (Row w6 B6 24 #[.int .i64 id, .int .i64 f, .slice a6 0 0]) := by show Row _ _ _ _; rw [HW6.out, HB6.out]; exact Row.new v6 _ _
  have b56 : Below w5.heap.size w5 w6 := by rw [HW6.out]; exact b6.alloc b6.size _
  have S6 : Hid (Below w2.heap.size w2 w6) := below2 S5.out b56
  have x0 := (Q.out _ S6.out).1.cell 0
  have x1 := (Q.out _ S6.out).1.cell 1
  have x2 := (Q.out _ S6.out).1.cell 2
  simp at x0 x1 x2
  clear b6 b56 S5
  go_wp2_with (rw [← HW6.out, ← HB6.out]; refine wpList_load_row (by rfl) 24 _ (by rfl) B6 (by rfl) 24 _ (0, 0) _ R6.out Try.underlying24 (by rfl) Try.infoNd ?_)
  refine Calls.mono (KE.out _ _ _) ?_
  rintro e w7 ⟨rfl, b7⟩
  have S7 : Hid (Below w2.heap.size w2 w7) := below2 S6.out b7
  have y0 := (Q.out _ S7.out).2.1.cell 0
  have y1 := (Q.out _ S7.out).2.1.cell 1
  have y2 := (Q.out _ S7.out).2.1.cell 2
  simp at y0 y1 y2
  clear b7 S6 x0 x1 x2
  go_wp2_with fail
  refine Calls.mono (KH.out _ _) ?_
  rintro e w8 ⟨rfl, b8⟩
  have S8 : Hid (Below w.heap.size w w8) := (Q.out _ (below2 S7.out b8)).2.2
  clear b8 S7 y0 y1 y2
  go_wp2
  go_ret
  exact ⟨rfl, S8.out⟩
end Go.Proofs.Ytcnigfejpfcfaaa
namespace Go.Proofs.Ytcnigfejpfcfaaa.fnExactNodeStart
open Go.ChangeShapes Go.WideShapes Go.ChangeAt Go.RowKit
open Go.ChangeMaps (open_string shut_string)
set_option linter.unusedVariables false
theorem own : ownKnob Try.prog.godebug = none := by kernel_rfl
set_option maxRecDepth 100000 in
theorem lifted (os : Os) (started : os.Started) (H : Type) (enc : TypeId × Value → H) :
    ReturnsInHanded {} Try.checked os 3 .any (Rows.fnExactNodeStartSpec.pre6 enc Try.prog Try.f3 Rows.fnExactNodeStartRow.domain false) (Rows.fnExactNodeStartSpec.post enc Try.prog Try.f3 false true false false) := by
  refine returnsInHanded_of_change (C := Try.checked) own started (by kernel_rfl) Try.func3
    (ChangeSpec.witness6 (enc := enc) (C := Try.checked) false ⟨#[], #[.int .i64 0, .int .i64 0], []⟩ 8 (by kernel_rfl) (by kernel_rfl) (by kernel_rfl) (by kernel_rfl)) ?_
  intro W base args ds gs before hval0 hW hcnd _
  have hval : ∀ (j : Nat) t v, Try.f3.params[j]? = some t → args[j]? = some v → Value.okWide Try.prog W .any base t v := hval0
  have hW' := hW
  obtain ⟨p, q, hA0, hV, rfl, hfz, hnd⟩ := hW
  have hA : DataW.TrodAll enc Try.prog W 0 (fun _ => true) true Try.f3.params.toList args.toList ds p := hA0
  rw [Try.params3] at hA hval
  obtain ⟨v0, vs0, d0, ds0, p0, q0, hargs, rfl, rfl, h0, r0⟩ := trodAll_cons hA
  obtain ⟨v1, vs1, d1, ds1, p1, q1, rfl, rfl, rfl, h1, r1⟩ := trodAll_cons r0
  obtain ⟨rfl, rfl, rfl⟩ := trodAll_nil r1
  obtain rfl : args = #[v0, v1] := by cases args; simp_all
  obtain ⟨rfl, rfl⟩ := trodVars_none hV
  obtain ⟨a0, rfl, rfl, rfl, w0⟩ := open_int Try.underlying3 (hval 0 3 v0 rfl rfl) h0
  obtain ⟨a1, rfl, rfl, rfl, w1⟩ := open_int Try.underlying3 (hval 1 3 v1 rfl rfl) h1
  clear hA0 hval0
  simp only [List.append_nil] at hW'
  refine (walk_FnExactNodeStart a0 a1 W w0 w1).mono fun e W' ⟨he, bel⟩ => ?_
  subst he
  exact ⟨_, rfl, _, _, _, [], [], [], hW', trodAll_mk1 (shut_bool Try.underlying4 _), (trodAll_cons_mk (shut_int Try.underlying3 w0) (trodAll_cons_mk (shut_int Try.underlying3 w1) trodAll_mk0)), rfl, bel.frame _, fun h => by cases h⟩
theorem over : Rows.fnExactNodeStartRow.holds Try.pinned (OpenSpec.ofChange Rows.fnExactNodeStartSpec) :=
  OpenClaim.holds_of_wide 3 Try.f3 rfl rfl rfl rfl rfl rfl rfl ⟨rfl, rfl, rfl, rfl, rfl⟩ rfl rfl rfl rfl rfl (by kernel_rfl) Try.func3 (by kernel_rfl)
    (of_decide_eq_true (by kernel_rfl)) (by unfold Func.isWrapper; first | (rw [if_pos (by decide +kernel)]; kernel_rfl) | (rw [if_neg (by decide +kernel)]; exact ⟨rfl, rfl⟩))
    (fun os started H enc _ => lifted os started H enc)
theorem proved : Rows.FnExactNodeStartSaid := over
#print axioms proved
end Go.Proofs.Ytcnigfejpfcfaaa.fnExactNodeStart
