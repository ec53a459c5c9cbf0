/- For every input: a long rolled both ways is itself, and a round of mixing loses nothing: it is taken back step by step; the program's answers are the model's. No condition. -/
import Derived.Test.YtlcaofbangbjlaaFrom
import Derived.Test.YtlcaofbangbjlaaDrawX
import Derived.Test.YtlcaofbangbjlaaSSip
import Derived.Test.YtlcaofbangbjlaaSSipS
namespace Go.Proofs.Ytlcaofbangbjlaa
open Go.ChangeShapes Go.WideShapes Go.ChangeAt Go.RowKit
open Gs (U rolI V4 mx)

theorem sub_back (x y : BitVec 64) : (x + y) - y = x := Gs.add_back x y
/-- A round of mixing taken back, step by step. -/
theorem unmix (v0 v1 v2 v3 m0 m1 m2 m3 : BitVec 64) (h : mx ⟨v0, v1, v2, v3⟩ = ⟨m0, m1, m2, m3⟩) :
    ∃ c1 b0 c0 d0 ra a0, rolI m2 32 = c1 ∧ rolI (m1 ^^^ c1) (-17) = b0 ∧ c1 - b0 = c0 ∧ rolI (m3 ^^^ m0) (-21) = d0 ∧ m0 - d0 = ra ∧ rolI (d0 ^^^ c0) (-16) = v3 ∧ c0 - v3 = v2 ∧ rolI ra 32 = a0 ∧ rolI (b0 ^^^ a0) (-13) = v1 ∧ a0 - v1 = v0 := by
  simp only [mx, V4.mk.injEq] at h
  obtain ⟨rfl, rfl, rfl, rfl⟩ := h
  refine ⟨v2 + v3 + (rolI v1 13 ^^^ (v0 + v1)), rolI v1 13 ^^^ (v0 + v1), v2 + v3, rolI v3 16 ^^^ (v2 + v3), rolI (v0 + v1) 32, v0 + v1, ?_, ?_, ?_, ?_, ?_, ?_, ?_, ?_, ?_, ?_⟩
  · exact Gs.rolI_rolI _ _ _ (by decide)
  · rw [Gs.xor_back]; exact Gs.rolI_rolI _ _ _ (by decide)
  · exact sub_back _ _
  · rw [Gs.xor_back]; exact Gs.rolI_rolI _ _ _ (by decide)
  · exact sub_back _ _
  · rw [Gs.xor_back]; exact Gs.rolI_rolI _ _ _ (by decide)
  · exact sub_back _ _
  · exact Gs.rolI_rolI _ _ _ (by decide)
  · rw [Gs.xor_back]; exact Gs.rolI_rolI _ _ _ (by decide)
  · exact sub_back _ _

theorem eqArr (a b c d : Int) (w : World) : (Op.equalIn 10000 27 (.agg #[.int .u64 a, .int .u64 b, .int .u64 c, .int .u64 d]) (.agg #[.int .u64 a, .int .u64 b, .int .u64 c, .int .u64 d])).run Try.prog w = .ok true w := by
  have u3 := Try.underlying24
  have a3 := Try.isAgg24
  have z3 := Try.sizeOf24
  rw [show (10000 : Nat) = 9999 + 1 from rfl, Op.equalIn]
  simp only [Sem.run_bind, run_underlying Try.underlying27, Result.andThen_ok]
  simp only [Std.Legacy.Range.forIn_eq_forIn_range', Std.Legacy.Range.size, Nat.sub_zero, Nat.add_sub_cancel, Nat.div_one, List.range'_succ, List.range'_zero, List.forIn_cons, List.forIn_nil]
  go_simp

theorem belowOfDrew {w w1 : World} (h : Below w.drew.heap.size w.drew w1) : Below w.heap.size w w1 := ⟨h.os, h.tape, h.output, h.size, h.block⟩

set_option maxHeartbeats 8000000 in
theorem walk_FnMixed (a0 : Option Addr) (len0 cap0 : Nat) (z0 : List Int) (w : World) (w0 : IsRow .u8 w a0 len0 cap0 z0) :
    Calls Try.prog 3 #[.slice a0 len0 cap0] w fun e w' => e = .returned (.bool true) ∧ Below w.heap.size w w' := by
  by_cases h0 : 1048576 < len0
  · clear w0
    have h0' : (1048576 : Int) < (len0 : Int) := by omega
    go_enter Try.func3, Try.ntmps3
    go_wp2_with (go_at_call 12; refine (big_any _ _ _ _).mono ?_; rintro e w' ⟨rfl, rfl⟩)
    go_ret
    exact ⟨rfl, Below.refl _ _⟩
  · have hc := w0.code (by omega)
    clear w0
    have h0' : ¬ (1048576 : Int) < (len0 : Int) := by omega
    go_enter Try.func3, Try.ntmps3
    go_wp2_with fail
    refine (big_any _ _ _ _).mono ?_
    rintro e w' ⟨rfl, hw⟩
    obtain rfl := hw.symm
    go_wp2_with fail
    refine (drawRoll_any _ _ _ _ hc).mono ?_
    rintro e w1 ⟨x, n, rfl, hb1⟩
    have hc1 := hc.below hb1
    clear hc
    go_wp2_with fail
    refine (drawMix_any _ _ _ _ hc1).mono ?_
    rintro e w2 ⟨⟨v0, v1, v2, v3⟩, rfl, hb2⟩
    have hc2 := hc1.below hb2
    clear hc1
    obtain ⟨G, HG⟩ : ∃ G, Hid (G = w2.heap.size) := ⟨_, rfl⟩
    obtain ⟨w3, HW3⟩ : ∃ x, Hid (x = w2.alloc (.cells (C4 ⟨v0, v1, v2, v3⟩) 27)) := ⟨_, rfl⟩
    have R3 : Hid (Row w3 G 27 (C4 ⟨v0, v1, v2, v3⟩)) := by show Row _ _ _ _; rw [HW3.out, HG.out]; exact Row.new w2 _ _
    have hb3 : Below w2.heap.size w2 w3 := by rw [HW3.out]; exact (Below.refl _ _).alloc (Nat.le_refl _) _
    have hc3 := hc2.below hb3
    have hb13 : Below w.heap.size w w3 := below2 (below2 hb1 hb2) hb3
    have hGw : w.heap.size ≤ G := by rw [HG.out]; exact Nat.le_trans hb1.size hb2.size
    clear hc2 hb1 hb2 hb3
    go_wp2_with fail
    rw [← HW3.out, ← HG.out]
    refine (drawSip_any _ _ _ _ hc3).mono ?_
    rintro e w4 ⟨a, b, s, hs, rfl, hb4⟩
    have R4 : Hid (Row w4 G 27 (C4 ⟨v0, v1, v2, v3⟩)) := R3.out.below hb4 R3.out.lt
    have hb14 : Hid (Below w.heap.size w w4) := below2 hb13 hb4
    clear hc3 hb13 hb4 R3
    obtain ⟨k, hk, HK⟩ : ∃ k : Int, n.tmod 64 = k ∧ Hid (k = n.tmod 64) := ⟨_, rfl, rfl⟩
    have hk1 : -64 < k := by have := tmod64 n; omega
    have hk2 : k < 64 := by have := tmod64 n; omega
    have hkw : IntKind.i64.wrap (64 - k) = 64 - k := by rw [IntKind.wrap_i64]; omega
    have hback : rolI (rolI x n) (64 - k) = x := Gs.rolI_rolI x n _ (by have := tmod64 n; omega)
    have hR : ∀ w, Calls Try.prog 16 #[.int .u64 (U x), .int .i64 n] w _ := fun w => roll_any x n w
    have hS : ∀ w, Calls Try.prog 17 #[.int .u64 (U x), .int .i64 n] w _ := fun w => sRoll_any x n w
    have hT : ∀ w, Calls Try.prog 16 #[.int .u64 (U (rolI x n)), .int .i64 (64 - k)] w _ := fun w => roll_any (rolI x n) (64 - k) w
    rw [hback] at hT
    generalize rolI x n = r at hR hS hT
    have hM : ∀ w, Calls Try.prog 18 #[A4 ⟨v0, v1, v2, v3⟩] w _ := fun w => mix_any ⟨v0, v1, v2, v3⟩ w
    have hN : ∀ w, Calls Try.prog 19 #[A4 ⟨v0, v1, v2, v3⟩] w _ := fun w => sMix_any ⟨v0, v1, v2, v3⟩ w
    obtain ⟨m0, m1, m2, m3, HM⟩ : ∃ m0 m1 m2 m3, Hid (mx ⟨v0, v1, v2, v3⟩ = ⟨m0, m1, m2, m3⟩) := ⟨_, _, _, _, rfl⟩
    rw [HM.out] at hM hN
    have hP : ∀ w, Calls Try.prog 20 #[.int .u64 (U a), .int .u64 (U b), .string s] w _ := fun w => sip_any a b s w (by omega)
    have hQ : ∀ w, Calls Try.prog 21 #[.int .u64 (U a), .int .u64 (U b), .string s] w _ := fun w => sSip_any a b s w (by omega)
    generalize Gs.sip (tat s) a b s.size = p at hP hQ
    have KR : Hid _ := hR
    have KS : Hid _ := hS
    have KT : Hid _ := hT
    have KM : Hid _ := hM
    have KN : Hid _ := hN
    have KP : Hid _ := hP
    have KQ : Hid _ := hQ
    clear hR hS hT hM hN hP hQ hback
    have eA := eqArr (U m0) (U m1) (U m2) (U m3)
    have e1 : (U r != U r) = false := by simp
    have e2 : (U x != U x) = false := by simp
    have e3 : (U p != U p) = false := by simp
    go_wp2_with fail
    refine Calls.mono (KR.out _) ?_
    rintro e w' ⟨rfl, hw⟩
    obtain rfl := hw.symm
    clear hw
    have c0 := R4.out.cell 0
    have c1 := R4.out.cell 1
    have c2 := R4.out.cell 2
    have c3 := R4.out.cell 3
    simp at c0 c1 c2 c3
    go_wp2_with fail
    go_region_held3 (fun w' => w'.cell? ⟨G, 0, none⟩ = some (.int .u64 (U v0)) ∧ w'.cell? ⟨G, 1, none⟩ = some (.int .u64 (U v1)) ∧ w'.cell? ⟨G, 2, none⟩ = some (.int .u64 (U v2)) ∧ w'.cell? ⟨G, 3, none⟩ = some (.int .u64 (U v3))) (go_keep) ((first | (go_at_call 17; refine Calls.mono (KS.out _) ?_; rintro e w' ⟨rfl, hw⟩; obtain rfl := hw.symm; clear hw) | (go_at_call 16; refine Calls.mono (KT.out _) ?_; rintro e w' ⟨rfl, hw⟩; obtain rfl := hw.symm; clear hw) | (go_at_call 18; refine Calls.mono (KM.out _) ?_; rintro e w5 ⟨rfl, hb5'⟩; have hb5 := belowOfDrew hb5'; clear hb5'; have h50 := (hb5.cell (p := ⟨G, 0, none⟩) (block_lt_of_cell c0)).trans c0; have h51 := (hb5.cell (p := ⟨G, 1, none⟩) (block_lt_of_cell c1)).trans c1; have h52 := (hb5.cell (p := ⟨G, 2, none⟩) (block_lt_of_cell c2)).trans c2; have h53 := (hb5.cell (p := ⟨G, 3, none⟩) (block_lt_of_cell c3)).trans c3) | (guard_hyp hb5; go_at_call 19; refine Calls.mono (KN.out _) ?_; rintro e w6 ⟨rfl, hb6⟩; have h60 := (hb6.cell (p := ⟨G, 0, none⟩) (block_lt_of_cell h50)).trans h50; have h61 := (hb6.cell (p := ⟨G, 1, none⟩) (block_lt_of_cell h51)).trans h51; have h62 := (hb6.cell (p := ⟨G, 2, none⟩) (block_lt_of_cell h52)).trans h52; have h63 := (hb6.cell (p := ⟨G, 3, none⟩) (block_lt_of_cell h53)).trans h53) | (guard_hyp hb6; go_at_call 20; refine Calls.mono (KP.out _) ?_; rintro e w7 ⟨rfl, hb7⟩; have h70 := (hb7.cell (p := ⟨G, 0, none⟩) (block_lt_of_cell h60)).trans h60; have h71 := (hb7.cell (p := ⟨G, 1, none⟩) (block_lt_of_cell h61)).trans h61; have h72 := (hb7.cell (p := ⟨G, 2, none⟩) (block_lt_of_cell h62)).trans h62; have h73 := (hb7.cell (p := ⟨G, 3, none⟩) (block_lt_of_cell h63)).trans h63) | (guard_hyp hb7; go_at_call 21; refine Calls.mono (KQ.out _) ?_; rintro e w8 ⟨rfl, hb8⟩; have h80 := (hb8.cell (p := ⟨G, 0, none⟩) (block_lt_of_cell h70)).trans h70; have h81 := (hb8.cell (p := ⟨G, 1, none⟩) (block_lt_of_cell h71)).trans h71; have h82 := (hb8.cell (p := ⟨G, 2, none⟩) (block_lt_of_cell h72)).trans h72; have h83 := (hb8.cell (p := ⟨G, 3, none⟩) (block_lt_of_cell h73)).trans h73)))
    all_goals
      have hb48 : Below w4.heap.size w4 w8 := below2 (below2 hb5 hb6) (below2 hb7 hb8)
      have R8 : Hid (Row w8 G 27 (C4 ⟨v0, v1, v2, v3⟩)) := R4.out.below hb48 R4.out.lt
      have hb18 : Hid (Below w.heap.size w w8) := below2 hb14.out hb48
      clear c0 c1 c2 c3 h50 h51 h52 h53 h60 h61 h62 h63 h70 h71 h72 h73 h80 h81 h82 h83 hb5 hb6 hb7 hb8 hb48 R4 hb14 eA KS KT KP KQ KN e1 e2 e3 hkw hk
      go_wp2_with (refine wpList_load_row (by rfl) 27 _ (by rfl) G (by rfl) 27 _ (0, 0) _ R8.out Try.underlying27 (by rfl) Try.info4 ?_)
      refine Calls.mono (KM.out _) ?_
      rintro e w9 ⟨rfl, hb9⟩
      have hG8 := R8.out.lt
      have R9 : Hid (Row w9 G 27 (C4 ⟨v0, v1, v2, v3⟩)) := R8.out.below hb9 R8.out.lt
      have hb19 : Hid (Below w.heap.size w w9) := below2 hb18.out hb9
      obtain ⟨G9, HG9⟩ : ∃ G, Hid (G = w9.heap.size) := ⟨_, rfl⟩
      obtain ⟨xf, HXF⟩ : ∃ x, Hid (x = w9.alloc (.cells (C4 ⟨v0, v1, v2, v3⟩) 27)) := ⟨_, rfl⟩
      have RA : Hid (Row xf G9 27 (C4 ⟨v0, v1, v2, v3⟩)) := by show Row _ _ _ _; rw [HXF.out, HG9.out]; exact Row.new w9 _ _
      have RB : Hid (Row xf G 27 (C4 ⟨v0, v1, v2, v3⟩)) := by show Row _ _ _ _; rw [HXF.out]; exact R9.out.alloc _
      have BF : Hid (Below w.heap.size w xf) := by show Below _ _ _; rw [HXF.out]; exact hb19.out.alloc hb19.out.size _
      clear hb9 R8 R9 hb18 hG8
      obtain ⟨y1, y2, y3, y4, y5, y6, E1, E2, E3, E4, E5, E6, E7, E8, E9, E10⟩ := unmix v0 v1 v2 v3 m0 m1 m2 m3 HM.out
      have hxor := Gs.U_xor
      have hsub := Gs.U_sub
      have eV := eqArr (U v0) (U v1) (U v2) (U v3)
      go_wp2_with (first | (go_at_call 16; refine (roll_any _ _ _).mono ?_; rintro e w' ⟨rfl, hw⟩; obtain rfl := hw.symm; clear hw) | (rw [← HXF.out, ← HG9.out]; refine wpList_load_row (by rfl) 27 _ (by rfl) G9 (by rfl) 27 _ (0, 0) _ RA.out Try.underlying27 (by rfl) Try.info4 ?_; have MK : True := trivial) | (guard_hyp MK; refine wpList_load_row (by rfl) 27 _ (by rfl) G (by rfl) 27 _ (0, 0) _ RB.out Try.underlying27 (by rfl) Try.info4 ?_; clear MK))
      go_ret
      exact ⟨rfl, BF.out⟩
end Go.Proofs.Ytlcaofbangbjlaa
namespace Go.Proofs.Ytlcaofbangbjlaa.fnMixed
open Go.ChangeShapes Go.WideShapes Go.ChangeAt Go.RowKit
open Go.ChangeMaps (open_string shut_string)
set_option linter.unusedVariables false
theorem own : ownKnob Try.prog.godebug = none := by kernel_rfl
theorem laidOut : laidOutB Try.prog = true := by kernel_rfl
set_option maxRecDepth 100000 in
theorem lifted (os : Os) (started : os.Started) (H : Type) (enc : TypeId × Value → H) :
    ReturnsInHanded {} Try.checked os 3 .any (Rows.fnMixedSpec.pre6 enc Try.prog Try.f3 Rows.fnMixedRow.domain false) (Rows.fnMixedSpec.post enc Try.prog Try.f3 false true false false) := by
  refine returnsInHanded_of_change (C := Try.checked) own started (by kernel_rfl) Try.func3
    (ChangeSpec.witness6 (enc := enc) (C := Try.checked) false ⟨#[], #[.slice none 0 0], []⟩ 8 (by kernel_rfl) (by kernel_rfl) (by kernel_rfl) (by kernel_rfl)) ?_
  intro W base args ds gs before hval0 hW hcnd _
  have hval : ∀ (j : Nat) t v, Try.f3.params[j]? = some t → args[j]? = some v → Value.okWide Try.prog W .any base t v := hval0
  have hW' := hW
  obtain ⟨p, q, hA0, hV, rfl, hfz, hnd⟩ := hW
  have hA : DataW.TrodAll enc Try.prog W 0 (fun _ => true) true Try.f3.params.toList args.toList ds p := hA0
  rw [Try.params3] at hA hval
  obtain ⟨v0, vs0, d0, ds0, p0, q0, hargs, rfl, rfl, h0, r0⟩ := trodAll_cons hA
  obtain ⟨rfl, rfl, rfl⟩ := trodAll_nil r0
  obtain rfl : args = #[v0] := by cases args; simp_all
  obtain ⟨rfl, rfl⟩ := trodVars_none hV
  obtain ⟨a0, len0, cap0, rfl⟩ := okWide_slice Try.underlying22 (hval 0 22 v0 rfl rfl)
  have k0 := h0
  have lt0 : ∀ x ∈ p0, x.block < W.heap.size := by obtain ⟨m, hm⟩ := k0; exact DataW.trod_lt m _ _ _ hm
  obtain ⟨z0, w0⟩ : ∃ zs, IsRow .u8 W a0 len0 cap0 zs := by
    obtain ⟨fuel, hf⟩ := h0
    rcases open_ints Try.underlying22 Try.underlying5 (by kernel_rfl) hf with ⟨hcs, _⟩ | ⟨x, l, c, zs, hcs, _, hl, hm, hz, _, hcell, hwz⟩
    · simp [Value.cells] at hcs
      obtain ⟨rfl, rfl, rfl⟩ := hcs
      exact ⟨[], .inl ⟨rfl, rfl, rfl, rfl⟩⟩
    · simp [Value.cells] at hcs
      obtain ⟨rfl, rfl, rfl⟩ := hcs
      exact ⟨zs, .inr ⟨_, rfl, hl, hm, by simpa using hz, hcell, hwz⟩⟩
  clear hA0 hval0
  refine (walk_FnMixed a0 len0 cap0 z0 W w0).mono fun e W' ⟨he, bel⟩ => ?_
  subst he
  exact ⟨_, rfl, _, _, _, [], _, [], hW', trodAll_mk1 (shut_bool Try.underlying4 _), (trodAll_cons_mk (Below.trod laidOut (by kernel_rfl) (of_decide_eq_true (by kernel_rfl)) k0 bel lt0) trodAll_mk0), rfl, bel.frame _, fun h => by cases h⟩
theorem over : Rows.fnMixedRow.holds Try.pinned (OpenSpec.ofChange Rows.fnMixedSpec) :=
  OpenClaim.holds_of_wide 3 Try.f3 rfl rfl rfl rfl rfl rfl rfl ⟨rfl, rfl, rfl, rfl, rfl⟩ rfl rfl rfl rfl rfl (by kernel_rfl) Try.func3 (by kernel_rfl)
    (of_decide_eq_true (by kernel_rfl)) (by unfold Func.isWrapper; first | (rw [if_pos (by decide +kernel)]; kernel_rfl) | (rw [if_neg (by decide +kernel)]; exact ⟨rfl, rfl⟩))
    (fun os started H enc _ => lifted os started H enc)
theorem proved : Rows.FnMixedSaid := over
#print axioms proved
end Go.Proofs.Ytlcaofbangbjlaa.fnMixed
