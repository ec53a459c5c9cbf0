/- For every input: the function Mix of the program answers as its model does, whatever its four longs are. No condition. -/
import Derived.Test.YtlcaofbangbjlaaSMix
import Derived.Laws.IdiomArrays
namespace Go.Proofs.Ytlcaofbangbjlaa
open Go.ChangeShapes Go.WideShapes Go.ChangeAt Go.RowKit
open Gs (U rolI V4 mx)

def upto4 (v : V4) (k : Nat) : V4 := ⟨if 0 < k then v.a else 0, if 1 < k then v.b else 0, if 2 < k then v.c else 0, if 3 < k then v.d else 0⟩

set_option maxHeartbeats 1000000 in
theorem to4_any (v : V4) (w : World) : Calls Try.prog 33 #[A4 v] w fun e w' => e = .returned (A4 v) ∧ Below w.heap.size w w' := by
  obtain ⟨a, b, c, d⟩ := v
  obtain ⟨w1, HW1⟩ : ∃ w1, Hid (w1 = ((w.alloc (.cells (C4 ⟨a, b, c, d⟩) 27)).alloc (.cells #[.int .u64 0, .int .u64 0, .int .u64 0, .int .u64 0] 27)).alloc (.cells #[.int .u64 0, .int .u64 0, .int .u64 0, .int .u64 0] 27)) := ⟨_, rfl⟩
  obtain ⟨B, HB⟩ : ∃ B, Hid (B = w.heap.size) := ⟨_, rfl⟩
  have h1 : Row w1 B 27 (C4 ⟨a, b, c, d⟩) := by
    rw [HW1.out, HB.out]
    exact ((Row.new w _ _).alloc _).alloc _
  have h2 : Row w1 (B + 1) 27 (C4 (upto4 ⟨a, b, c, d⟩ 0)) := by
    rw [HW1.out, HB.out]
    have := (Row.new (w.alloc (.cells (C4 ⟨a, b, c, d⟩) 27)) #[.int .u64 0, .int .u64 0, .int .u64 0, .int .u64 0] 27).alloc (.cells #[.int .u64 0, .int .u64 0, .int .u64 0, .int .u64 0] 27)
    rw [show (w.alloc (.cells (C4 ⟨a, b, c, d⟩) 27)).heap.size = w.heap.size + 1 by simp] at this
    exact this
  have h3 : Row w1 (B + 2) 27 (C4 (upto4 ⟨a, b, c, d⟩ 0)) := by
    rw [HW1.out, HB.out]
    have := Row.new ((w.alloc (.cells (C4 ⟨a, b, c, d⟩) 27)).alloc (.cells #[.int .u64 0, .int .u64 0, .int .u64 0, .int .u64 0] 27)) #[.int .u64 0, .int .u64 0, .int .u64 0, .int .u64 0] 27
    rw [show ((w.alloc (.cells (C4 ⟨a, b, c, d⟩) 27)).alloc (.cells #[.int .u64 0, .int .u64 0, .int .u64 0, .int .u64 0] 27)).heap.size = w.heap.size + 2 by simp] at this
    exact this
  have h4 : Below B w w1 := by
    rw [HW1.out, HB.out]
    exact (((Below.refl _ _).alloc (Nat.le_refl _) _).alloc (by simp) _).alloc (by simp; omega) _
  go_enter Try.func33, Try.ntmps33
  go_wp2_with fail
  rw [← HW1.out, ← HB.out]
  go_loopw [4] (fun i wr => ∃ k : Nat, k ≤ 4 ∧ i = .int .i64 k ∧ Row wr B 27 (C4 ⟨a, b, c, d⟩) ∧ Row wr (B + 1) 27 (C4 (upto4 ⟨a, b, c, d⟩ 0)) ∧ Row wr (B + 2) 27 (C4 (upto4 ⟨a, b, c, d⟩ k)) ∧ Below B w wr) (fun i _ => 4 - (intOf i).toNat)
  case atStart => exact ⟨0, Nat.zero_le _, rfl, h1, h2, h3, h4⟩
  case round =>
    obtain ⟨k, hk, rfl, r1, r2, r3, r4⟩ := hrel
    clear h1 h2 h3 h4
    have K1 : Hid (Row wr B 27 (C4 ⟨a, b, c, d⟩)) := r1
    have K2 : Hid (Row wr (B + 1) 27 (C4 (upto4 ⟨a, b, c, d⟩ 0))) := r2
    have K3 : Hid (Row wr (B + 2) 27 (C4 (upto4 ⟨a, b, c, d⟩ k))) := r3
    clear r1 r2 r3
    by_cases hlt : k < 4
    · obtain ⟨x, hx, HX⟩ : ∃ x : BitVec 64, (C4 ⟨a, b, c, d⟩)[k]? = some (.int .u64 (U x)) ∧ Hid ((C4 (upto4 ⟨a, b, c, d⟩ k)).setIfInBounds k (.int .u64 (U x)) = C4 (upto4 ⟨a, b, c, d⟩ (k + 1))) := by
        rcases k with _ | _ | _ | _ | k
        · exact ⟨a, rfl, rfl⟩
        · exact ⟨b, rfl, rfl⟩
        · exact ⟨c, rfl, rfl⟩
        · exact ⟨d, rfl, rfl⟩
        · omega
      have hc := (K1.out.cell k).trans hx
      obtain ⟨o, ho⟩ : ∃ o, wr.cell? ⟨B + 2, k, none⟩ = some o := by
        rw [K3.out.cell k]
        exact ⟨_, Array.getElem?_eq_getElem (by show k < 4; exact hlt)⟩
      have hf := K3.out.free k
      clear hx
      go_wp2
      go_roundw
      case rel => exact ⟨k + 1, by omega, by go_num, K1.out.other _ _ (by omega), K2.out.other _ _ (by omega), by have := K3.out.set k (.int .u64 (U x)); rw [HX.out] at this; exact this, r4.setCell (by simp only []; omega) _⟩
      case measure => simp [intOf]; omega
    · obtain rfl : k = 4 := by omega
      have KR : Hid (Row wr (B + 2) 27 (C4 ⟨a, b, c, d⟩)) := K3.out
      have ZR : Hid (Row ((((wr.setCell ⟨B + 1, 0, none⟩ (.int .u64 (U a))).setCell ⟨B + 1, 1, none⟩ (.int .u64 (U b))).setCell ⟨B + 1, 2, none⟩ (.int .u64 (U c))).setCell ⟨B + 1, 3, none⟩ (.int .u64 (U d))) (B + 1) 27 (C4 ⟨a, b, c, d⟩)) := (((K2.out.set 0 _).set 1 _).set 2 _).set 3 _
      have q0 := K2.out.cell 0
      have q1 := K2.out.cell 1
      have q2 := K2.out.cell 2
      have q3 := K2.out.cell 3
      have g0 := K2.out.free 0
      have g1 := K2.out.free 1
      have g2 := K2.out.free 2
      have g3 := K2.out.free 3
      simp at q0 q1 q2 q3
      go_wp2_with (refine wpList_load_row (by rfl) 27 _ (by rfl) (B + 2) (by rfl) 27 _ (0, 0) _ KR.out Try.underlying27 (by rfl) Try.info4 ?_)
      clear q0 q1 q2 q3 g0 g1 g2 g3
      refine bodyPost_ret (v := A4 ⟨a, b, c, d⟩) (results_cell_row Try.results33 _ _ (B + 1) 27 _ (0, 0) _ (by simp) ZR.out Try.underlying27 (by rfl) Try.info4) rfl ⟨rfl, ?_⟩
      rw [HB.out] at r4 ⊢
      exact Below.setCell (Below.setCell (Below.setCell (Below.setCell r4 (by simp) _) (by simp) _) (by simp) _) (by simp) _

set_option maxHeartbeats 1000000 in
theorem eq4_same (v : V4) (w : World) : Calls Try.prog 34 #[A4 v, A4 v] w fun e w' => e = .returned (.bool true) ∧ Below w.heap.size w w' := by
  obtain ⟨a, b, c, d⟩ := v
  obtain ⟨w1, HW1⟩ : ∃ w1, Hid (w1 = (w.alloc (.cells (C4 ⟨a, b, c, d⟩) 27)).alloc (.cells (C4 ⟨a, b, c, d⟩) 27)) := ⟨_, rfl⟩
  obtain ⟨B, HB⟩ : ∃ B, Hid (B = w.heap.size) := ⟨_, rfl⟩
  have h1 : Row w1 B 27 (C4 ⟨a, b, c, d⟩) := by
    rw [HW1.out, HB.out]
    exact (Row.new w _ _).alloc _
  have h2 : Row w1 (B + 1) 27 (C4 ⟨a, b, c, d⟩) := by
    rw [HW1.out, HB.out]
    have := Row.new (w.alloc (.cells (C4 ⟨a, b, c, d⟩) 27)) (C4 ⟨a, b, c, d⟩) 27
    rw [show (w.alloc (.cells (C4 ⟨a, b, c, d⟩) 27)).heap.size = w.heap.size + 1 by simp] at this
    exact this
  have h4 : Below B w w1 := by
    rw [HW1.out, HB.out]
    exact ((Below.refl _ _).alloc (Nat.le_refl _) _).alloc (by simp) _
  go_enter Try.func34, Try.ntmps34
  go_wp2_with fail
  rw [← HW1.out, ← HB.out]
  go_loopw [5] (fun i wr => ∃ k : Nat, k ≤ 4 ∧ i = .int .i64 k ∧ Row wr B 27 (C4 ⟨a, b, c, d⟩) ∧ Row wr (B + 1) 27 (C4 ⟨a, b, c, d⟩) ∧ Below B w wr) (fun i _ => 4 - (intOf i).toNat)
  case atStart => exact ⟨0, Nat.zero_le _, rfl, h1, h2, h4⟩
  case round =>
    obtain ⟨k, hk, rfl, r1, r2, r4⟩ := hrel
    clear h1 h2 h4
    have K1 : Hid (Row wr B 27 (C4 ⟨a, b, c, d⟩)) := r1
    have K2 : Hid (Row wr (B + 1) 27 (C4 ⟨a, b, c, d⟩)) := r2
    clear r1 r2
    by_cases hlt : k < 4
    · obtain ⟨x, hx⟩ : ∃ x : BitVec 64, (C4 ⟨a, b, c, d⟩)[k]? = some (.int .u64 (U x)) := by
        rcases k with _ | _ | _ | _ | k
        · exact ⟨a, rfl⟩
        · exact ⟨b, rfl⟩
        · exact ⟨c, rfl⟩
        · exact ⟨d, rfl⟩
        · omega
      have hc1 := (K1.out.cell k).trans hx
      have hc2 := (K2.out.cell k).trans hx
      have hne : (U x != U x) = false := by simp
      clear hx
      go_wp2_with fail
      go_quiet (fail)
      go_wp2
      go_roundw
      case rel => exact ⟨k + 1, by omega, by go_num, K1.out, K2.out, belowDrewN r4 _⟩
      case measure => simp [intOf]; omega
    · obtain rfl : k = 4 := by omega
      go_wp2
      go_ret
      rw [HB.out] at r4
      exact ⟨rfl, r4⟩

set_option maxHeartbeats 1000000 in
theorem walk_FnExactMix (a0 a1 a2 a3 : Int) (w : World) (w0 : (Lit.int .u64 a0).wf = true) (w1 : (Lit.int .u64 a1).wf = true) (w2 : (Lit.int .u64 a2).wf = true) (w3 : (Lit.int .u64 a3).wf = true) :
    Calls Try.prog 6 #[.agg #[.int .u64 a0, .int .u64 a1, .int .u64 a2, .int .u64 a3]] w fun e w' => e = .returned (.bool true) ∧ Below w.heap.size w w' := by
  obtain ⟨a, rfl⟩ := U_wf w0
  obtain ⟨b, rfl⟩ := U_wf w1
  obtain ⟨c, rfl⟩ := U_wf w2
  obtain ⟨d, rfl⟩ := U_wf w3
  have hT := to4_any ⟨a, b, c, d⟩
  have hS := sMix_any ⟨a, b, c, d⟩
  have hI := mix_any ⟨a, b, c, d⟩
  generalize mx ⟨a, b, c, d⟩ = m at hS hI
  obtain ⟨p, q, r, s⟩ := m
  have hE := eq4_same ⟨p, q, r, s⟩
  have KT : Hid _ := hT
  have KS : Hid _ := hS
  have KI : Hid _ := hI
  have KE : Hid _ := hE
  clear hT hS hI hE
  obtain ⟨B, HB⟩ : ∃ B, Hid (B = w.heap.size) := ⟨_, rfl⟩
  obtain ⟨x1, HX1⟩ : ∃ x, Hid (x = w.alloc (.cells (C4 ⟨a, b, c, d⟩) 27)) := ⟨_, rfl⟩
  have R1 : Hid (Row x1 B 27 (C4 ⟨a, b, c, d⟩)) := by show Row _ _ _ _; rw [HX1.out, HB.out]; exact Row.new w _ _
  have B1 : Below B w x1 := by rw [HX1.out, HB.out]; exact (Below.refl _ _).alloc (Nat.le_refl _) _
  have hs1 : x1.heap.size = B + 1 := by rw [HX1.out, HB.out]; simp
  go_enter Try.func6, Try.ntmps6
  go_wp2_with fail
  rw [← HX1.out, ← HB.out]
  refine (KT.out _).mono ?_
  rintro e x2 ⟨rfl, hb2⟩
  go_wp2_with fail
  refine (KS.out _).mono ?_
  rintro e x3 ⟨rfl, hb3⟩
  have hb23 := below2 hb2 hb3
  obtain ⟨x4, HX4⟩ : ∃ x, Hid (x = x3.alloc (.cells (C4 ⟨p, q, r, s⟩) 27)) := ⟨_, rfl⟩
  obtain ⟨B3, HB3⟩ : ∃ B, Hid (B = x3.heap.size) := ⟨_, rfl⟩
  have hs4 : x4.heap.size = B3 + 1 := by rw [HX4.out, HB3.out]; simp
  have hl3 : B + 1 ≤ B3 := by have := hb23.size; rw [HB3.out]; omega
  have hb4 : Below x1.heap.size x1 x4 := by rw [HX4.out]; exact hb23.alloc (by rw [← HB3.out]; omega) _
  have R4 : Hid (Row x4 B 27 (C4 ⟨a, b, c, d⟩)) := R1.out.below hb4 (by omega)
  have S4 : Hid (Row x4 B3 27 (C4 ⟨p, q, r, s⟩)) := by show Row _ _ _ _; rw [HX4.out, HB3.out]; exact Row.new x3 _ _
  go_wp2_with (rw [← HX4.out, ← HB3.out]; refine wpList_load_row (by rfl) 27 _ (by rfl) B (by rfl) 27 _ (0, 0) _ R4.out Try.underlying27 (by rfl) Try.info4 ?_)
  refine (KT.out _).mono ?_
  rintro e x5 ⟨rfl, hb5⟩
  go_wp2_with fail
  refine (KI.out _).mono ?_
  rintro e x6 ⟨rfl, hb6⟩
  have hb46 := below2 hb5 hb6
  obtain ⟨x7, HX7⟩ : ∃ x, Hid (x = x6.alloc (.cells (C4 ⟨p, q, r, s⟩) 27)) := ⟨_, rfl⟩
  obtain ⟨B6, HB6⟩ : ∃ B, Hid (B = x6.heap.size) := ⟨_, rfl⟩
  have hl6 : B3 + 1 ≤ B6 := by have := hb46.size; rw [HB6.out]; omega
  have hb7 : Below x4.heap.size x4 x7 := by rw [HX7.out]; exact hb46.alloc (by rw [← HB6.out]; omega) _
  have S7 : Hid (Row x7 B3 27 (C4 ⟨p, q, r, s⟩)) := S4.out.below hb7 (by omega)
  have T7 : Hid (Row x7 B6 27 (C4 ⟨p, q, r, s⟩)) := by show Row _ _ _ _; rw [HX7.out, HB6.out]; exact Row.new x6 _ _
  go_wp2_with (first | (rw [← HX7.out, ← HB6.out]; refine wpList_load_row (by rfl) 27 _ (by rfl) B6 (by rfl) 27 _ (0, 0) _ T7.out Try.underlying27 (by rfl) Try.info4 ?_; have MK : True := trivial) | (guard_hyp MK; refine wpList_load_row (by rfl) 27 _ (by rfl) B3 (by rfl) 27 _ (0, 0) _ S7.out Try.underlying27 (by rfl) Try.info4 ?_; clear MK))
  refine (KE.out _).mono ?_
  rintro e x8 ⟨rfl, hb8⟩
  have hF : Below w.heap.size w x8 := by
    have h1 : Below B w x1 := B1
    have h2 : Below B x1 x4 := hb4.mono (by omega)
    have h3 : Below B x4 x7 := hb7.mono (by omega)
    have h4 : Below B x7 x8 := hb8.mono (by have := T7.out.lt; omega)
    rw [← HB.out]
    exact ((h1.trans h2).trans h3).trans h4
  go_wp2
  go_ret
  exact ⟨rfl, hF⟩
end Go.Proofs.Ytlcaofbangbjlaa
theorem Go.Proofs.Ytlcaofbangbjlaa.list4 {α : Type} (l : List α) (h : (⟨l⟩ : Array α).size = 4) : ∃ a b c d, l = [a, b, c, d] := by
  match l, h with
  | [a, b, c, d], _ => exact ⟨a, b, c, d, rfl⟩
namespace Go.Proofs.Ytlcaofbangbjlaa.fnExactMix
open Go.ChangeShapes Go.WideShapes Go.ChangeAt Go.RowKit
open Go.ChangeMaps (open_string shut_string)
set_option linter.unusedVariables false
theorem own : ownKnob Try.prog.godebug = none := by kernel_rfl
set_option maxRecDepth 100000 in
theorem lifted (os : Os) (started : os.Started) (H : Type) (enc : TypeId × Value → H) :
    ReturnsInHanded {} Try.checked os 6 .any (Rows.fnExactMixSpec.pre6 enc Try.prog Try.f6 Rows.fnExactMixRow.domain false) (Rows.fnExactMixSpec.post enc Try.prog Try.f6 false true false false) := by
  refine returnsInHanded_of_change (C := Try.checked) own started (by kernel_rfl) Try.func6
    (ChangeSpec.witness6 (enc := enc) (C := Try.checked) false ⟨#[], #[.agg #[.int .u64 0, .int .u64 0, .int .u64 0, .int .u64 0]], []⟩ 8 (by kernel_rfl) (by kernel_rfl) (by kernel_rfl) (by kernel_rfl)) ?_
  intro W base args ds gs before hval0 hW hcnd _
  have hval : ∀ (j : Nat) t v, Try.f6.params[j]? = some t → args[j]? = some v → Value.okWide Try.prog W .any base t v := hval0
  have hW' := hW
  obtain ⟨p, q, hA0, hV, rfl, hfz, hnd⟩ := hW
  have hA : DataW.TrodAll enc Try.prog W 0 (fun _ => true) true Try.f6.params.toList args.toList ds p := hA0
  rw [Try.params6] at hA hval
  obtain ⟨v0, vs0, d0, ds0, p0, q0, hargs, rfl, rfl, h0, r0⟩ := trodAll_cons hA
  obtain ⟨rfl, rfl, rfl⟩ := trodAll_nil r0
  obtain rfl : args = #[v0] := by cases args; simp_all
  obtain ⟨rfl, rfl⟩ := trodVars_none hV
  have c4 : Try.prog.cellsOf 27 = 4 := by kernel_rfl
  have c1 : Try.prog.cellsOf 24 = 1 := by kernel_rfl
  obtain ⟨cs0, rfl, hsz0, _⟩ : ∃ cs, v0 = .agg cs ∧ cs.size = Try.prog.cellsOf 27 ∧ Row.okWide Try.prog W .any base 27 cs := by
    have := hval 0 27 v0 rfl rfl
    simpa [Value.okWide, Try.underlying27] using this
  rw [c4] at hsz0
  obtain ⟨l0⟩ := cs0
  obtain ⟨e0, e1, e2, e3, rfl⟩ := list4 l0 hsz0
  obtain ⟨fuel, hf⟩ := h0
  obtain ⟨y0, y1, y2, y3, m, hx, hy0, hy1, hy2, hy3⟩ := trod_array4 Try.underlying27 c1 hf
  obtain ⟨x0, g0, rfl, w0⟩ := DataW.trod_int Try.underlying24 hy0
  obtain ⟨x1, g1, rfl, w1⟩ := DataW.trod_int Try.underlying24 hy1
  obtain ⟨x2, g2, rfl, w2⟩ := DataW.trod_int Try.underlying24 hy2
  obtain ⟨x3, g3, rfl, w3⟩ := DataW.trod_int Try.underlying24 hy3
  simp at g0 g1 g2 g3
  subst g0 g1 g2 g3
  simp only [Prod.mk.injEq] at hx
  obtain ⟨rfl, rfl⟩ := hx
  have rdA : ∀ (Wx : World) (sp : Nat → Bool), DataW.Trod enc Try.prog Wx 0 sp true 27 (.agg #[.int .u64 x0, .int .u64 x1, .int .u64 x2, .int .u64 x3]) (DataW.agg [.lit (.int .u64 x0), .lit (.int .u64 x1), .lit (.int .u64 x2), .lit (.int .u64 x3)]) [] := fun Wx sp => ⟨2, by simp [DataW.trod, Value.cells, Try.underlying27, Try.underlying24, c4, c1, w0, w1, w2, w3, show List.range 4 = [0, 1, 2, 3] from rfl]⟩
  clear hA0 hval0
  simp only [List.append_nil] at hW'
  refine (walk_FnExactMix x0 x1 x2 x3 W w0 w1 w2 w3).mono fun e W' ⟨he, bel⟩ => ?_
  subst he
  exact ⟨_, rfl, _, _, _, [], [], [], hW', trodAll_mk1 (shut_bool Try.underlying4 _), (trodAll_cons_mk (rdA _ _) trodAll_mk0), rfl, bel.frame _, fun h => by cases h⟩
theorem over : Rows.fnExactMixRow.holds Try.pinned (OpenSpec.ofChange Rows.fnExactMixSpec) :=
  OpenClaim.holds_of_wide 6 Try.f6 rfl rfl rfl rfl rfl rfl rfl ⟨rfl, rfl, rfl, rfl, rfl⟩ rfl rfl rfl rfl rfl (by kernel_rfl) Try.func6 (by kernel_rfl)
    (of_decide_eq_true (by kernel_rfl)) (by unfold Func.isWrapper; first | (rw [if_pos (by decide +kernel)]; kernel_rfl) | (rw [if_neg (by decide +kernel)]; exact ⟨rfl, rfl⟩))
    (fun os started H enc _ => lifted os started H enc)
theorem proved : Rows.FnExactMixSaid := over
#print axioms proved
end Go.Proofs.Ytlcaofbangbjlaa.fnExactMix
