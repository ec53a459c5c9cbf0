/- Whether a node is right, in the program. Conditions: lists of at most 2^20, texts that can be. -/
import Derived.Test.YtgpghfnhgmkhgaaGreatJ34
import Derived.Lib.QuietBelow
import Derived.BigQuiet
import Derived.Deep.CutRange
namespace Go.Proofs.YtgpghfnhgmkhgaaGreat
set_option maxRecDepth 2000
open Go.ChangeShapes Go.WideShapes Go.ChangeAt Go.RowKit

/-- What is asked of a node. -/
def NdP (id f : Int) (n : Nat) (S : Nat → Sl) : Prop := seB id f = true ∧ n ≤ 40 ∧ ∀ i, i < n → SlotP id f (S i) ∧ ∀ j, j < i → (S j).r ≠ (S i).r
noncomputable def ndB (id f : Int) (n : Nat) (S : Nat → Sl) : Bool := @decide (NdP id f n S) (Classical.propDecidable _)
theorem ndB_yes {id f : Int} {n : Nat} {S : Nat → Sl} (h : NdP id f n S) : ndB id f n S = true := by unfold ndB; exact @decide_eq_true _ (Classical.propDecidable _) h
theorem ndB_no {id f : Int} {n : Nat} {S : Nat → Sl} (h : ¬ NdP id f n S) : ndB id f n S = false := by unfold ndB; exact @decide_eq_false _ (Classical.propDecidable _) h
theorem seB_f {id f : Int} (h : seB id f = true) : 1 ≤ f ∧ f ≤ 3 := by
  have := of_decide_eq_true h
  exact ⟨this.1, this.2.1⟩
/-- What is asked of a slot's memory. -/
structure SlN (s : Sl) : Prop where
  m : s.p.m ≤ 1048576
  tx : ∀ i, i < s.p.m → (s.p.S i).size ≤ maxLen
  ne : s.ze.length ≤ 1048576
  nr : s.zr.length ≤ 1048576
theorem plX_no {S : Nat → Sl} {n i : Nat} (hi : i < n) (h : ∀ j, j < i → (S j).r ≠ (S i).r) : ¬ plX S (S i).r n < (i : Int) := by
  unfold plX
  cases e : plc S (S i).r n with
  | none => exact absurd rfl (plF_none e i (by omega) (by omega))
  | some x =>
    obtain ⟨_, h2, h3, h4⟩ := plF_some e
    show ¬ (x : Int) < (i : Int)
    intro hx
    exact h x (by omega) h3
theorem plX_yes {S : Nat → Sl} {n i j : Nat} (hi : i < n) (hj : j < i) (h : (S j).r = (S i).r) : plX S (S i).r n < (i : Int) := by
  unfold plX
  cases e : plc S (S i).r n with
  | none => exact absurd h (plF_none e j (by omega) (by omega))
  | some x =>
    obtain ⟨_, h2, h3, h4⟩ := plF_some e
    show (x : Int) < (i : Int)
    by_cases hx : x < i
    · omega
    · exact absurd h (h4 j (by omega) (by omega))
theorem ag13_list {y : Nat → Value} {c0 c1 c2 c3 c4 c5 c6 c7 c8 c9 c10 c11 c12 : Value} (h : ag13 y = .agg #[c0, c1, c2, c3, c4, c5, c6, c7, c8, c9, c10, c11, c12]) : [y 0, y 1, y 2, y 3, y 4, y 5, y 6, y 7, y 8, y 9, y 10, y 11, y 12] = [c0, c1, c2, c3, c4, c5, c6, c7, c8, c9, c10, c11, c12] := by
  have h' := congrArg (fun v => match v with | Value.agg a => a.toList | _ => []) h
  exact h'
abbrev slL (s : Sl) (v6 v11 v12 : Value) : List Value := [.string s.r, .string s.p.r, .int .i64 s.p.k, .int .i64 s.p.n, .int .i64 s.p.i, .string s.p.b, v6, .bool s.h, .bool s.e, .bool s.d, .bool s.o, v11, v12]
/-- A slot that is read, its cells written out. -/
theorem slot_at {w : World} {n : Nat} {S : Nat → Sl} {a : Option Addr} {cap : Nat} (h : Rd w (slsD n S) (.slice a n cap)) {i : Nat} (hi : i < n) :
    ∃ (b off : Nat) (a6 a11 a12 : Option Addr) (c6 c11 c12 : Nat), a = some ⟨b, off, none⟩ ∧ w.rangeAt b (off + i * 13) (slL (S i) (.slice a6 (S i).p.m c6) (.slice a11 (S i).ze.length c11) (.slice a12 (S i).zr.length c12)) ∧ TxtAt w a6 (S i).p.m (S i).p.S ∧ IntsAt w a11 (S i).ze.length (S i).ze ∧ IntsAt w a12 (S i).zr.length (S i).zr := by
  obtain ⟨b, off, y, a6, a11, a12, c6, c11, c12, ea, hc, e, t6, t11, t12⟩ := slot_row h hi
  obtain ⟨_, x⟩ := one_row (sz := 12) w (Below.refl _ _) hc
  have R := range13 x
  rw [ag13_list e] at R
  exact ⟨b, off, a6, a11, a12, c6, c11, c12, ea, R, t6, t11, t12⟩
set_option maxHeartbeats 4000000 in
theorem nodeOk_any (id f : Int) (a : Option Addr) (n cap : Nat) (S : Nat → Sl) (w : World) (h : Rd w (slsD n S) (.slice a n cap)) (hn : n ≤ 1048576) (hs : ∀ i, i < n → SlN (S i)) :
    Calls Tryz.prog 33 #[ndV id f (.slice a n cap)] w fun e w' => e = .returned (.bool (ndB id f n S)) ∧ Below w.heap.size w w' := by
  obtain ⟨A, HA⟩ : ∃ x, Hid (x = w.heap.size) := ⟨_, rfl⟩
  obtain ⟨w0, HW0⟩ : ∃ x, Hid (x = w.alloc (.cells #[.int .i64 id, .int .i64 f, .slice a n cap] 44)) := ⟨_, rfl⟩
  have HR : Hid (Row w0 A 44 #[.int .i64 id, .int .i64 f, .slice a n cap]) := by show Row _ _ _ _; rw [HW0.out, HA.out]; exact Row.new w _ _
  have b0 : Below w.heap.size w w0 := by rw [HW0.out]; exact (Below.refl _ _).alloc (Nat.le_refl _) _
  have KB0 : Hid (Below w.heap.size w w0) := b0
  have KS : Hid _ := isSeated_any id f (.slice a n cap) w0
  have KH : Hid (Rd w0 (slsD n S) (.slice a n cap)) := h.below b0
  have KN : Hid (∀ i, i < n → SlN (S i)) := hs
  clear h b0 hs
  cases hse : seB id f with
  | false =>
    rw [hse] at KS
    rw [ndB_no (fun h => by have := h.1; rw [hse] at this; cases this)]
    go_enter Tryz.func33, Tryz.ntmps33
    go_wp2_with fail
    rw [← HW0.out, ← HA.out]
    refine Calls.mono KS.out ?_
    rintro e w1 ⟨rfl, b1⟩
    go_wp2
    go_ret
    exact ⟨rfl, below2 KB0.out b1⟩
  | true =>
    rw [hse] at KS
    have HF : Hid (1 ≤ f ∧ f ≤ 3) := seB_f hse
    have HSE : Hid (seB id f = true) := hse
    clear hse
    by_cases h40 : n ≤ 40
    case neg =>
      rw [ndB_no (fun h => h40 h.2.1)]
      have h40' : (n : Int) > 40 := by omega
      go_enter Tryz.func33, Tryz.ntmps33
      go_wp2_with fail
      rw [← HW0.out, ← HA.out]
      refine Calls.mono KS.out ?_
      rintro e w1 ⟨rfl, b1⟩
      have x2 := (HR.out.below b1 HR.out.lt).cell 2
      simp at x2
      go_wp2
      go_ret
      exact ⟨rfl, below2 KB0.out b1⟩
    have h40' : ¬ (n : Int) > 40 := by omega
    go_enter Tryz.func33, Tryz.ntmps33
    go_wp2_with fail
    rw [← HW0.out, ← HA.out]
    refine Calls.mono KS.out ?_
    rintro e w1 ⟨rfl, b1⟩
    have KB1 : Hid (Below w0.heap.size w0 w1) := b1
    have x2 := (HR.out.below b1 HR.out.lt).cell 2
    simp at x2
    clear b1
    go_wp2_with fail
    go_loopw [17] (fun vi wr => ∃ k : Nat, k ≤ n ∧ vi = .int .i64 (k : Int) ∧ Hid (∀ i, i < k → SlotP id f (S i) ∧ ∀ j, j < i → (S j).r ≠ (S i).r) ∧ Below w0.heap.size w0 wr) (fun vi _ => n - (intOf vi).toNat)
    case atStart => exact ⟨0, Nat.zero_le _, rfl, fun i hi => absurd hi (Nat.not_lt_zero _), KB1.out⟩
    case round =>
      clear x2 KB1
      obtain ⟨k, hk, rfl, HP, hbel⟩ := hrel
      by_cases hlt : k < n
      · have hki : (k : Int) < (n : Int) := by omega
        obtain ⟨b1, f1, p6, p11, p12, q6, q11, q12, rfl, R1, t6, t11, t12⟩ := slot_at (KH.out.below hbel) hlt
        have R1 : Hid _ := R1
        obtain ⟨B2, HB2⟩ : ∃ x, Hid (x = wr.heap.size) := ⟨_, rfl⟩
        obtain ⟨w2, HW2⟩ : ∃ x, Hid (x = wr.alloc (.cells (slC (S k) (.slice p6 (S k).p.m q6) (.slice p11 (S k).ze.length q11) (.slice p12 (S k).zr.length q12)) 72)) := ⟨_, rfl⟩
        have b2 : Below wr.heap.size wr w2 := by rw [HW2.out]; exact (Below.refl _ _).alloc (Nat.le_refl _) _
        have HR2 : Hid (Row w2 B2 72 (slC (S k) (.slice p6 (S k).p.m q6) (.slice p11 (S k).ze.length q11) (.slice p12 (S k).zr.length q12))) := by show Row _ _ _ _; rw [HW2.out, HB2.out]; exact Row.new wr _ _
        have KB2 : Hid (Below w0.heap.size w0 w2) := below2 hbel b2
        obtain ⟨px, HPX⟩ : ∃ x, Hid (plX S (S k).r n = x) := ⟨_, rfl⟩
        have KP : Hid _ := placeOf_any id f (some ⟨b1, f1, none⟩) n cap S (S k).r w2 (KH.out.below KB2.out) hn
        rw [HPX.out] at KP
        have KI : Hid (∀ W, Below w2.heap.size w2 W → Calls Tryz.prog 44 #[ndV id f (.slice (some ⟨b1, f1, none⟩) n cap), slV (S k) (.slice p6 (S k).p.m q6) (.slice p11 (S k).ze.length q11) (.slice p12 (S k).zr.length q12)] W fun e w' => e = .returned (.bool (slotB id f (S k))) ∧ Below W.heap.size W w') := fun W hW => isSlot_any id f _ (S k) p6 p11 p12 q6 q11 q12 W ((t6.below b2).below hW) ((t11.below b2).below hW) ((t12.below b2).below hW) HF.out (KN.out k hlt).m (KN.out k hlt).tx (KN.out k hlt).ne (KN.out k hlt).nr
        have RA := HR.out.below hbel HR.out.lt
        have x0 := RA.cell 0
        have x1 := RA.cell 1
        have x2 := RA.cell 2
        simp at x0 x1 x2
        have lA := RA.lt
        have HLT : Hid (k < n) := hlt
        clear t6 t11 t12 b2 RA hbel
        by_cases hp : px < (k : Int)
        · have HN : Hid (ndB id f n S = false) := ndB_no fun h => (plX_no HLT.out (h.2.2 k HLT.out).2) (by rw [HPX.out]; exact hp)
          go_wp2_with (refine wpList_load_mid (by rfl) 72 _ (by rfl) b1 (f1 + k * 13) (by rfl) (slL (S k) (.slice p6 (S k).p.m q6) (.slice p11 (S k).ze.length q11) (.slice p12 (S k).zr.length q12)) _ ?_ Tryz.underlying72 (by rfl) Tryz.infoSl ?_; exact R1.out)
          rw [← HW2.out]
          refine Calls.mono KP.out ?_
          rintro e w3 ⟨rfl, b3⟩
          have KB3 : Hid (Below w0.heap.size w0 w3) := below2 KB2.out b3
          clear b3 x0 x1 x2
          go_wp2
          go_ret
          exact ⟨ret_bool HN.out.symm, below2 KB0.out KB3.out⟩
        have HQ : Hid (∀ j, j < k → (S j).r ≠ (S k).r) := fun j hj e => hp (by rw [← HPX.out]; exact plX_yes HLT.out hj e)
        go_wp2_with (refine wpList_load_mid (by rfl) 72 _ (by rfl) b1 (f1 + k * 13) (by rfl) (slL (S k) (.slice p6 (S k).p.m q6) (.slice p11 (S k).ze.length q11) (.slice p12 (S k).zr.length q12)) _ ?_ Tryz.underlying72 (by rfl) Tryz.infoSl ?_; exact R1.out)
        rw [← HW2.out, ← HB2.out]
        refine Calls.mono KP.out ?_
        rintro e w3 ⟨rfl, b3⟩
        have KB3 : Hid (Below w2.heap.size w2 w3) := b3
        have KB4 : Hid (Below w0.heap.size w0 w3) := below2 KB2.out b3
        have RA := HR.out.below KB4.out HR.out.lt
        replace x0 := RA.cell 0
        replace x1 := RA.cell 1
        replace x2 := RA.cell 2
        have RB := HR2.out.below b3 HR2.out.lt
        have z0 := RB.cell 0
        have z1 := RB.cell 1
        have z2 := RB.cell 2
        have z3 := RB.cell 3
        have z4 := RB.cell 4
        have z5 := RB.cell 5
        have z6 := RB.cell 6
        have z7 := RB.cell 7
        have z8 := RB.cell 8
        have z9 := RB.cell 9
        have z10 := RB.cell 10
        have z11 := RB.cell 11
        have z12 := RB.cell 12
        simp at x0 x1 x2 z0 z1 z2 z3 z4 z5 z6 z7 z8 z9 z10 z11 z12
        clear b3 RA RB R1
        go_wp2_with fail
        refine Calls.mono (KI.out _ KB3.out) ?_
        rintro e w4 ⟨rfl, b4⟩
        have KB5 : Hid (Below w0.heap.size w0 w4) := below2 KB4.out b4
        clear x0 x1 x2 z0 z1 z2 z3 z4 z5 z6 z7 z8 z9 z10 z11 z12 b4
        by_cases hq : SlotP id f (S k)
        · have HP2 : Hid (∀ i, i < k + 1 → SlotP id f (S i) ∧ ∀ j, j < i → (S j).r ≠ (S i).r) := fun i hi => by
            by_cases e : i = k
            · subst e; exact ⟨hq, HQ.out⟩
            · exact HP.out i (by omega)
          rw [slotB_yes hq]
          go_wp2
          go_roundw
          case rel => exact ⟨k + 1, by omega, by go_num, HP2, KB5.out⟩
          case measure => simp [intOf]; omega
        · have HN : Hid (ndB id f n S = false) := ndB_no fun h => hq (h.2.2 k HLT.out).1
          rw [slotB_no hq]
          go_wp2
          go_ret
          exact ⟨ret_bool HN.out.symm, below2 KB0.out KB5.out⟩
      · obtain rfl : k = n := by omega
        have HY : Hid (ndB id f k S = true) := ndB_yes ⟨HSE.out, h40, HP.out⟩
        go_wp2
        go_ret
        exact ⟨ret_bool HY.out.symm, below2 KB0.out hbel⟩
end Go.Proofs.YtgpghfnhgmkhgaaGreat
/- A slot by the two tests of the model. Definitions and lemmas. -/
namespace Go.Proofs.YtgpghfnhgmkhgaaGreat
set_option maxRecDepth 2000
open Go.ChangeShapes Go.WideShapes Go.ChangeAt Go.RowKit Go.Sort

/-- The model's two tests of a slot. -/
def g7 (x1 b2 b3 bh bm be bd bo : Bool) : Bool := x1 && b2 && b3 && (bh == bm) && (!be || bh) && (!bo || bd)
def g9 (bd bo : Bool) (e1 r1 r2 : Bool) : Bool := !((!bd && (e1 || r1)) || (!bo && r2))
theorem slot_of_gs {id f : Int} {s : Sl} (h7 : g7 (decide (s.r.size = 16)) (numB f s.ze) (numB f s.zr) s.h (mineB s.r id f s.p.r s.p.k s.p.n s.p.i s.p.b s.p.m s.p.S) s.e s.d s.o = true) (h9 : g9 s.d s.o (decide (2 * f + 1 ≤ (s.ze.length : Int))) (decide (f + 1 ≤ (s.zr.length : Int))) (decide (2 * f + 1 ≤ (s.zr.length : Int))) = true) : SlotP id f s := by
  unfold g7 at h7
  unfold g9 at h9
  simp only [Bool.and_eq_true, Bool.or_eq_true, Bool.not_eq_true', decide_eq_true_eq, beq_iff_eq, Bool.or_eq_false_iff, Bool.and_eq_false_iff, Bool.not_eq_false', decide_eq_false_iff_not] at h7 h9
  obtain ⟨⟨⟨⟨⟨a1, a2⟩, a3⟩, a4⟩, a5⟩, a6⟩ := h7
  obtain ⟨c1, c2⟩ := h9
  refine ⟨a1, a2, a3, fun h => ?_, fun h => ?_, fun h => ?_, fun h => ?_, a4⟩
  · rcases a5 with a5 | a5
    · rw [h] at a5; cases a5
    · exact a5
  · rcases a6 with a6 | a6
    · rw [h] at a6; cases a6
    · exact a6
  · rcases c1 with c1 | c1
    · exact c1
    · unfold stI at h
      obtain ⟨d1, d2⟩ := c1
      rw [if_neg (by omega), if_neg d1, if_neg d2] at h
      omega
  · rcases c2 with c2 | c2
    · exact c2
    · unfold stI at h
      rw [if_neg c2] at h
      split at h
      · omega
      · split at h <;> omega
theorem gs_of_slot {id f : Int} {s : Sl} (h : SlotP id f s) : g7 (decide (s.r.size = 16)) (numB f s.ze) (numB f s.zr) s.h (mineB s.r id f s.p.r s.p.k s.p.n s.p.i s.p.b s.p.m s.p.S) s.e s.d s.o = true ∧ g9 s.d s.o (decide (2 * f + 1 ≤ (s.ze.length : Int))) (decide (f + 1 ≤ (s.zr.length : Int))) (decide (2 * f + 1 ≤ (s.zr.length : Int))) = true := by
  obtain ⟨a1, a2, a3, a4, a5, a6, a7, a8⟩ := h
  unfold g7 g9
  simp only [Bool.and_eq_true, Bool.or_eq_true, Bool.not_eq_true', decide_eq_true_eq, beq_iff_eq, Bool.or_eq_false_iff, Bool.and_eq_false_iff, Bool.not_eq_false', decide_eq_false_iff_not]
  refine ⟨⟨⟨⟨⟨⟨a1, a2⟩, a3⟩, a8⟩, ?_⟩, ?_⟩, ?_, ?_⟩
  · cases e : s.e with
    | false => exact .inl rfl
    | true => exact .inr (a4 e)
  · cases e : s.o with
    | false => exact .inl rfl
    | true => exact .inr (a5 e)
  · cases e : s.d with
    | true => exact .inl rfl
    | false =>
      have n1 : ¬ 1 ≤ stI f s.ze.length s.zr.length := fun h => by rw [a6 h] at e; cases e
      unfold stI at n1
      refine .inr ⟨fun h => n1 ?_, fun h => n1 ?_⟩ <;> (repeat' split) <;> omega
  · cases e : s.o with
    | true => exact .inl rfl
    | false =>
      have n1 : ¬ 2 ≤ stI f s.ze.length s.zr.length := fun h => by rw [a7 h] at e; cases e
      unfold stI at n1
      exact .inr fun h => n1 (by rw [if_pos h]; omega)
end Go.Proofs.YtgpghfnhgmkhgaaGreat
