import Derived.Test.YtcaejlalnjnifaaGreatA26
import Derived.Test.YtcaejlalnjnifaaGreatA24
import Derived.Lib.QuietBelow
import Derived.BigQuiet
import Derived.Deep.CutRange
set_option maxHeartbeats 8000000
set_option maxRecDepth 2000
open Go.ChangeShapes Go.WideShapes Go.ChangeAt Go.RowKit
namespace Go.Proofs.YtcaejlalnjnifaaGreat
def stI (f : Int) (e r : Nat) : Int := if 2 * f + 1 ≤ (r : Int) then 2 else if 2 * f + 1 ≤ (e : Int) then 1 else if f + 1 ≤ (r : Int) then 1 else 0
theorem stateOf_any (id f : Int) (v : Value) (s : Sl) (v6 : Value) (a1 a2 : Option Addr) (n1 n2 c1 c2 : Nat) (w : World) (hf : 1 ≤ f ∧ f ≤ 3) :
  Calls Tryz.prog 118 #[ndV id f v, slV s v6 (.slice a1 n1 c1) (.slice a2 n2 c2)] w fun e w' => e = .returned (.int .i64 (stI f n1 n2)) ∧ Below w.heap.size w w' := by
 obtain ⟨A, HA⟩ : ∃ x, Hid (x = w.heap.size) := ⟨_, rfl⟩
 obtain ⟨wa, HWA⟩ : ∃ x, Hid (x = w.alloc (.cells #[.int .i64 id, .int .i64 f, v] 26)) := ⟨_, rfl⟩
 have HRA : Hid (Row wa A 26 #[.int .i64 id, .int .i64 f, v]) := by show Row _ _ _ _; rw [HWA.out, HA.out]; exact Row.new w _ _
 have hba : Below w.heap.size w wa := by rw [HWA.out]; exact (Below.refl _ _).alloc (Nat.le_refl _) _
 obtain ⟨B, HB⟩ : ∃ x, Hid (x = wa.heap.size) := ⟨_, rfl⟩
 obtain ⟨w0, HW0⟩ : ∃ x, Hid (x = wa.alloc (.cells (slC s v6 (.slice a1 n1 c1) (.slice a2 n2 c2)) 42)) := ⟨_, rfl⟩
 have hbb : Below wa.heap.size wa w0 := by rw [HW0.out]; exact (Below.refl _ _).alloc (Nat.le_refl _) _
 have HR : Hid (Row w0 B 42 (slC s v6 (.slice a1 n1 c1) (.slice a2 n2 c2))) := by show Row _ _ _ _; rw [HW0.out, HB.out]; exact Row.new wa _ _
 have HB0 : Hid (Below w.heap.size w w0) := below2 hba hbb
 have HB1 : Hid (B = A + 1) := by show _ = _; rw [HB.out, HWA.out, HA.out]; simp
 have RA := HRA.out.below hbb HRA.out.lt
 have r1 := RA.cell 1
 have q11 := HR.out.cell 11
 have q12 := HR.out.cell 12
 simp [slC] at r1 q11 q12
 have e0 : IntKind.i64.wrap (2 * f) = 2 * f := by rw [IntKind.wrap_i64]; omega
 obtain ⟨x, HX⟩ : ∃ x : Int, Hid (2 * f + 1 = x) := ⟨_, rfl⟩
 have e1 : IntKind.i64.wrap (2 * f + 1) = x := by have := HX.out; rw [IntKind.wrap_i64]; omega
 obtain ⟨y, HY⟩ : ∃ y : Int, Hid (f + 1 = y) := ⟨_, rfl⟩
 have e2 : IntKind.i64.wrap (f + 1) = y := by have := HY.out; rw [IntKind.wrap_i64]; omega
 unfold stI
 rw [HX.out, HY.out]
 clear hf RA hba hbb
 by_cases h1 : x ≤ (n2 : Int)
 ·rw [if_pos h1]
  go_enter Tryz.func118, Tryz.ntmps118
  go_wp2_with fail
  rw [← HWA.out, ← HW0.out, ← HA.out, ← HB1.out]
  go_quiet (fail)
  go_wp2
  go_ret
  exact ⟨rfl, below_drewN HB0.out _⟩
 rw [if_neg h1]
 by_cases h2 : x ≤ (n1 : Int)
 ·rw [if_pos h2]
  go_enter Tryz.func118, Tryz.ntmps118
  go_wp2_with fail
  rw [← HWA.out, ← HW0.out, ← HA.out, ← HB1.out]
  go_quiet (fail)
  go_wp2
  go_ret
  exact ⟨rfl, below_drewN HB0.out _⟩
 rw [if_neg h2]
 by_cases h3 : y ≤ (n2 : Int)
 ·rw [if_pos h3]
  go_enter Tryz.func118, Tryz.ntmps118
  go_wp2_with fail
  rw [← HWA.out, ← HW0.out, ← HA.out, ← HB1.out]
  go_quiet (fail)
  go_wp2
  go_ret
  exact ⟨rfl, below_drewN HB0.out _⟩
 rw [if_neg h3]
 go_enter Tryz.func118, Tryz.ntmps118
 go_wp2_with fail
 rw [← HWA.out, ← HW0.out, ← HA.out, ← HB1.out]
 go_quiet (fail)
 go_wp2
 go_ret
 exact ⟨rfl, below_drewN HB0.out _⟩
def SlotP (id f : Int) (s : Sl) : Prop := s.r.size = 16 ∧ numB f s.ze = true ∧ numB f s.zr = true ∧ (s.e = true → s.h = true) ∧ (s.o = true → s.d = true) ∧ (1 ≤ stI f s.ze.length s.zr.length → s.d = true) ∧ (2 ≤ stI f s.ze.length s.zr.length → s.o = true) ∧ s.h = mineB s.r id f s.p.r s.p.k s.p.n s.p.i s.p.b s.p.m s.p.S
noncomputable def slotB (id f : Int) (s : Sl) : Bool := @decide (SlotP id f s) (Classical.propDecidable _)
theorem slotB_yes {id f : Int} {s : Sl} (h : SlotP id f s) : slotB id f s = true := by unfold slotB; exact @decide_eq_true _ (Classical.propDecidable _) h
theorem slotB_no {id f : Int} {s : Sl} (h : ¬ SlotP id f s) : slotB id f s = false := by unfold slotB; exact @decide_eq_false _ (Classical.propDecidable _) h
theorem slotB_is {id f : Int} {s : Sl} {mb : Bool} (g1 : s.r.size = 16) (g2 : numB f s.ze = true) (g3 : numB f s.zr = true) (g4 : s.e = true → s.h = true) (g5 : s.o = true → s.d = true) (g6 : 1 ≤ stI f s.ze.length s.zr.length → s.d = true) (g7 : 2 ≤ stI f s.ze.length s.zr.length → s.o = true) (hm : mineB s.r id f s.p.r s.p.k s.p.n s.p.i s.p.b s.p.m s.p.S = mb) : slotB id f s = (s.h == mb) := by
 by_cases h : s.h = mb
 ·rw [slotB_yes ⟨g1, g2, g3, g4, g5, g6, g7, h.trans hm.symm⟩, h]; simp
 ·rw [slotB_no (fun k => h (k.2.2.2.2.2.2.2.trans hm))]; simp [h]
theorem isSlot_c (id f : Int) (v : Value) (r : ByteArray) (p : Pc) (bh be bd bo : Bool) (ze zr : List Int) (a6 a1 a2 : Option Addr) (c6 c1 c2 : Nat) (w : World) (hT : TxtAt w a6 p.m p.S) (hE : IntsAt w a1 ze.length ze) (hZ : IntsAt w a2 zr.length zr) (hf : 1 ≤ f ∧ f ≤ 3) (hm : p.m ≤ 1048576) (hL : ∀ i, i < p.m → (p.S i).size ≤ maxLen) (h1 : ze.length ≤ 1048576) (h2 : zr.length ≤ 1048576) :
  Calls Tryz.prog 59 #[ndV id f v, .agg #[.string r, .string p.r, .int .i64 p.k, .int .i64 p.n, .int .i64 p.i, .string p.b, .slice a6 p.m c6, .bool bh, .bool be, .bool bd, .bool bo, .slice a1 ze.length c1, .slice a2 zr.length c2]] w fun e w' => e = .returned (.bool (slotB id f ⟨r, p, bh, be, bd, bo, ze, zr⟩)) ∧ Below w.heap.size w w' := by
 obtain ⟨A, HA⟩ : ∃ x, Hid (x = w.heap.size) := ⟨_, rfl⟩
 obtain ⟨wa, HWA⟩ : ∃ x, Hid (x = w.alloc (.cells #[.int .i64 id, .int .i64 f, v] 26)) := ⟨_, rfl⟩
 have HRA : Hid (Row wa A 26 #[.int .i64 id, .int .i64 f, v]) := by show Row _ _ _ _; rw [HWA.out, HA.out]; exact Row.new w _ _
 have hba : Below w.heap.size w wa := by rw [HWA.out]; exact (Below.refl _ _).alloc (Nat.le_refl _) _
 obtain ⟨B, HB⟩ : ∃ x, Hid (x = wa.heap.size) := ⟨_, rfl⟩
 obtain ⟨w0, HW0⟩ : ∃ x, Hid (x = wa.alloc (.cells (#[.string r, .string p.r, .int .i64 p.k, .int .i64 p.n, .int .i64 p.i, .string p.b, .slice a6 p.m c6, .bool bh, .bool be, .bool bd, .bool bo, .slice a1 ze.length c1, .slice a2 zr.length c2]) 42)) := ⟨_, rfl⟩
 have hbb : Below wa.heap.size wa w0 := by rw [HW0.out]; exact (Below.refl _ _).alloc (Nat.le_refl _) _
 have HR : Hid (Row w0 B 42 (#[.string r, .string p.r, .int .i64 p.k, .int .i64 p.n, .int .i64 p.i, .string p.b, .slice a6 p.m c6, .bool bh, .bool be, .bool bd, .bool bo, .slice a1 ze.length c1, .slice a2 zr.length c2])) := by show Row _ _ _ _; rw [HW0.out, HB.out]; exact Row.new wa _ _
 have HB0 : Hid (Below w.heap.size w w0) := below2 hba hbb
 have HB1 : Hid (B = A + 1) := by show _ = _; rw [HB.out, HWA.out, HA.out]; simp
 have RA := HRA.out.below hbb HRA.out.lt
 have r0 := RA.cell 0
 have r1 := RA.cell 1
 have r2 := RA.cell 2
 have q0 := HR.out.cell 0
 have q1 := HR.out.cell 1
 have q2 := HR.out.cell 2
 have q3 := HR.out.cell 3
 have q4 := HR.out.cell 4
 have q5 := HR.out.cell 5
 have q6 := HR.out.cell 6
 have q7 := HR.out.cell 7
 have q8 := HR.out.cell 8
 have q9 := HR.out.cell 9
 have q10 := HR.out.cell 10
 have q11 := HR.out.cell 11
 have q12 := HR.out.cell 12
 have lA := RA.lt
 have lB := HR.out.lt
 simp at r0 r1 r2 q0 q1 q2 q3 q4 q5 q6 q7 q8 q9 q10 q11 q12
 have K1 : Hid (∀ W, Below w0.heap.size w0 W → Calls Tryz.prog 117 #[ndV id f v, .slice a1 ze.length c1] W fun e w' => e = .returned (.bool (numB f ze)) ∧ Below W.heap.size W w') := fun W hW => areNodes_any id f v a1 _ c1 ze W ((hE.below HB0.out).below hW) hf h1
 have K2 : Hid (∀ W, Below w0.heap.size w0 W → Calls Tryz.prog 117 #[ndV id f v, .slice a2 zr.length c2] W fun e w' => e = .returned (.bool (numB f zr)) ∧ Below W.heap.size W w') := fun W hW => areNodes_any id f v a2 _ c2 zr W ((hZ.below HB0.out).below hW) hf h2
 have K3 : Hid (∀ W, Calls Tryz.prog 118 #[ndV id f v, .agg #[.string r, .string p.r, .int .i64 p.k, .int .i64 p.n, .int .i64 p.i, .string p.b, .slice a6 p.m c6, .bool bh, .bool be, .bool bd, .bool bo, .slice a1 ze.length c1, .slice a2 zr.length c2]] W fun e w' => e = .returned (.int .i64 (stI f ze.length zr.length)) ∧ Below W.heap.size W w') := fun W => stateOf_any id f v ⟨r, p, bh, be, bd, bo, ze, zr⟩ _ a1 a2 _ _ c1 c2 W hf
 have K4 : Hid (∀ W, Below w0.heap.size w0 W → Calls Tryz.prog 119 #[ndV id f v, pcV p.r p.k p.n p.i p.b (.slice a6 p.m c6), .string r] W fun e w' => e = .returned (.bool (mineB r id f p.r p.k p.n p.i p.b p.m p.S)) ∧ Below W.heap.size W w') := fun W hW => owns_any r id f v _ _ _ _ _ a6 _ c6 _ W ((hT.below HB0.out).below hW) hf hm hL
 clear hT hE hZ hf hm hL RA hba hbb
 by_cases g1 : r.size = 16
 case neg =>
  rw [slotB_no (fun h => g1 h.1)]
  have g1' : ((r.size : Int) != 16) = true := by simp; omega
  go_enter Tryz.func59, Tryz.ntmps59
  go_wp2_with fail
  rw [← HWA.out, ← HW0.out, ← HA.out, ← HB1.out]
  go_ret
  exact ⟨rfl, by rw [HA.out]; exact HB0.out⟩
 have g1' : ((r.size : Int) != 16) = false := by simp; omega
 by_cases g2 : numB f ze = true
 case neg =>
  rw [slotB_no (fun h => g2 h.2.1)]
  rw [Bool.not_eq_true] at g2
  rw [g2] at K1
  go_enter Tryz.func59, Tryz.ntmps59
  go_wp2_with fail
  rw [← HWA.out, ← HW0.out, ← HA.out, ← HB1.out]
  refine (K1.out _ (Below.refl _ _)).mono ?_
  rintro e w1 ⟨rfl, b1⟩
  go_wp2_with fail
  go_ret
  exact ⟨rfl, below2 HB0.out b1⟩
 rw [g2] at K1
 by_cases g3 : numB f zr = true
 case neg =>
  rw [slotB_no (fun h => g3 h.2.2.1)]
  rw [Bool.not_eq_true] at g3
  rw [g3] at K2
  go_enter Tryz.func59, Tryz.ntmps59
  go_wp2_with fail
  rw [← HWA.out, ← HW0.out, ← HA.out, ← HB1.out]
  refine (K1.out _ (Below.refl _ _)).mono ?_
  rintro e w1 ⟨rfl, b1⟩
  have K1b : Hid (Below w0.heap.size w0 w1) := b1
  have tr0 := (b1.cell (p := ⟨A, 0, none⟩) lA).trans r0
  have tr1 := (b1.cell (p := ⟨A, 1, none⟩) lA).trans r1
  have tr2 := (b1.cell (p := ⟨A, 2, none⟩) lA).trans r2
  have tq0 := (b1.cell (p := ⟨B, 0, none⟩) lB).trans q0
  have tq1 := (b1.cell (p := ⟨B, 1, none⟩) lB).trans q1
  have tq2 := (b1.cell (p := ⟨B, 2, none⟩) lB).trans q2
  have tq3 := (b1.cell (p := ⟨B, 3, none⟩) lB).trans q3
  have tq4 := (b1.cell (p := ⟨B, 4, none⟩) lB).trans q4
  have tq5 := (b1.cell (p := ⟨B, 5, none⟩) lB).trans q5
  have tq6 := (b1.cell (p := ⟨B, 6, none⟩) lB).trans q6
  have tq7 := (b1.cell (p := ⟨B, 7, none⟩) lB).trans q7
  have tq8 := (b1.cell (p := ⟨B, 8, none⟩) lB).trans q8
  have tq9 := (b1.cell (p := ⟨B, 9, none⟩) lB).trans q9
  have tq10 := (b1.cell (p := ⟨B, 10, none⟩) lB).trans q10
  have tq11 := (b1.cell (p := ⟨B, 11, none⟩) lB).trans q11
  have tq12 := (b1.cell (p := ⟨B, 12, none⟩) lB).trans q12
  clear b1
  go_wp2_with fail
  refine (K2.out _ K1b.out).mono ?_
  rintro e w2 ⟨rfl, b2⟩
  go_wp2_with fail
  go_ret
  exact ⟨rfl, below2 HB0.out (below2 K1b.out b2)⟩
 rw [g3] at K2
 have G : Hid (r.size = 16 ∧ numB f ze = true ∧ numB f zr = true) := ⟨g1, g2, g3⟩
 clear g1 g2 g3
 obtain ⟨x, HX⟩ : ∃ x, Hid (stI f ze.length zr.length = x) := ⟨_, rfl⟩
 rw [HX.out] at K3
 obtain ⟨mb, HM⟩ : ∃ x, Hid (mineB r id f p.r p.k p.n p.i p.b p.m p.S = x) := ⟨_, rfl⟩
 rw [HM.out] at K4
 have hx : x = 0 ∨ x = 1 ∨ x = 2 := by
  rw [← HX.out]; unfold stI; split
  ·exact .inr (.inr rfl)
  ·split
   ·exact .inr (.inl rfl)
   ·split
    ·exact .inr (.inl rfl)
    ·exact .inl rfl
 go_enter Tryz.func59, Tryz.ntmps59
 go_wp2_with fail
 rw [← HWA.out, ← HW0.out, ← HA.out, ← HB1.out]
 refine (K1.out _ (Below.refl _ _)).mono ?_
 rintro e w1 ⟨rfl, b1⟩
 have K1b : Hid (Below w0.heap.size w0 w1) := b1
 have tr0 := (b1.cell (p := ⟨A, 0, none⟩) lA).trans r0
 have tr1 := (b1.cell (p := ⟨A, 1, none⟩) lA).trans r1
 have tr2 := (b1.cell (p := ⟨A, 2, none⟩) lA).trans r2
 have tq0 := (b1.cell (p := ⟨B, 0, none⟩) lB).trans q0
 have tq1 := (b1.cell (p := ⟨B, 1, none⟩) lB).trans q1
 have tq2 := (b1.cell (p := ⟨B, 2, none⟩) lB).trans q2
 have tq3 := (b1.cell (p := ⟨B, 3, none⟩) lB).trans q3
 have tq4 := (b1.cell (p := ⟨B, 4, none⟩) lB).trans q4
 have tq5 := (b1.cell (p := ⟨B, 5, none⟩) lB).trans q5
 have tq6 := (b1.cell (p := ⟨B, 6, none⟩) lB).trans q6
 have tq7 := (b1.cell (p := ⟨B, 7, none⟩) lB).trans q7
 have tq8 := (b1.cell (p := ⟨B, 8, none⟩) lB).trans q8
 have tq9 := (b1.cell (p := ⟨B, 9, none⟩) lB).trans q9
 have tq10 := (b1.cell (p := ⟨B, 10, none⟩) lB).trans q10
 have tq11 := (b1.cell (p := ⟨B, 11, none⟩) lB).trans q11
 have tq12 := (b1.cell (p := ⟨B, 12, none⟩) lB).trans q12
 clear b1
 go_wp2_with fail
 refine (K2.out _ K1b.out).mono ?_
 rintro e w2 ⟨rfl, b2⟩
 have K2b : Hid (Below w0.heap.size w0 w2) := below2 K1b.out b2
 have ur0 := (K2b.out.cell (p := ⟨A, 0, none⟩) lA).trans r0
 have ur1 := (K2b.out.cell (p := ⟨A, 1, none⟩) lA).trans r1
 have ur2 := (K2b.out.cell (p := ⟨A, 2, none⟩) lA).trans r2
 have uq0 := (K2b.out.cell (p := ⟨B, 0, none⟩) lB).trans q0
 have uq1 := (K2b.out.cell (p := ⟨B, 1, none⟩) lB).trans q1
 have uq2 := (K2b.out.cell (p := ⟨B, 2, none⟩) lB).trans q2
 have uq3 := (K2b.out.cell (p := ⟨B, 3, none⟩) lB).trans q3
 have uq4 := (K2b.out.cell (p := ⟨B, 4, none⟩) lB).trans q4
 have uq5 := (K2b.out.cell (p := ⟨B, 5, none⟩) lB).trans q5
 have uq6 := (K2b.out.cell (p := ⟨B, 6, none⟩) lB).trans q6
 have uq7 := (K2b.out.cell (p := ⟨B, 7, none⟩) lB).trans q7
 have uq8 := (K2b.out.cell (p := ⟨B, 8, none⟩) lB).trans q8
 have uq9 := (K2b.out.cell (p := ⟨B, 9, none⟩) lB).trans q9
 have uq10 := (K2b.out.cell (p := ⟨B, 10, none⟩) lB).trans q10
 have uq11 := (K2b.out.cell (p := ⟨B, 11, none⟩) lB).trans q11
 have uq12 := (K2b.out.cell (p := ⟨B, 12, none⟩) lB).trans q12
 clear b2 tr0 tr1 tr2 tq0 tq1 tq2 tq3 tq4 tq5 tq6 tq7 tq8 tq9 tq10 tq11 tq12
 have B2 : Hid (Below w.heap.size w w2) := below2 HB0.out K2b.out
 clear K1 K2 K1b h1 h2
 cases be <;> cases bh <;> cases bo <;> cases bd
 all_goals go_wp2_with fail
 all_goals first
  | (
   go_ret
   exact ⟨ret_bool (slotB_no (fun h => by have h4 := h.2.2.2.1; have h5 := h.2.2.2.2.1; simp at h4 h5)).symm, B2.out⟩)
  | (
   refine (K3.out _).mono ?_
   rintro e w3 ⟨rfl, b3⟩
   have K3b : Hid (Below w0.heap.size w0 w3) := below2 K2b.out b3
   have vr0 := (K3b.out.cell (p := ⟨A, 0, none⟩) lA).trans r0
   have vr1 := (K3b.out.cell (p := ⟨A, 1, none⟩) lA).trans r1
   have vr2 := (K3b.out.cell (p := ⟨A, 2, none⟩) lA).trans r2
   have vq0 := (K3b.out.cell (p := ⟨B, 0, none⟩) lB).trans q0
   have vq1 := (K3b.out.cell (p := ⟨B, 1, none⟩) lB).trans q1
   have vq2 := (K3b.out.cell (p := ⟨B, 2, none⟩) lB).trans q2
   have vq3 := (K3b.out.cell (p := ⟨B, 3, none⟩) lB).trans q3
   have vq4 := (K3b.out.cell (p := ⟨B, 4, none⟩) lB).trans q4
   have vq5 := (K3b.out.cell (p := ⟨B, 5, none⟩) lB).trans q5
   have vq6 := (K3b.out.cell (p := ⟨B, 6, none⟩) lB).trans q6
   have vq7 := (K3b.out.cell (p := ⟨B, 7, none⟩) lB).trans q7
   have vq8 := (K3b.out.cell (p := ⟨B, 8, none⟩) lB).trans q8
   have vq9 := (K3b.out.cell (p := ⟨B, 9, none⟩) lB).trans q9
   have vq10 := (K3b.out.cell (p := ⟨B, 10, none⟩) lB).trans q10
   have vq11 := (K3b.out.cell (p := ⟨B, 11, none⟩) lB).trans q11
   have vq12 := (K3b.out.cell (p := ⟨B, 12, none⟩) lB).trans q12
   clear b3 ur0 ur1 ur2 uq0 uq1 uq2 uq3 uq4 uq5 uq6 uq7 uq8 uq9 uq10 uq11 uq12
   rcases hx with rfl | rfl | rfl
   all_goals go_wp2_with fail
   all_goals first
    | (
     go_ret
     exact ⟨ret_bool (slotB_no (fun h => by have h6 := h.2.2.2.2.2.1; have h7 := h.2.2.2.2.2.2.1; simp [HX.out] at h6 h7)).symm, below2 HB0.out K3b.out⟩)
    | (
     have lt3 : ∀ {X}, X < w0.heap.size → X < w3.heap.size := fun h => Nat.lt_of_lt_of_le h K3b.out.size
     first
      | (go_region_held3 (fun w' => w'.cell? ⟨A, 0, none⟩ = some (.int .i64 id) ∧ w'.cell? ⟨A, 1, none⟩ = some (.int .i64 f) ∧ w'.cell? ⟨A, 2, none⟩ = some (v) ∧ w'.cell? ⟨B, 0, none⟩ = some (.string r) ∧ w'.cell? ⟨B, 1, none⟩ = some (.string p.r) ∧ w'.cell? ⟨B, 2, none⟩ = some (.int .i64 p.k) ∧ w'.cell? ⟨B, 3, none⟩ = some (.int .i64 p.n) ∧ w'.cell? ⟨B, 4, none⟩ = some (.int .i64 p.i) ∧ w'.cell? ⟨B, 5, none⟩ = some (.string p.b) ∧ w'.cell? ⟨B, 6, none⟩ = some (.slice a6 p.m c6) ∧ w'.cell? ⟨B, 7, none⟩ = some (.bool true)) (go_keep) ((go_at_call 119; refine Calls.mono (K4.out _ (below_drewN K3b.out _)) ?_; rintro e w9 ⟨rfl, hb9'⟩; have hb9 := below_of_drew hb9'; clear hb9'; have xr0 := (hb9.cell (p := ⟨A, 0, none⟩) (lt3 lA)).trans vr0; have xr1 := (hb9.cell (p := ⟨A, 1, none⟩) (lt3 lA)).trans vr1; have xr2 := (hb9.cell (p := ⟨A, 2, none⟩) (lt3 lA)).trans vr2; have xq0 := (hb9.cell (p := ⟨B, 0, none⟩) (lt3 lB)).trans vq0; have xq1 := (hb9.cell (p := ⟨B, 1, none⟩) (lt3 lB)).trans vq1; have xq2 := (hb9.cell (p := ⟨B, 2, none⟩) (lt3 lB)).trans vq2; have xq3 := (hb9.cell (p := ⟨B, 3, none⟩) (lt3 lB)).trans vq3; have xq4 := (hb9.cell (p := ⟨B, 4, none⟩) (lt3 lB)).trans vq4; have xq5 := (hb9.cell (p := ⟨B, 5, none⟩) (lt3 lB)).trans vq5; have xq6 := (hb9.cell (p := ⟨B, 6, none⟩) (lt3 lB)).trans vq6; have xq7 := (hb9.cell (p := ⟨B, 7, none⟩) (lt3 lB)).trans vq7)))
      | (go_region_held3 (fun w' => w'.cell? ⟨A, 0, none⟩ = some (.int .i64 id) ∧ w'.cell? ⟨A, 1, none⟩ = some (.int .i64 f) ∧ w'.cell? ⟨A, 2, none⟩ = some (v) ∧ w'.cell? ⟨B, 0, none⟩ = some (.string r) ∧ w'.cell? ⟨B, 1, none⟩ = some (.string p.r) ∧ w'.cell? ⟨B, 2, none⟩ = some (.int .i64 p.k) ∧ w'.cell? ⟨B, 3, none⟩ = some (.int .i64 p.n) ∧ w'.cell? ⟨B, 4, none⟩ = some (.int .i64 p.i) ∧ w'.cell? ⟨B, 5, none⟩ = some (.string p.b) ∧ w'.cell? ⟨B, 6, none⟩ = some (.slice a6 p.m c6) ∧ w'.cell? ⟨B, 7, none⟩ = some (.bool false)) (go_keep) ((go_at_call 119; refine Calls.mono (K4.out _ (below_drewN K3b.out _)) ?_; rintro e w9 ⟨rfl, hb9'⟩; have hb9 := below_of_drew hb9'; clear hb9'; have xr0 := (hb9.cell (p := ⟨A, 0, none⟩) (lt3 lA)).trans vr0; have xr1 := (hb9.cell (p := ⟨A, 1, none⟩) (lt3 lA)).trans vr1; have xr2 := (hb9.cell (p := ⟨A, 2, none⟩) (lt3 lA)).trans vr2; have xq0 := (hb9.cell (p := ⟨B, 0, none⟩) (lt3 lB)).trans vq0; have xq1 := (hb9.cell (p := ⟨B, 1, none⟩) (lt3 lB)).trans vq1; have xq2 := (hb9.cell (p := ⟨B, 2, none⟩) (lt3 lB)).trans vq2; have xq3 := (hb9.cell (p := ⟨B, 3, none⟩) (lt3 lB)).trans vq3; have xq4 := (hb9.cell (p := ⟨B, 4, none⟩) (lt3 lB)).trans vq4; have xq5 := (hb9.cell (p := ⟨B, 5, none⟩) (lt3 lB)).trans vq5; have xq6 := (hb9.cell (p := ⟨B, 6, none⟩) (lt3 lB)).trans vq6; have xq7 := (hb9.cell (p := ⟨B, 7, none⟩) (lt3 lB)).trans vq7)))
     all_goals
      go_wp2
      go_ret
      refine ⟨ret_bool ?_, below2 HB0.out (below2 K3b.out hb9)⟩
      rw [slotB_is G.out.1 G.out.2.1 G.out.2.2 (by simp) (by simp) (by simp [HX.out]) (by simp [HX.out]) HM.out]
      cases mb <;> rfl))
theorem isSlot_any (id f : Int) (v : Value) (s : Sl) (a6 a1 a2 : Option Addr) (c6 c1 c2 : Nat) (w : World) (hT : TxtAt w a6 s.p.m s.p.S) (hE : IntsAt w a1 s.ze.length s.ze) (hZ : IntsAt w a2 s.zr.length s.zr) (hf : 1 ≤ f ∧ f ≤ 3) (hm : s.p.m ≤ 1048576) (hL : ∀ i, i < s.p.m → (s.p.S i).size ≤ maxLen) (h1 : s.ze.length ≤ 1048576) (h2 : s.zr.length ≤ 1048576) :
  Calls Tryz.prog 59 #[ndV id f v, slV s (.slice a6 s.p.m c6) (.slice a1 s.ze.length c1) (.slice a2 s.zr.length c2)] w fun e w' => e = .returned (.bool (slotB id f s)) ∧ Below w.heap.size w w' := by
 obtain ⟨r, p, bh, be, bd, bo, ze, zr⟩ := s
 exact isSlot_c id f v r p bh be bd bo ze zr a6 a1 a2 c6 c1 c2 w hT hE hZ hf hm hL h1 h2
def NdP (id f : Int) (n : Nat) (S : Nat → Sl) : Prop := seB id f = true ∧ n ≤ 40 ∧ ∀ i, i < n → SlotP id f (S i) ∧ ∀ j, j < i → (S j).r ≠ (S i).r
noncomputable def ndB (id f : Int) (n : Nat) (S : Nat → Sl) : Bool := @decide (NdP id f n S) (Classical.propDecidable _)
theorem ndB_yes {id f : Int} {n : Nat} {S : Nat → Sl} (h : NdP id f n S) : ndB id f n S = true := by unfold ndB; exact @decide_eq_true _ (Classical.propDecidable _) h
theorem ndB_no {id f : Int} {n : Nat} {S : Nat → Sl} (h : ¬ NdP id f n S) : ndB id f n S = false := by unfold ndB; exact @decide_eq_false _ (Classical.propDecidable _) h
theorem seB_f {id f : Int} (h : seB id f = true) : 1 ≤ f ∧ f ≤ 3 := by
 have := of_decide_eq_true h
 exact ⟨this.1, this.2.1⟩
structure SlN (s : Sl) : Prop where
 m : s.p.m ≤ 1048576
 tx : ∀ i, i < s.p.m → (s.p.S i).size ≤ maxLen
 ne : s.ze.length ≤ 1048576
 nr : s.zr.length ≤ 1048576
theorem plX_no {S : Nat → Sl} {n i : Nat} (hi : i < n) (h : ∀ j, j < i → (S j).r ≠ (S i).r) : ¬ plX S (S i).r n < (i : Int) := by
 unfold plX
 cases e : plc S (S i).r n with
 | none => exact absurd rfl (plF_none e i (by omega) (by omega))
 | some x =>
  obtain ⟨_, h2, h3, h4⟩ := plF_some e
  show ¬ (x : Int) < (i : Int)
  intro hx
  exact h x (by omega) h3
theorem plX_yes {S : Nat → Sl} {n i j : Nat} (hi : i < n) (hj : j < i) (h : (S j).r = (S i).r) : plX S (S i).r n < (i : Int) := by
 unfold plX
 cases e : plc S (S i).r n with
 | none => exact absurd h (plF_none e j (by omega) (by omega))
 | some x =>
  obtain ⟨_, h2, h3, h4⟩ := plF_some e
  show (x : Int) < (i : Int)
  by_cases hx : x < i
  ·omega
  ·exact absurd h (h4 j (by omega) (by omega))
theorem ag13_list {y : Nat → Value} {c0 c1 c2 c3 c4 c5 c6 c7 c8 c9 c10 c11 c12 : Value} (h : ag13 y = .agg #[c0, c1, c2, c3, c4, c5, c6, c7, c8, c9, c10, c11, c12]) : [y 0, y 1, y 2, y 3, y 4, y 5, y 6, y 7, y 8, y 9, y 10, y 11, y 12] = [c0, c1, c2, c3, c4, c5, c6, c7, c8, c9, c10, c11, c12] := by
 have h' := congrArg (fun v => match v with | Value.agg a => a.toList | _ => []) h
 exact h'
abbrev slL (s : Sl) (v6 v11 v12 : Value) : List Value := [.string s.r, .string s.p.r, .int .i64 s.p.k, .int .i64 s.p.n, .int .i64 s.p.i, .string s.p.b, v6, .bool s.h, .bool s.e, .bool s.d, .bool s.o, v11, v12]
theorem slot_at {w : World} {n : Nat} {S : Nat → Sl} {a : Option Addr} {cap : Nat} (h : Rd w (slsD n S) (.slice a n cap)) {i : Nat} (hi : i < n) :
  ∃ (b off : Nat) (a6 a11 a12 : Option Addr) (c6 c11 c12 : Nat), a = some ⟨b, off, none⟩ ∧ w.rangeAt b (off + i * 13) (slL (S i) (.slice a6 (S i).p.m c6) (.slice a11 (S i).ze.length c11) (.slice a12 (S i).zr.length c12)) ∧ TxtAt w a6 (S i).p.m (S i).p.S ∧ IntsAt w a11 (S i).ze.length (S i).ze ∧ IntsAt w a12 (S i).zr.length (S i).zr := by
 obtain ⟨b, off, y, a6, a11, a12, c6, c11, c12, ea, hc, e, t6, t11, t12⟩ := slot_row h hi
 obtain ⟨_, x⟩ := one_row (sz := 12) w (Below.refl _ _) hc
 have R := range13 x
 rw [ag13_list e] at R
 exact ⟨b, off, a6, a11, a12, c6, c11, c12, ea, R, t6, t11, t12⟩
theorem nodeOk_any (id f : Int) (a : Option Addr) (n cap : Nat) (S : Nat → Sl) (w : World) (h : Rd w (slsD n S) (.slice a n cap)) (hn : n ≤ 1048576) (hs : ∀ i, i < n → SlN (S i)) :
  Calls Tryz.prog 13 #[ndV id f (.slice a n cap)] w fun e w' => e = .returned (.bool (ndB id f n S)) ∧ Below w.heap.size w w' := by
 obtain ⟨A, HA⟩ : ∃ x, Hid (x = w.heap.size) := ⟨_, rfl⟩
 obtain ⟨w0, HW0⟩ : ∃ x, Hid (x = w.alloc (.cells #[.int .i64 id, .int .i64 f, .slice a n cap] 26)) := ⟨_, rfl⟩
 have HR : Hid (Row w0 A 26 #[.int .i64 id, .int .i64 f, .slice a n cap]) := by show Row _ _ _ _; rw [HW0.out, HA.out]; exact Row.new w _ _
 have b0 : Below w.heap.size w w0 := by rw [HW0.out]; exact (Below.refl _ _).alloc (Nat.le_refl _) _
 have KB0 : Hid (Below w.heap.size w w0) := b0
 have KS : Hid _ := isSeated_any id f (.slice a n cap) w0
 have KH : Hid (Rd w0 (slsD n S) (.slice a n cap)) := h.below b0
 have KN : Hid (∀ i, i < n → SlN (S i)) := hs
 clear h b0 hs
 cases hse : seB id f with
 | false =>
  rw [hse] at KS
  rw [ndB_no (fun h => by have := h.1; rw [hse] at this; cases this)]
  go_enter Tryz.func13, Tryz.ntmps13
  go_wp2_with fail
  rw [← HW0.out, ← HA.out]
  refine Calls.mono KS.out ?_
  rintro e w1 ⟨rfl, b1⟩
  go_wp2
  go_ret
  exact ⟨rfl, below2 KB0.out b1⟩
 | true =>
  rw [hse] at KS
  have HF : Hid (1 ≤ f ∧ f ≤ 3) := seB_f hse
  have HSE : Hid (seB id f = true) := hse
  clear hse
  by_cases h40 : n ≤ 40
  case neg =>
   rw [ndB_no (fun h => h40 h.2.1)]
   have h40' : (n : Int) > 40 := by omega
   go_enter Tryz.func13, Tryz.ntmps13
   go_wp2_with fail
   rw [← HW0.out, ← HA.out]
   refine Calls.mono KS.out ?_
   rintro e w1 ⟨rfl, b1⟩
   have x2 := (HR.out.below b1 HR.out.lt).cell 2
   simp at x2
   go_wp2
   go_ret
   exact ⟨rfl, below2 KB0.out b1⟩
  have h40' : ¬ (n : Int) > 40 := by omega
  go_enter Tryz.func13, Tryz.ntmps13
  go_wp2_with fail
  rw [← HW0.out, ← HA.out]
  refine Calls.mono KS.out ?_
  rintro e w1 ⟨rfl, b1⟩
  have KB1 : Hid (Below w0.heap.size w0 w1) := b1
  have x2 := (HR.out.below b1 HR.out.lt).cell 2
  simp at x2
  clear b1
  go_wp2_with fail
  go_loopw [17] (fun vi wr => ∃ k : Nat, k ≤ n ∧ vi = .int .i64 (k : Int) ∧ Hid (∀ i, i < k → SlotP id f (S i) ∧ ∀ j, j < i → (S j).r ≠ (S i).r) ∧ Below w0.heap.size w0 wr) (fun vi _ => n - (intOf vi).toNat)
  case atStart => exact ⟨0, Nat.zero_le _, rfl, fun i hi => absurd hi (Nat.not_lt_zero _), KB1.out⟩
  case round =>
   clear x2 KB1
   obtain ⟨k, hk, rfl, HP, hbel⟩ := hrel
   by_cases hlt : k < n
   ·have hki : (k : Int) < (n : Int) := by omega
    obtain ⟨b1, f1, p6, p11, p12, q6, q11, q12, rfl, R1, t6, t11, t12⟩ := slot_at (KH.out.below hbel) hlt
    have R1 : Hid _ := R1
    obtain ⟨B2, HB2⟩ : ∃ x, Hid (x = wr.heap.size) := ⟨_, rfl⟩
    obtain ⟨w2, HW2⟩ : ∃ x, Hid (x = wr.alloc (.cells (slC (S k) (.slice p6 (S k).p.m q6) (.slice p11 (S k).ze.length q11) (.slice p12 (S k).zr.length q12)) 42)) := ⟨_, rfl⟩
    have b2 : Below wr.heap.size wr w2 := by rw [HW2.out]; exact (Below.refl _ _).alloc (Nat.le_refl _) _
    have HR2 : Hid (Row w2 B2 42 (slC (S k) (.slice p6 (S k).p.m q6) (.slice p11 (S k).ze.length q11) (.slice p12 (S k).zr.length q12))) := by show Row _ _ _ _; rw [HW2.out, HB2.out]; exact Row.new wr _ _
    have KB2 : Hid (Below w0.heap.size w0 w2) := below2 hbel b2
    obtain ⟨px, HPX⟩ : ∃ x, Hid (plX S (S k).r n = x) := ⟨_, rfl⟩
    have KP : Hid _ := placeOf_any id f (some ⟨b1, f1, none⟩) n cap S (S k).r w2 (KH.out.below KB2.out) hn
    rw [HPX.out] at KP
    have KI : Hid (∀ W, Below w2.heap.size w2 W → Calls Tryz.prog 59 #[ndV id f (.slice (some ⟨b1, f1, none⟩) n cap), slV (S k) (.slice p6 (S k).p.m q6) (.slice p11 (S k).ze.length q11) (.slice p12 (S k).zr.length q12)] W fun e w' => e = .returned (.bool (slotB id f (S k))) ∧ Below W.heap.size W w') := fun W hW => isSlot_any id f _ (S k) p6 p11 p12 q6 q11 q12 W ((t6.below b2).below hW) ((t11.below b2).below hW) ((t12.below b2).below hW) HF.out (KN.out k hlt).m (KN.out k hlt).tx (KN.out k hlt).ne (KN.out k hlt).nr
    have RA := HR.out.below hbel HR.out.lt
    have x0 := RA.cell 0
    have x1 := RA.cell 1
    have x2 := RA.cell 2
    simp at x0 x1 x2
    have lA := RA.lt
    have HLT : Hid (k < n) := hlt
    clear t6 t11 t12 b2 RA hbel
    by_cases hp : px < (k : Int)
    ·have HN : Hid (ndB id f n S = false) := ndB_no fun h => (plX_no HLT.out (h.2.2 k HLT.out).2) (by rw [HPX.out]; exact hp)
     go_wp2_with (refine wpList_load_mid (by rfl) 42 _ (by rfl) b1 (f1 + k * 13) (by rfl) (slL (S k) (.slice p6 (S k).p.m q6) (.slice p11 (S k).ze.length q11) (.slice p12 (S k).zr.length q12)) _ ?_ Tryz.underlying42 (by rfl) Tryz.infoSl ?_; exact R1.out)
     rw [← HW2.out]
     refine Calls.mono KP.out ?_
     rintro e w3 ⟨rfl, b3⟩
     have KB3 : Hid (Below w0.heap.size w0 w3) := below2 KB2.out b3
     clear b3 x0 x1 x2
     go_wp2
     go_ret
     exact ⟨ret_bool HN.out.symm, below2 KB0.out KB3.out⟩
    have HQ : Hid (∀ j, j < k → (S j).r ≠ (S k).r) := fun j hj e => hp (by rw [← HPX.out]; exact plX_yes HLT.out hj e)
    go_wp2_with (refine wpList_load_mid (by rfl) 42 _ (by rfl) b1 (f1 + k * 13) (by rfl) (slL (S k) (.slice p6 (S k).p.m q6) (.slice p11 (S k).ze.length q11) (.slice p12 (S k).zr.length q12)) _ ?_ Tryz.underlying42 (by rfl) Tryz.infoSl ?_; exact R1.out)
    rw [← HW2.out, ← HB2.out]
    refine Calls.mono KP.out ?_
    rintro e w3 ⟨rfl, b3⟩
    have KB3 : Hid (Below w2.heap.size w2 w3) := b3
    have KB4 : Hid (Below w0.heap.size w0 w3) := below2 KB2.out b3
    have RA := HR.out.below KB4.out HR.out.lt
    replace x0 := RA.cell 0
    replace x1 := RA.cell 1
    replace x2 := RA.cell 2
    have RB := HR2.out.below b3 HR2.out.lt
    have z0 := RB.cell 0
    have z1 := RB.cell 1
    have z2 := RB.cell 2
    have z3 := RB.cell 3
    have z4 := RB.cell 4
    have z5 := RB.cell 5
    have z6 := RB.cell 6
    have z7 := RB.cell 7
    have z8 := RB.cell 8
    have z9 := RB.cell 9
    have z10 := RB.cell 10
    have z11 := RB.cell 11
    have z12 := RB.cell 12
    simp at x0 x1 x2 z0 z1 z2 z3 z4 z5 z6 z7 z8 z9 z10 z11 z12
    clear b3 RA RB R1
    go_wp2_with fail
    refine Calls.mono (KI.out _ KB3.out) ?_
    rintro e w4 ⟨rfl, b4⟩
    have KB5 : Hid (Below w0.heap.size w0 w4) := below2 KB4.out b4
    clear x0 x1 x2 z0 z1 z2 z3 z4 z5 z6 z7 z8 z9 z10 z11 z12 b4
    by_cases hq : SlotP id f (S k)
    ·have HP2 : Hid (∀ i, i < k + 1 → SlotP id f (S i) ∧ ∀ j, j < i → (S j).r ≠ (S i).r) := fun i hi => by
      by_cases e : i = k
      ·subst e; exact ⟨hq, HQ.out⟩
      ·exact HP.out i (by omega)
     rw [slotB_yes hq]
     go_wp2
     go_roundw
     case rel => exact ⟨k + 1, by omega, by go_num, HP2, KB5.out⟩
     case measure => simp [intOf]; omega
    ·have HN : Hid (ndB id f n S = false) := ndB_no fun h => hq (h.2.2 k HLT.out).1
     rw [slotB_no hq]
     go_wp2
     go_ret
     exact ⟨ret_bool HN.out.symm, below2 KB0.out KB5.out⟩
   ·obtain rfl : k = n := by omega
    have HY : Hid (ndB id f k S = true) := ndB_yes ⟨HSE.out, h40, HP.out⟩
    go_wp2
    go_ret
    exact ⟨ret_bool HY.out.symm, below2 KB0.out hbel⟩
end Go.Proofs.YtcaejlalnjnifaaGreat
namespace Go.Proofs.YtcaejlalnjnifaaGreat
open Go.ChangeShapes Go.WideShapes Go.ChangeAt Go.RowKit Go.Sort
def g7 (x1 b2 b3 bh bm be bd bo : Bool) : Bool := x1 && b2 && b3 && (bh == bm) && (!be || bh) && (!bo || bd)
def g9 (bd bo : Bool) (e1 r1 r2 : Bool) : Bool := !((!bd && (e1 || r1)) || (!bo && r2))
theorem slot_of_gs {id f : Int} {s : Sl} (h7 : g7 (decide (s.r.size = 16)) (numB f s.ze) (numB f s.zr) s.h (mineB s.r id f s.p.r s.p.k s.p.n s.p.i s.p.b s.p.m s.p.S) s.e s.d s.o = true) (h9 : g9 s.d s.o (decide (2 * f + 1 ≤ (s.ze.length : Int))) (decide (f + 1 ≤ (s.zr.length : Int))) (decide (2 * f + 1 ≤ (s.zr.length : Int))) = true) : SlotP id f s := by
 unfold g7 at h7
 unfold g9 at h9
 simp only [Bool.and_eq_true, Bool.or_eq_true, Bool.not_eq_true', decide_eq_true_eq, beq_iff_eq, Bool.or_eq_false_iff, Bool.and_eq_false_iff, Bool.not_eq_false', decide_eq_false_iff_not] at h7 h9
 obtain ⟨⟨⟨⟨⟨a1, a2⟩, a3⟩, a4⟩, a5⟩, a6⟩ := h7
 obtain ⟨c1, c2⟩ := h9
 refine ⟨a1, a2, a3, fun h => ?_, fun h => ?_, fun h => ?_, fun h => ?_, a4⟩
 ·rcases a5 with a5 | a5
  ·rw [h] at a5; cases a5
  ·exact a5
 ·rcases a6 with a6 | a6
  ·rw [h] at a6; cases a6
  ·exact a6
 ·rcases c1 with c1 | c1
  ·exact c1
  ·unfold stI at h
   obtain ⟨d1, d2⟩ := c1
   rw [if_neg (by omega), if_neg d1, if_neg d2] at h
   omega
 ·rcases c2 with c2 | c2
  ·exact c2
  ·unfold stI at h
   rw [if_neg c2] at h
   split at h
   ·omega
   ·split at h <;> omega
theorem gs_of_slot {id f : Int} {s : Sl} (h : SlotP id f s) : g7 (decide (s.r.size = 16)) (numB f s.ze) (numB f s.zr) s.h (mineB s.r id f s.p.r s.p.k s.p.n s.p.i s.p.b s.p.m s.p.S) s.e s.d s.o = true ∧ g9 s.d s.o (decide (2 * f + 1 ≤ (s.ze.length : Int))) (decide (f + 1 ≤ (s.zr.length : Int))) (decide (2 * f + 1 ≤ (s.zr.length : Int))) = true := by
 obtain ⟨a1, a2, a3, a4, a5, a6, a7, a8⟩ := h
 unfold g7 g9
 simp only [Bool.and_eq_true, Bool.or_eq_true, Bool.not_eq_true', decide_eq_true_eq, beq_iff_eq, Bool.or_eq_false_iff, Bool.and_eq_false_iff, Bool.not_eq_false', decide_eq_false_iff_not]
 refine ⟨⟨⟨⟨⟨⟨a1, a2⟩, a3⟩, a8⟩, ?_⟩, ?_⟩, ?_, ?_⟩
 ·cases e : s.e with
  | false => exact .inl rfl
  | true => exact .inr (a4 e)
 ·cases e : s.o with
  | false => exact .inl rfl
  | true => exact .inr (a5 e)
 ·cases e : s.d with
  | true => exact .inl rfl
  | false =>
   have n1 : ¬ 1 ≤ stI f s.ze.length s.zr.length := fun h => by rw [a6 h] at e; cases e
   unfold stI at n1
   refine .inr ⟨fun h => n1 ?_, fun h => n1 ?_⟩ <;> (repeat' split) <;> omega
 ·cases e : s.o with
  | true => exact .inl rfl
  | false =>
   have n1 : ¬ 2 ≤ stI f s.ze.length s.zr.length := fun h => by rw [a7 h] at e; cases e
   unfold stI at n1
   exact .inr fun h => n1 (by rw [if_pos h]; omega)
end Go.Proofs.YtcaejlalnjnifaaGreat
