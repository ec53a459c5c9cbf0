/- Whether a slot is a node's, in the program. Conditions: F from 1 to 3, lists of at most 2^20. -/
import Derived.Test.YtgpghfnhgmkhgaaGreatJ32
namespace Go.Proofs.YtgpghfnhgmkhgaaGreat
set_option maxRecDepth 2000
open Go.ChangeShapes Go.WideShapes Go.ChangeAt Go.RowKit

/-- What a node asks of a slot. -/
def SlotP (id f : Int) (s : Sl) : Prop := s.r.size = 16 ∧ numB f s.ze = true ∧ numB f s.zr = true ∧ (s.e = true → s.h = true) ∧ (s.o = true → s.d = true) ∧ (1 ≤ stI f s.ze.length s.zr.length → s.d = true) ∧ (2 ≤ stI f s.ze.length s.zr.length → s.o = true) ∧ s.h = mineB s.r id f s.p.r s.p.k s.p.n s.p.i s.p.b s.p.m s.p.S
noncomputable def slotB (id f : Int) (s : Sl) : Bool := @decide (SlotP id f s) (Classical.propDecidable _)
theorem slotB_yes {id f : Int} {s : Sl} (h : SlotP id f s) : slotB id f s = true := by unfold slotB; exact @decide_eq_true _ (Classical.propDecidable _) h
theorem slotB_no {id f : Int} {s : Sl} (h : ¬ SlotP id f s) : slotB id f s = false := by unfold slotB; exact @decide_eq_false _ (Classical.propDecidable _) h
theorem slotB_is {id f : Int} {s : Sl} {mb : Bool} (g1 : s.r.size = 16) (g2 : numB f s.ze = true) (g3 : numB f s.zr = true) (g4 : s.e = true → s.h = true) (g5 : s.o = true → s.d = true) (g6 : 1 ≤ stI f s.ze.length s.zr.length → s.d = true) (g7 : 2 ≤ stI f s.ze.length s.zr.length → s.o = true) (hm : mineB s.r id f s.p.r s.p.k s.p.n s.p.i s.p.b s.p.m s.p.S = mb) : slotB id f s = (s.h == mb) := by
  by_cases h : s.h = mb
  · rw [slotB_yes ⟨g1, g2, g3, g4, g5, g6, g7, h.trans hm.symm⟩, h]; simp
  · rw [slotB_no (fun k => h (k.2.2.2.2.2.2.2.trans hm))]; simp [h]
set_option maxHeartbeats 4000000 in
theorem isSlot_c (id f : Int) (v : Value) (r : ByteArray) (p : Pc) (bh be bd bo : Bool) (ze zr : List Int) (a6 a1 a2 : Option Addr) (c6 c1 c2 : Nat) (w : World) (hT : TxtAt w a6 p.m p.S) (hE : IntsAt w a1 ze.length ze) (hZ : IntsAt w a2 zr.length zr) (hf : 1 ≤ f ∧ f ≤ 3) (hm : p.m ≤ 1048576) (hL : ∀ i, i < p.m → (p.S i).size ≤ maxLen) (h1 : ze.length ≤ 1048576) (h2 : zr.length ≤ 1048576) :
    Calls Tryz.prog 44 #[ndV id f v, .agg #[.string r, .string p.r, .int .i64 p.k, .int .i64 p.n, .int .i64 p.i, .string p.b, .slice a6 p.m c6, .bool bh, .bool be, .bool bd, .bool bo, .slice a1 ze.length c1, .slice a2 zr.length c2]] w fun e w' => e = .returned (.bool (slotB id f ⟨r, p, bh, be, bd, bo, ze, zr⟩)) ∧ Below w.heap.size w w' := by
  obtain ⟨A, HA⟩ : ∃ x, Hid (x = w.heap.size) := ⟨_, rfl⟩
  obtain ⟨wa, HWA⟩ : ∃ x, Hid (x = w.alloc (.cells #[.int .i64 id, .int .i64 f, v] 44)) := ⟨_, rfl⟩
  have HRA : Hid (Row wa A 44 #[.int .i64 id, .int .i64 f, v]) := by show Row _ _ _ _; rw [HWA.out, HA.out]; exact Row.new w _ _
  have hba : Below w.heap.size w wa := by rw [HWA.out]; exact (Below.refl _ _).alloc (Nat.le_refl _) _
  obtain ⟨B, HB⟩ : ∃ x, Hid (x = wa.heap.size) := ⟨_, rfl⟩
  obtain ⟨w0, HW0⟩ : ∃ x, Hid (x = wa.alloc (.cells (#[.string r, .string p.r, .int .i64 p.k, .int .i64 p.n, .int .i64 p.i, .string p.b, .slice a6 p.m c6, .bool bh, .bool be, .bool bd, .bool bo, .slice a1 ze.length c1, .slice a2 zr.length c2]) 72)) := ⟨_, rfl⟩
  have hbb : Below wa.heap.size wa w0 := by rw [HW0.out]; exact (Below.refl _ _).alloc (Nat.le_refl _) _
  have HR : Hid (Row w0 B 72 (#[.string r, .string p.r, .int .i64 p.k, .int .i64 p.n, .int .i64 p.i, .string p.b, .slice a6 p.m c6, .bool bh, .bool be, .bool bd, .bool bo, .slice a1 ze.length c1, .slice a2 zr.length c2])) := by show Row _ _ _ _; rw [HW0.out, HB.out]; exact Row.new wa _ _
  have HB0 : Hid (Below w.heap.size w w0) := below2 hba hbb
  have HB1 : Hid (B = A + 1) := by show _ = _; rw [HB.out, HWA.out, HA.out]; simp
  have RA := HRA.out.below hbb HRA.out.lt
  have r0 := RA.cell 0
  have r1 := RA.cell 1
  have r2 := RA.cell 2
  have q0 := HR.out.cell 0
  have q1 := HR.out.cell 1
  have q2 := HR.out.cell 2
  have q3 := HR.out.cell 3
  have q4 := HR.out.cell 4
  have q5 := HR.out.cell 5
  have q6 := HR.out.cell 6
  have q7 := HR.out.cell 7
  have q8 := HR.out.cell 8
  have q9 := HR.out.cell 9
  have q10 := HR.out.cell 10
  have q11 := HR.out.cell 11
  have q12 := HR.out.cell 12
  have lA := RA.lt
  have lB := HR.out.lt
  simp at r0 r1 r2 q0 q1 q2 q3 q4 q5 q6 q7 q8 q9 q10 q11 q12
  have K1 : Hid (∀ W, Below w0.heap.size w0 W → Calls Tryz.prog 32 #[ndV id f v, .slice a1 ze.length c1] W fun e w' => e = .returned (.bool (numB f ze)) ∧ Below W.heap.size W w') := fun W hW => areNodes_any id f v a1 _ c1 ze W ((hE.below HB0.out).below hW) hf h1
  have K2 : Hid (∀ W, Below w0.heap.size w0 W → Calls Tryz.prog 32 #[ndV id f v, .slice a2 zr.length c2] W fun e w' => e = .returned (.bool (numB f zr)) ∧ Below W.heap.size W w') := fun W hW => areNodes_any id f v a2 _ c2 zr W ((hZ.below HB0.out).below hW) hf h2
  have K3 : Hid (∀ W, Calls Tryz.prog 56 #[ndV id f v, .agg #[.string r, .string p.r, .int .i64 p.k, .int .i64 p.n, .int .i64 p.i, .string p.b, .slice a6 p.m c6, .bool bh, .bool be, .bool bd, .bool bo, .slice a1 ze.length c1, .slice a2 zr.length c2]] W fun e w' => e = .returned (.int .i64 (stI f ze.length zr.length)) ∧ Below W.heap.size W w') := fun W => stateOf_any id f v ⟨r, p, bh, be, bd, bo, ze, zr⟩ _ a1 a2 _ _ c1 c2 W hf
  have K4 : Hid (∀ W, Below w0.heap.size w0 W → Calls Tryz.prog 57 #[ndV id f v, pcV p.r p.k p.n p.i p.b (.slice a6 p.m c6), .string r] W fun e w' => e = .returned (.bool (mineB r id f p.r p.k p.n p.i p.b p.m p.S)) ∧ Below W.heap.size W w') := fun W hW => owns_any r id f v _ _ _ _ _ a6 _ c6 _ W ((hT.below HB0.out).below hW) hf hm hL
  clear hT hE hZ hf hm hL RA hba hbb
  by_cases g1 : r.size = 16
  case neg =>
    rw [slotB_no (fun h => g1 h.1)]
    have g1' : ((r.size : Int) != 16) = true := by simp; omega
    go_enter Tryz.func44, Tryz.ntmps44
    go_wp2_with fail
    rw [← HWA.out, ← HW0.out, ← HA.out, ← HB1.out]
    go_ret
    exact ⟨rfl, by rw [HA.out]; exact HB0.out⟩
  have g1' : ((r.size : Int) != 16) = false := by simp; omega
  by_cases g2 : numB f ze = true
  case neg =>
    rw [slotB_no (fun h => g2 h.2.1)]
    rw [Bool.not_eq_true] at g2
    rw [g2] at K1
    go_enter Tryz.func44, Tryz.ntmps44
    go_wp2_with fail
    rw [← HWA.out, ← HW0.out, ← HA.out, ← HB1.out]
    refine (K1.out _ (Below.refl _ _)).mono ?_
    rintro e w1 ⟨rfl, b1⟩
    go_wp2_with fail
    go_ret
    exact ⟨rfl, below2 HB0.out b1⟩
  rw [g2] at K1
  by_cases g3 : numB f zr = true
  case neg =>
    rw [slotB_no (fun h => g3 h.2.2.1)]
    rw [Bool.not_eq_true] at g3
    rw [g3] at K2
    go_enter Tryz.func44, Tryz.ntmps44
    go_wp2_with fail
    rw [← HWA.out, ← HW0.out, ← HA.out, ← HB1.out]
    refine (K1.out _ (Below.refl _ _)).mono ?_
    rintro e w1 ⟨rfl, b1⟩
    have K1b : Hid (Below w0.heap.size w0 w1) := b1
    have tr0 := (b1.cell (p := ⟨A, 0, none⟩) lA).trans r0
    have tr1 := (b1.cell (p := ⟨A, 1, none⟩) lA).trans r1
    have tr2 := (b1.cell (p := ⟨A, 2, none⟩) lA).trans r2
    have tq0 := (b1.cell (p := ⟨B, 0, none⟩) lB).trans q0
    have tq1 := (b1.cell (p := ⟨B, 1, none⟩) lB).trans q1
    have tq2 := (b1.cell (p := ⟨B, 2, none⟩) lB).trans q2
    have tq3 := (b1.cell (p := ⟨B, 3, none⟩) lB).trans q3
    have tq4 := (b1.cell (p := ⟨B, 4, none⟩) lB).trans q4
    have tq5 := (b1.cell (p := ⟨B, 5, none⟩) lB).trans q5
    have tq6 := (b1.cell (p := ⟨B, 6, none⟩) lB).trans q6
    have tq7 := (b1.cell (p := ⟨B, 7, none⟩) lB).trans q7
    have tq8 := (b1.cell (p := ⟨B, 8, none⟩) lB).trans q8
    have tq9 := (b1.cell (p := ⟨B, 9, none⟩) lB).trans q9
    have tq10 := (b1.cell (p := ⟨B, 10, none⟩) lB).trans q10
    have tq11 := (b1.cell (p := ⟨B, 11, none⟩) lB).trans q11
    have tq12 := (b1.cell (p := ⟨B, 12, none⟩) lB).trans q12
    clear b1
    go_wp2_with fail
    refine (K2.out _ K1b.out).mono ?_
    rintro e w2 ⟨rfl, b2⟩
    go_wp2_with fail
    go_ret
    exact ⟨rfl, below2 HB0.out (below2 K1b.out b2)⟩
  rw [g3] at K2
  have G : Hid (r.size = 16 ∧ numB f ze = true ∧ numB f zr = true) := ⟨g1, g2, g3⟩
  clear g1 g2 g3
  obtain ⟨x, HX⟩ : ∃ x, Hid (stI f ze.length zr.length = x) := ⟨_, rfl⟩
  rw [HX.out] at K3
  obtain ⟨mb, HM⟩ : ∃ x, Hid (mineB r id f p.r p.k p.n p.i p.b p.m p.S = x) := ⟨_, rfl⟩
  rw [HM.out] at K4
  have hx : x = 0 ∨ x = 1 ∨ x = 2 := by
    rw [← HX.out]; unfold stI; split
    · exact .inr (.inr rfl)
    · split
      · exact .inr (.inl rfl)
      · split
        · exact .inr (.inl rfl)
        · exact .inl rfl
  go_enter Tryz.func44, Tryz.ntmps44
  go_wp2_with fail
  rw [← HWA.out, ← HW0.out, ← HA.out, ← HB1.out]
  refine (K1.out _ (Below.refl _ _)).mono ?_
  rintro e w1 ⟨rfl, b1⟩
  have K1b : Hid (Below w0.heap.size w0 w1) := b1
  have tr0 := (b1.cell (p := ⟨A, 0, none⟩) lA).trans r0
  have tr1 := (b1.cell (p := ⟨A, 1, none⟩) lA).trans r1
  have tr2 := (b1.cell (p := ⟨A, 2, none⟩) lA).trans r2
  have tq0 := (b1.cell (p := ⟨B, 0, none⟩) lB).trans q0
  have tq1 := (b1.cell (p := ⟨B, 1, none⟩) lB).trans q1
  have tq2 := (b1.cell (p := ⟨B, 2, none⟩) lB).trans q2
  have tq3 := (b1.cell (p := ⟨B, 3, none⟩) lB).trans q3
  have tq4 := (b1.cell (p := ⟨B, 4, none⟩) lB).trans q4
  have tq5 := (b1.cell (p := ⟨B, 5, none⟩) lB).trans q5
  have tq6 := (b1.cell (p := ⟨B, 6, none⟩) lB).trans q6
  have tq7 := (b1.cell (p := ⟨B, 7, none⟩) lB).trans q7
  have tq8 := (b1.cell (p := ⟨B, 8, none⟩) lB).trans q8
  have tq9 := (b1.cell (p := ⟨B, 9, none⟩) lB).trans q9
  have tq10 := (b1.cell (p := ⟨B, 10, none⟩) lB).trans q10
  have tq11 := (b1.cell (p := ⟨B, 11, none⟩) lB).trans q11
  have tq12 := (b1.cell (p := ⟨B, 12, none⟩) lB).trans q12
  clear b1
  go_wp2_with fail
  refine (K2.out _ K1b.out).mono ?_
  rintro e w2 ⟨rfl, b2⟩
  have K2b : Hid (Below w0.heap.size w0 w2) := below2 K1b.out b2
  have ur0 := (K2b.out.cell (p := ⟨A, 0, none⟩) lA).trans r0
  have ur1 := (K2b.out.cell (p := ⟨A, 1, none⟩) lA).trans r1
  have ur2 := (K2b.out.cell (p := ⟨A, 2, none⟩) lA).trans r2
  have uq0 := (K2b.out.cell (p := ⟨B, 0, none⟩) lB).trans q0
  have uq1 := (K2b.out.cell (p := ⟨B, 1, none⟩) lB).trans q1
  have uq2 := (K2b.out.cell (p := ⟨B, 2, none⟩) lB).trans q2
  have uq3 := (K2b.out.cell (p := ⟨B, 3, none⟩) lB).trans q3
  have uq4 := (K2b.out.cell (p := ⟨B, 4, none⟩) lB).trans q4
  have uq5 := (K2b.out.cell (p := ⟨B, 5, none⟩) lB).trans q5
  have uq6 := (K2b.out.cell (p := ⟨B, 6, none⟩) lB).trans q6
  have uq7 := (K2b.out.cell (p := ⟨B, 7, none⟩) lB).trans q7
  have uq8 := (K2b.out.cell (p := ⟨B, 8, none⟩) lB).trans q8
  have uq9 := (K2b.out.cell (p := ⟨B, 9, none⟩) lB).trans q9
  have uq10 := (K2b.out.cell (p := ⟨B, 10, none⟩) lB).trans q10
  have uq11 := (K2b.out.cell (p := ⟨B, 11, none⟩) lB).trans q11
  have uq12 := (K2b.out.cell (p := ⟨B, 12, none⟩) lB).trans q12
  clear b2 tr0 tr1 tr2 tq0 tq1 tq2 tq3 tq4 tq5 tq6 tq7 tq8 tq9 tq10 tq11 tq12
  have B2 : Hid (Below w.heap.size w w2) := below2 HB0.out K2b.out
  clear K1 K2 K1b h1 h2
  cases be <;> cases bh <;> cases bo <;> cases bd
  all_goals go_wp2_with fail
  all_goals first
    | (go_ret
       exact ⟨ret_bool (slotB_no (fun h => by have h4 := h.2.2.2.1; have h5 := h.2.2.2.2.1; simp at h4 h5)).symm, B2.out⟩)
    | (refine (K3.out _).mono ?_
       rintro e w3 ⟨rfl, b3⟩
       have K3b : Hid (Below w0.heap.size w0 w3) := below2 K2b.out b3
       have vr0 := (K3b.out.cell (p := ⟨A, 0, none⟩) lA).trans r0
       have vr1 := (K3b.out.cell (p := ⟨A, 1, none⟩) lA).trans r1
       have vr2 := (K3b.out.cell (p := ⟨A, 2, none⟩) lA).trans r2
       have vq0 := (K3b.out.cell (p := ⟨B, 0, none⟩) lB).trans q0
       have vq1 := (K3b.out.cell (p := ⟨B, 1, none⟩) lB).trans q1
       have vq2 := (K3b.out.cell (p := ⟨B, 2, none⟩) lB).trans q2
       have vq3 := (K3b.out.cell (p := ⟨B, 3, none⟩) lB).trans q3
       have vq4 := (K3b.out.cell (p := ⟨B, 4, none⟩) lB).trans q4
       have vq5 := (K3b.out.cell (p := ⟨B, 5, none⟩) lB).trans q5
       have vq6 := (K3b.out.cell (p := ⟨B, 6, none⟩) lB).trans q6
       have vq7 := (K3b.out.cell (p := ⟨B, 7, none⟩) lB).trans q7
       have vq8 := (K3b.out.cell (p := ⟨B, 8, none⟩) lB).trans q8
       have vq9 := (K3b.out.cell (p := ⟨B, 9, none⟩) lB).trans q9
       have vq10 := (K3b.out.cell (p := ⟨B, 10, none⟩) lB).trans q10
       have vq11 := (K3b.out.cell (p := ⟨B, 11, none⟩) lB).trans q11
       have vq12 := (K3b.out.cell (p := ⟨B, 12, none⟩) lB).trans q12
       clear b3 ur0 ur1 ur2 uq0 uq1 uq2 uq3 uq4 uq5 uq6 uq7 uq8 uq9 uq10 uq11 uq12
       rcases hx with rfl | rfl | rfl
       all_goals go_wp2_with fail
       all_goals first
         | (go_ret
            exact ⟨ret_bool (slotB_no (fun h => by have h6 := h.2.2.2.2.2.1; have h7 := h.2.2.2.2.2.2.1; simp [HX.out] at h6 h7)).symm, below2 HB0.out K3b.out⟩)
         | (have lt3 : ∀ {X}, X < w0.heap.size → X < w3.heap.size := fun h => Nat.lt_of_lt_of_le h K3b.out.size
            first
              | (go_region_held3 (fun w' => w'.cell? ⟨A, 0, none⟩ = some (.int .i64 id) ∧ w'.cell? ⟨A, 1, none⟩ = some (.int .i64 f) ∧ w'.cell? ⟨A, 2, none⟩ = some (v) ∧ w'.cell? ⟨B, 0, none⟩ = some (.string r) ∧ w'.cell? ⟨B, 1, none⟩ = some (.string p.r) ∧ w'.cell? ⟨B, 2, none⟩ = some (.int .i64 p.k) ∧ w'.cell? ⟨B, 3, none⟩ = some (.int .i64 p.n) ∧ w'.cell? ⟨B, 4, none⟩ = some (.int .i64 p.i) ∧ w'.cell? ⟨B, 5, none⟩ = some (.string p.b) ∧ w'.cell? ⟨B, 6, none⟩ = some (.slice a6 p.m c6) ∧ w'.cell? ⟨B, 7, none⟩ = some (.bool true)) (go_keep) ((go_at_call 57; refine Calls.mono (K4.out _ (below_drewN K3b.out _)) ?_; rintro e w9 ⟨rfl, hb9'⟩; have hb9 := below_of_drew hb9'; clear hb9'; have xr0 := (hb9.cell (p := ⟨A, 0, none⟩) (lt3 lA)).trans vr0; have xr1 := (hb9.cell (p := ⟨A, 1, none⟩) (lt3 lA)).trans vr1; have xr2 := (hb9.cell (p := ⟨A, 2, none⟩) (lt3 lA)).trans vr2; have xq0 := (hb9.cell (p := ⟨B, 0, none⟩) (lt3 lB)).trans vq0; have xq1 := (hb9.cell (p := ⟨B, 1, none⟩) (lt3 lB)).trans vq1; have xq2 := (hb9.cell (p := ⟨B, 2, none⟩) (lt3 lB)).trans vq2; have xq3 := (hb9.cell (p := ⟨B, 3, none⟩) (lt3 lB)).trans vq3; have xq4 := (hb9.cell (p := ⟨B, 4, none⟩) (lt3 lB)).trans vq4; have xq5 := (hb9.cell (p := ⟨B, 5, none⟩) (lt3 lB)).trans vq5; have xq6 := (hb9.cell (p := ⟨B, 6, none⟩) (lt3 lB)).trans vq6; have xq7 := (hb9.cell (p := ⟨B, 7, none⟩) (lt3 lB)).trans vq7)))
              | (go_region_held3 (fun w' => w'.cell? ⟨A, 0, none⟩ = some (.int .i64 id) ∧ w'.cell? ⟨A, 1, none⟩ = some (.int .i64 f) ∧ w'.cell? ⟨A, 2, none⟩ = some (v) ∧ w'.cell? ⟨B, 0, none⟩ = some (.string r) ∧ w'.cell? ⟨B, 1, none⟩ = some (.string p.r) ∧ w'.cell? ⟨B, 2, none⟩ = some (.int .i64 p.k) ∧ w'.cell? ⟨B, 3, none⟩ = some (.int .i64 p.n) ∧ w'.cell? ⟨B, 4, none⟩ = some (.int .i64 p.i) ∧ w'.cell? ⟨B, 5, none⟩ = some (.string p.b) ∧ w'.cell? ⟨B, 6, none⟩ = some (.slice a6 p.m c6) ∧ w'.cell? ⟨B, 7, none⟩ = some (.bool false)) (go_keep) ((go_at_call 57; refine Calls.mono (K4.out _ (below_drewN K3b.out _)) ?_; rintro e w9 ⟨rfl, hb9'⟩; have hb9 := below_of_drew hb9'; clear hb9'; have xr0 := (hb9.cell (p := ⟨A, 0, none⟩) (lt3 lA)).trans vr0; have xr1 := (hb9.cell (p := ⟨A, 1, none⟩) (lt3 lA)).trans vr1; have xr2 := (hb9.cell (p := ⟨A, 2, none⟩) (lt3 lA)).trans vr2; have xq0 := (hb9.cell (p := ⟨B, 0, none⟩) (lt3 lB)).trans vq0; have xq1 := (hb9.cell (p := ⟨B, 1, none⟩) (lt3 lB)).trans vq1; have xq2 := (hb9.cell (p := ⟨B, 2, none⟩) (lt3 lB)).trans vq2; have xq3 := (hb9.cell (p := ⟨B, 3, none⟩) (lt3 lB)).trans vq3; have xq4 := (hb9.cell (p := ⟨B, 4, none⟩) (lt3 lB)).trans vq4; have xq5 := (hb9.cell (p := ⟨B, 5, none⟩) (lt3 lB)).trans vq5; have xq6 := (hb9.cell (p := ⟨B, 6, none⟩) (lt3 lB)).trans vq6; have xq7 := (hb9.cell (p := ⟨B, 7, none⟩) (lt3 lB)).trans vq7)))
            all_goals
              go_wp2
              go_ret
              refine ⟨ret_bool ?_, below2 HB0.out (below2 K3b.out hb9)⟩
              rw [slotB_is G.out.1 G.out.2.1 G.out.2.2 (by simp) (by simp) (by simp [HX.out]) (by simp [HX.out]) HM.out]
              cases mb <;> rfl))
theorem isSlot_any (id f : Int) (v : Value) (s : Sl) (a6 a1 a2 : Option Addr) (c6 c1 c2 : Nat) (w : World) (hT : TxtAt w a6 s.p.m s.p.S) (hE : IntsAt w a1 s.ze.length s.ze) (hZ : IntsAt w a2 s.zr.length s.zr) (hf : 1 ≤ f ∧ f ≤ 3) (hm : s.p.m ≤ 1048576) (hL : ∀ i, i < s.p.m → (s.p.S i).size ≤ maxLen) (h1 : s.ze.length ≤ 1048576) (h2 : s.zr.length ≤ 1048576) :
    Calls Tryz.prog 44 #[ndV id f v, slV s (.slice a6 s.p.m c6) (.slice a1 s.ze.length c1) (.slice a2 s.zr.length c2)] w fun e w' => e = .returned (.bool (slotB id f s)) ∧ Below w.heap.size w w' := by
  obtain ⟨r, p, bh, be, bd, bo, ze, zr⟩ := s
  exact isSlot_c id f v r p bh be bd bo ze zr a6 a1 a2 c6 c1 c2 w hT hE hZ hf hm hL h1 h2
end Go.Proofs.YtgpghfnhgmkhgaaGreat
