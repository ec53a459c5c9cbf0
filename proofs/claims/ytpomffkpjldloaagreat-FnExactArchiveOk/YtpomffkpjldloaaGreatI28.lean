/- Whose a piece is, in the model. Conditions: F from 1 to 3, proofs of at most 2^20. -/
import Derived.Test.YtpomffkpjldloaaGreatI25
import Derived.Test.YtpomffkpjldloaaGreatI22
namespace Go.Proofs.YtpomffkpjldloaaGreat
set_option maxRecDepth 2000
open Go.ChangeShapes Go.WideShapes Go.ChangeAt Go.RowKit

def MineP (root : ByteArray) (id f : Int) (r : ByteArray) (k n i : Int) : Prop := r = root ∧ k = f + 1 ∧ n = 3 * f + 1 ∧ i = id
instance (root : ByteArray) (id f : Int) (r : ByteArray) (k n i : Int) : Decidable (MineP root id f r k n i) := by unfold MineP; infer_instance
noncomputable def mineB (root : ByteArray) (id f : Int) (r : ByteArray) (k n i : Int) (b : ByteArray) (m : Nat) (S : Nat → ByteArray) : Bool := if MineP root id f r k n i then okP r k n i b m S else false
theorem mineB_no {root : ByteArray} {id f : Int} {r : ByteArray} {k n i : Int} {b : ByteArray} {m : Nat} {S : Nat → ByteArray} (h : ¬ MineP root id f r k n i) : mineB root id f r k n i b m S = false := if_neg h
theorem mineB_yes {root : ByteArray} {id f : Int} {r : ByteArray} {k n i : Int} {b : ByteArray} {m : Nat} {S : Nat → ByteArray} (h : MineP root id f r k n i) : mineB root id f r k n i b m S = okP r k n i b m S := if_pos h
set_option maxHeartbeats 4000000 in
theorem sMine_any (root : ByteArray) (id f : Int) (r : ByteArray) (k n i : Int) (b : ByteArray) (a : Option Addr) (m cap : Nat) (S : Nat → ByteArray) (w : World) (h : TxtAt w a m S) (hf : 1 ≤ f ∧ f ≤ 3) (hm : m ≤ 1048576) (hL : ∀ i, i < m → (S i).size ≤ maxLen) :
    Calls Tryz.prog 48 #[pcV r k n i b (.slice a m cap), .string root, .int .i64 id, .int .i64 f] w fun e w' => e = .returned (.bool (mineB root id f r k n i b m S)) ∧ Below w.heap.size w w' := by
  have KA : Hid (∀ W, Calls Tryz.prog 28 #[.int .i64 f] W fun e w' => e = .returned (.int .i64 (3 * f + 1)) ∧ w' = W) := fun W => sAllN_any f W hf
  obtain ⟨x, HX⟩ : ∃ x : Int, Hid (3 * f + 1 = x) := ⟨_, rfl⟩
  rw [HX.out] at KA
  obtain ⟨y, HY⟩ : ∃ y : Int, Hid (f + 1 = y) := ⟨_, rfl⟩
  have ey : IntKind.i64.wrap (f + 1) = y := by have := HY.out; rw [IntKind.wrap_i64]; omega
  have hb0 : Below w.heap.size w (w.alloc (.cells (pcC r k n i b (.slice a m cap)) 101)) := (Below.refl _ _).alloc (Nat.le_refl _) _
  have HB0 : Hid (Below w.heap.size w (w.alloc (.cells (pcC r k n i b (.slice a m cap)) 101))) := hb0
  obtain ⟨w0, HW0⟩ : ∃ x, Hid (x = w.alloc (.cells (pcC r k n i b (.slice a m cap)) 101)) := ⟨_, rfl⟩
  obtain ⟨B, HB⟩ : ∃ x, Hid (x = w.heap.size) := ⟨_, rfl⟩
  have HR : Hid (Row w0 B 101 (pcC r k n i b (.slice a m cap))) := by show Row _ _ _ _; rw [HW0.out, HB.out]; exact Row.new w _ _
  have KP : Hid (∀ W, Below w0.heap.size w0 W → Calls Tryz.prog 58 #[pcV r k n i b (.slice a m cap)] W fun e w' => e = .returned (.bool (okP r k n i b m S)) ∧ Below W.heap.size W w') := fun W hW => sPieceOk_any r k n i b a m cap S W ((h.below hb0).below (by rw [← HW0.out]; exact hW)) hm hL
  rw [← HW0.out] at HB0
  have q0 := HR.out.cell 0
  have q1 := HR.out.cell 1
  have q2 := HR.out.cell 2
  have q3 := HR.out.cell 3
  have q4 := HR.out.cell 4
  have q5 := HR.out.cell 5
  have lB := HR.out.lt
  simp at q0 q1 q2 q3 q4 q5
  clear h hb0 hf hL hm
  by_cases c1 : r = root
  case neg =>
    rw [mineB_no (fun h => c1 h.1)]
    have c1' := ba_ne c1
    go_enter Tryz.func48, Tryz.ntmps48
    go_wp2_with fail
    rw [← HW0.out, ← HB.out]
    go_quiet (fail)
    go_wp2
    go_ret
    exact ⟨rfl, below_drewN HB0.out _⟩
  have c1' := ba_beq root
  by_cases c2 : k = y
  case neg =>
    rw [mineB_no (fun h => c2 (h.2.1.trans HY.out))]
    have c2' : (k == y) = false := by simp [c2]
    subst c1
    go_enter Tryz.func48, Tryz.ntmps48
    go_wp2_with fail
    rw [← HW0.out, ← HB.out]
    go_quiet (fail)
    go_wp2
    go_ret
    exact ⟨rfl, below_drewN HB0.out _⟩
  have c2' : (k == y) = true := by simp [c2]
  by_cases c3 : n = x
  case neg =>
    rw [mineB_no (fun h => c3 (h.2.2.1.trans HX.out))]
    have c3' : (n == x) = false := by simp [c3]
    subst c1
    clear c2
    go_enter Tryz.func48, Tryz.ntmps48
    go_wp2_with fail
    rw [← HW0.out, ← HB.out]
    go_quiet ((go_at_call 28; exact Calls.quiet_of_same (KA.out _)))
    go_wp2
    go_ret
    exact ⟨rfl, below_drewN HB0.out _⟩
  have c3' : (n == x) = true := by simp [c3]
  by_cases c4 : i = id
  case neg =>
    rw [mineB_no (fun h => c4 h.2.2.2)]
    have c4' : (i == id) = false := by simp [c4]
    subst c1
    clear c2 c3
    go_enter Tryz.func48, Tryz.ntmps48
    go_wp2_with fail
    rw [← HW0.out, ← HB.out]
    go_quiet ((go_at_call 28; exact Calls.quiet_of_same (KA.out _)))
    go_wp2
    go_ret
    exact ⟨rfl, below_drewN HB0.out _⟩
  have c4' : (i == id) = true := by simp [c4]
  rw [mineB_yes ⟨c1, c2.trans HY.out.symm, c3.trans HX.out.symm, c4⟩]
  subst c1
  clear c2 c3 c4
  go_enter Tryz.func48, Tryz.ntmps48
  go_wp2_with fail
  rw [← HW0.out, ← HB.out]
  go_region_held3 (fun w' => w'.cell? ⟨B, 0, none⟩ = some (.string r) ∧ w'.cell? ⟨B, 1, none⟩ = some (.int .i64 k) ∧ w'.cell? ⟨B, 2, none⟩ = some (.int .i64 n) ∧ w'.cell? ⟨B, 3, none⟩ = some (.int .i64 i) ∧ w'.cell? ⟨B, 4, none⟩ = some (.string b) ∧ w'.cell? ⟨B, 5, none⟩ = some (.slice a m cap)) (go_keep) ((first | (go_at_call 28; refine Calls.mono (KA.out _) ?_; rintro e w8 ⟨rfl, rfl⟩) | (go_at_call 58; refine Calls.mono (KP.out _ (below_drewN (Below.refl _ _) _)) ?_; rintro e w9 ⟨rfl, hb9'⟩; have hb9 := below_of_drew hb9'; clear hb9'; have p0 := (hb9.cell (p := ⟨B, 0, none⟩) lB).trans q0; have p1 := (hb9.cell (p := ⟨B, 1, none⟩) lB).trans q1; have p2 := (hb9.cell (p := ⟨B, 2, none⟩) lB).trans q2; have p3 := (hb9.cell (p := ⟨B, 3, none⟩) lB).trans q3; have p4 := (hb9.cell (p := ⟨B, 4, none⟩) lB).trans q4; have p5 := (hb9.cell (p := ⟨B, 5, none⟩) lB).trans q5)))
  all_goals
    go_wp2
    go_ret
    exact ⟨rfl, below2 HB0.out hb9⟩
end Go.Proofs.YtpomffkpjldloaaGreat
/- Whose a piece is, in the program. Conditions: F from 1 to 3, proofs of at most 2^20. -/
namespace Go.Proofs.YtpomffkpjldloaaGreat
set_option maxRecDepth 2000
open Go.ChangeShapes Go.WideShapes Go.ChangeAt Go.RowKit

set_option maxHeartbeats 4000000 in
theorem owns_any (root : ByteArray) (id f : Int) (v : Value) (r : ByteArray) (k n i : Int) (b : ByteArray) (a : Option Addr) (m cap : Nat) (S : Nat → ByteArray) (w : World) (h : TxtAt w a m S) (hf : 1 ≤ f ∧ f ≤ 3) (hm : m ≤ 1048576) (hL : ∀ i, i < m → (S i).size ≤ maxLen) :
    Calls Tryz.prog 77 #[ndV id f v, pcV r k n i b (.slice a m cap), .string root] w fun e w' => e = .returned (.bool (mineB root id f r k n i b m S)) ∧ Below w.heap.size w w' := by
  have KA : Hid (∀ W, Calls Tryz.prog 37 #[.int .i64 f] W fun e w' => e = .returned (.int .i64 (3 * f + 1)) ∧ w' = W) := fun W => nodeCount_any f W hf
  have KN : Hid (∀ W, Calls Tryz.prog 83 #[.int .i64 f] W fun e w' => e = .returned (.int .i64 (f + 1)) ∧ w' = W) := fun W => pieceNeed_any f W hf
  obtain ⟨x, HX⟩ : ∃ x : Int, Hid (3 * f + 1 = x) := ⟨_, rfl⟩
  rw [HX.out] at KA
  obtain ⟨y, HY⟩ : ∃ y : Int, Hid (f + 1 = y) := ⟨_, rfl⟩
  rw [HY.out] at KN
  obtain ⟨A, HA⟩ : ∃ x, Hid (x = w.heap.size) := ⟨_, rfl⟩
  obtain ⟨wa, HWA⟩ : ∃ x, Hid (x = w.alloc (.cells #[.int .i64 id, .int .i64 f, v] 68)) := ⟨_, rfl⟩
  have HRA : Hid (Row wa A 68 #[.int .i64 id, .int .i64 f, v]) := by show Row _ _ _ _; rw [HWA.out, HA.out]; exact Row.new w _ _
  have hba : Below w.heap.size w wa := by rw [HWA.out]; exact (Below.refl _ _).alloc (Nat.le_refl _) _
  obtain ⟨B, HB⟩ : ∃ x, Hid (x = wa.heap.size) := ⟨_, rfl⟩
  obtain ⟨w0, HW0⟩ : ∃ x, Hid (x = wa.alloc (.cells (pcC r k n i b (.slice a m cap)) 101)) := ⟨_, rfl⟩
  have hbb : Below wa.heap.size wa w0 := by rw [HW0.out]; exact (Below.refl _ _).alloc (Nat.le_refl _) _
  have HR : Hid (Row w0 B 101 (pcC r k n i b (.slice a m cap))) := by show Row _ _ _ _; rw [HW0.out, HB.out]; exact Row.new wa _ _
  have HB0 : Hid (Below w.heap.size w w0) := below2 hba hbb
  have HB1 : Hid (B = A + 1) := by show _ = _; rw [HB.out, HWA.out, HA.out]; simp
  have KP : Hid (∀ W, Below w0.heap.size w0 W → Calls Tryz.prog 84 #[pcV r k n i b (.slice a m cap)] W fun e w' => e = .returned (.bool (okP r k n i b m S)) ∧ Below W.heap.size W w') := fun W hW => pieceOk_any r k n i b a m cap S W ((h.below HB0.out).below hW) hm hL
  have RA := HRA.out.below hbb HRA.out.lt
  have r0 := RA.cell 0
  have r1 := RA.cell 1
  have r2 := RA.cell 2
  have lA := RA.lt
  have q0 := HR.out.cell 0
  have q1 := HR.out.cell 1
  have q2 := HR.out.cell 2
  have q3 := HR.out.cell 3
  have q4 := HR.out.cell 4
  have q5 := HR.out.cell 5
  have lB := HR.out.lt
  simp at q0 q1 q2 q3 q4 q5 r0 r1 r2
  clear h hf hL hm RA hba hbb
  by_cases c1 : r = root
  case neg =>
    rw [mineB_no (fun h => c1 h.1)]
    have c1' := ba_ne c1
    go_enter Tryz.func77, Tryz.ntmps77
    go_wp2_with fail
    rw [← HWA.out, ← HW0.out, ← HA.out, ← HB1.out]
    go_quiet ((first | (go_at_call 37; exact Calls.quiet_of_same (KA.out _)) | (go_at_call 83; exact Calls.quiet_of_same (KN.out _))))
    go_wp2
    go_ret
    exact ⟨rfl, below_drewN HB0.out _⟩
  have c1' := ba_beq root
  by_cases c4 : i = id
  case neg =>
    rw [mineB_no (fun h => c4 h.2.2.2)]
    have c4' : (i == id) = false := by simp [c4]
    subst c1
    go_enter Tryz.func77, Tryz.ntmps77
    go_wp2_with fail
    rw [← HWA.out, ← HW0.out, ← HA.out, ← HB1.out]
    go_quiet ((first | (go_at_call 37; exact Calls.quiet_of_same (KA.out _)) | (go_at_call 83; exact Calls.quiet_of_same (KN.out _))))
    go_wp2
    go_ret
    exact ⟨rfl, below_drewN HB0.out _⟩
  have c4' : (i == id) = true := by simp [c4]
  by_cases c2 : k = y
  case neg =>
    rw [mineB_no (fun h => c2 (h.2.1.trans HY.out))]
    have c2' : (k == y) = false := by simp [c2]
    subst c1
    clear c4
    go_enter Tryz.func77, Tryz.ntmps77
    go_wp2_with fail
    rw [← HWA.out, ← HW0.out, ← HA.out, ← HB1.out]
    go_quiet ((first | (go_at_call 37; exact Calls.quiet_of_same (KA.out _)) | (go_at_call 83; exact Calls.quiet_of_same (KN.out _))))
    go_wp2
    go_ret
    exact ⟨rfl, below_drewN HB0.out _⟩
  have c2' : (k == y) = true := by simp [c2]
  by_cases c3 : n = x
  case neg =>
    rw [mineB_no (fun h => c3 (h.2.2.1.trans HX.out))]
    have c3' : (n == x) = false := by simp [c3]
    subst c1
    clear c4 c2
    go_enter Tryz.func77, Tryz.ntmps77
    go_wp2_with fail
    rw [← HWA.out, ← HW0.out, ← HA.out, ← HB1.out]
    go_quiet ((first | (go_at_call 37; exact Calls.quiet_of_same (KA.out _)) | (go_at_call 83; exact Calls.quiet_of_same (KN.out _))))
    go_wp2
    go_ret
    exact ⟨rfl, below_drewN HB0.out _⟩
  have c3' : (n == x) = true := by simp [c3]
  rw [mineB_yes ⟨c1, c2.trans HY.out.symm, c3.trans HX.out.symm, c4⟩]
  subst c1
  clear c2 c3 c4
  go_enter Tryz.func77, Tryz.ntmps77
  go_wp2_with fail
  rw [← HWA.out, ← HW0.out, ← HA.out, ← HB1.out]
  go_region_held3 (fun w' => w'.cell? ⟨A, 0, none⟩ = some (.int .i64 id) ∧ w'.cell? ⟨A, 1, none⟩ = some (.int .i64 f) ∧ w'.cell? ⟨B, 0, none⟩ = some (.string r) ∧ w'.cell? ⟨B, 1, none⟩ = some (.int .i64 k) ∧ w'.cell? ⟨B, 2, none⟩ = some (.int .i64 n) ∧ w'.cell? ⟨B, 3, none⟩ = some (.int .i64 i) ∧ w'.cell? ⟨B, 4, none⟩ = some (.string b) ∧ w'.cell? ⟨B, 5, none⟩ = some (.slice a m cap)) (go_keep) ((first | (go_at_call 37; refine Calls.mono (KA.out _) ?_; rintro e w8 ⟨rfl, rfl⟩) | (go_at_call 83; refine Calls.mono (KN.out _) ?_; rintro e w8 ⟨rfl, rfl⟩) | (go_at_call 84; refine Calls.mono (KP.out _ (below_drewN (Below.refl _ _) _)) ?_; rintro e w9 ⟨rfl, hb9'⟩; have hb9 := below_of_drew hb9'; clear hb9'; have pr0 := (hb9.cell (p := ⟨A, 0, none⟩) lA).trans r0; have pr1 := (hb9.cell (p := ⟨A, 1, none⟩) lA).trans r1; have pq0 := (hb9.cell (p := ⟨B, 0, none⟩) lB).trans q0; have pq1 := (hb9.cell (p := ⟨B, 1, none⟩) lB).trans q1; have pq2 := (hb9.cell (p := ⟨B, 2, none⟩) lB).trans q2; have pq3 := (hb9.cell (p := ⟨B, 3, none⟩) lB).trans q3; have pq4 := (hb9.cell (p := ⟨B, 4, none⟩) lB).trans q4; have pq5 := (hb9.cell (p := ⟨B, 5, none⟩) lB).trans q5)))
  all_goals
    go_wp2
    go_ret
    exact ⟨rfl, below2 HB0.out hb9⟩
end Go.Proofs.YtpomffkpjldloaaGreat
/- How far a slot is brought, in the program. Condition: F from 1 to 3. -/
namespace Go.Proofs.YtpomffkpjldloaaGreat
set_option maxRecDepth 2000
open Go.ChangeShapes Go.WideShapes Go.ChangeAt Go.RowKit

/-- 2 is done, 1 is ready, 0 is open. -/
def stI (f : Int) (e r : Nat) : Int := if 2 * f + 1 ≤ (r : Int) then 2 else if 2 * f + 1 ≤ (e : Int) then 1 else if f + 1 ≤ (r : Int) then 1 else 0
set_option maxHeartbeats 2000000 in
theorem stateOf_any (id f : Int) (v : Value) (s : Sl) (v6 : Value) (a1 a2 : Option Addr) (n1 n2 c1 c2 : Nat) (w : World) (hf : 1 ≤ f ∧ f ≤ 3) :
    Calls Tryz.prog 76 #[ndV id f v, slV s v6 (.slice a1 n1 c1) (.slice a2 n2 c2)] w fun e w' => e = .returned (.int .i64 (stI f n1 n2)) ∧ Below w.heap.size w w' := by
  obtain ⟨A, HA⟩ : ∃ x, Hid (x = w.heap.size) := ⟨_, rfl⟩
  obtain ⟨wa, HWA⟩ : ∃ x, Hid (x = w.alloc (.cells #[.int .i64 id, .int .i64 f, v] 68)) := ⟨_, rfl⟩
  have HRA : Hid (Row wa A 68 #[.int .i64 id, .int .i64 f, v]) := by show Row _ _ _ _; rw [HWA.out, HA.out]; exact Row.new w _ _
  have hba : Below w.heap.size w wa := by rw [HWA.out]; exact (Below.refl _ _).alloc (Nat.le_refl _) _
  obtain ⟨B, HB⟩ : ∃ x, Hid (x = wa.heap.size) := ⟨_, rfl⟩
  obtain ⟨w0, HW0⟩ : ∃ x, Hid (x = wa.alloc (.cells (slC s v6 (.slice a1 n1 c1) (.slice a2 n2 c2)) 103)) := ⟨_, rfl⟩
  have hbb : Below wa.heap.size wa w0 := by rw [HW0.out]; exact (Below.refl _ _).alloc (Nat.le_refl _) _
  have HR : Hid (Row w0 B 103 (slC s v6 (.slice a1 n1 c1) (.slice a2 n2 c2))) := by show Row _ _ _ _; rw [HW0.out, HB.out]; exact Row.new wa _ _
  have HB0 : Hid (Below w.heap.size w w0) := below2 hba hbb
  have HB1 : Hid (B = A + 1) := by show _ = _; rw [HB.out, HWA.out, HA.out]; simp
  have RA := HRA.out.below hbb HRA.out.lt
  have r1 := RA.cell 1
  have q11 := HR.out.cell 11
  have q12 := HR.out.cell 12
  simp [slC] at r1 q11 q12
  have e0 : IntKind.i64.wrap (2 * f) = 2 * f := by rw [IntKind.wrap_i64]; omega
  obtain ⟨x, HX⟩ : ∃ x : Int, Hid (2 * f + 1 = x) := ⟨_, rfl⟩
  have e1 : IntKind.i64.wrap (2 * f + 1) = x := by have := HX.out; rw [IntKind.wrap_i64]; omega
  obtain ⟨y, HY⟩ : ∃ y : Int, Hid (f + 1 = y) := ⟨_, rfl⟩
  have e2 : IntKind.i64.wrap (f + 1) = y := by have := HY.out; rw [IntKind.wrap_i64]; omega
  unfold stI
  rw [HX.out, HY.out]
  clear hf RA hba hbb
  by_cases h1 : x ≤ (n2 : Int)
  · rw [if_pos h1]
    go_enter Tryz.func76, Tryz.ntmps76
    go_wp2_with fail
    rw [← HWA.out, ← HW0.out, ← HA.out, ← HB1.out]
    go_quiet (fail)
    go_wp2
    go_ret
    exact ⟨rfl, below_drewN HB0.out _⟩
  rw [if_neg h1]
  by_cases h2 : x ≤ (n1 : Int)
  · rw [if_pos h2]
    go_enter Tryz.func76, Tryz.ntmps76
    go_wp2_with fail
    rw [← HWA.out, ← HW0.out, ← HA.out, ← HB1.out]
    go_quiet (fail)
    go_wp2
    go_ret
    exact ⟨rfl, below_drewN HB0.out _⟩
  rw [if_neg h2]
  by_cases h3 : y ≤ (n2 : Int)
  · rw [if_pos h3]
    go_enter Tryz.func76, Tryz.ntmps76
    go_wp2_with fail
    rw [← HWA.out, ← HW0.out, ← HA.out, ← HB1.out]
    go_quiet (fail)
    go_wp2
    go_ret
    exact ⟨rfl, below_drewN HB0.out _⟩
  rw [if_neg h3]
  go_enter Tryz.func76, Tryz.ntmps76
  go_wp2_with fail
  rw [← HWA.out, ← HW0.out, ← HA.out, ← HB1.out]
  go_quiet (fail)
  go_wp2
  go_ret
  exact ⟨rfl, below_drewN HB0.out _⟩
end Go.Proofs.YtpomffkpjldloaaGreat
