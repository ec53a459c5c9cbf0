/- Lists of nodes' numbers in the model. Conditions: F from 1 to 3, lists of at most 2^20. -/
import Derived.Test.YtgiegoamcfjfmaaGreatH18
import Derived.Test.YtgiegoamcfjfmaaGreatH17
namespace Go.Proofs.YtgiegoamcfjfmaaGreat
set_option maxRecDepth 2000
open Go.ChangeShapes Go.WideShapes Go.ChangeAt Go.RowKit

set_option maxHeartbeats 4000000 in
theorem sNums_any (f : Int) (a : Option Addr) (n cap : Nat) (zs : List Int) (w : World) (h : IntsAt w a n zs) (hf : 1 ≤ f ∧ f ≤ 3) (hn : n ≤ 1048576) :
    Calls Tryz.prog 101 #[.slice a n cap, .int .i64 f] w fun e w' => e = .returned (.bool (numB f zs)) ∧ Below w.heap.size w w' := by
  have KI : Hid (IntsAt w a n zs) := h
  have hl : zs.length = n := h.1
  have KA : Hid (∀ W, Calls Tryz.prog 66 #[.int .i64 f] W fun e w' => e = .returned (.int .i64 (3 * f + 1)) ∧ w' = W) := fun W => sAllN_any f W hf
  obtain ⟨m, HM⟩ : ∃ m : Int, Hid (3 * f + 1 = m) := ⟨_, rfl⟩
  rw [HM.out] at KA
  have HF : Hid (1 ≤ f ∧ f ≤ 3) := hf
  have em : IntKind.i64.wrap (m - 1) = 3 * f := by have := HM.out; rw [IntKind.wrap_i64]; omega
  obtain ⟨m1, HM1⟩ : ∃ m1 : Int, Hid (3 * f = m1) := ⟨_, rfl⟩
  rw [HM1.out] at em
  clear h hf
  go_enter Tryz.func101, Tryz.ntmps101
  go_wp2
  go_loopw [5] (fun vi wr => ∃ k : Nat, k ≤ n ∧ vi = .int .i64 (k : Int) ∧ Hid (∀ i, i < k → (0 ≤ zs.getD i 0 ∧ zs.getD i 0 < 3 * f + 1) ∧ (0 < i → zs.getD (i - 1) 0 < zs.getD i 0)) ∧ Below w.heap.size w wr) (fun vi _ => n - (intOf vi).toNat)
  case atStart => exact ⟨0, Nat.zero_le _, rfl, fun i hi => absurd hi (Nat.not_lt_zero _), Below.refl _ _⟩
  case round =>
    obtain ⟨k, hk, rfl, HP, hbel⟩ := hrel
    by_cases hlt : k < n
    · have hki : (k : Int) < (n : Int) := by omega
      obtain ⟨b, off, rfl, hc⟩ := (KI.out.below hbel).some (by omega)
      have hck := hc k hlt
      obtain ⟨z, HZ⟩ : ∃ z, Hid (zs.getD k 0 = z) := ⟨_, rfl⟩
      rw [HZ.out] at hck
      by_cases hz : 0 ≤ z ∧ z < 3 * f + 1
      case neg =>
        have hin : inB z 0 m1 = false := by have := HM1.out; unfold inB; simp; omega
        have HN : Hid (numB f zs = false) := numB_no fun h => hz (by have := (h k (by omega)).1; rw [HZ.out] at this; exact this)
        clear hc hz HP
        go_wp2_with fail
        go_quiet (first | (go_at_call 66; exact Calls.quiet_of_same (KA.out _)) | (go_at_call 65; exact Calls.quiet_of_same (sIn_any _ _ _ _)))
        go_wp2
        go_ret
        exact ⟨ret_bool HN.out.symm, below_drewN hbel _⟩
      have hin : inB z 0 m1 = true := by have := HM1.out; unfold inB; simp; omega
      by_cases k0 : k = 0
      · subst k0
        have HP2 : Hid (∀ i, i < 0 + 1 → (0 ≤ zs.getD i 0 ∧ zs.getD i 0 < 3 * f + 1) ∧ (0 < i → zs.getD (i - 1) 0 < zs.getD i 0)) := fun i hi => by
          obtain rfl : i = 0 := by omega
          rw [HZ.out]
          exact ⟨hz, fun h => absurd h (by omega)⟩
        simp only [Nat.add_zero] at hck
        clear hc hz HP
        go_wp2_with fail
        go_quiet (first | (go_at_call 66; exact Calls.quiet_of_same (KA.out _)) | (go_at_call 65; exact Calls.quiet_of_same (sIn_any _ _ _ _)))
        go_wp2
        go_roundw
        case rel => exact ⟨0 + 1, by omega, by go_num, HP2, below_drewN hbel _⟩
        case measure => simp [intOf]; omega
      · have k0i : 0 < k := by omega
        have k0d : decide (0 < k) = true := decide_eq_true k0i
        have hcp := hc (k - 1) (by omega)
        obtain ⟨k1, HK1⟩ : ∃ k1, Hid (k = k1 + 1) := ⟨k - 1, by show k = _; omega⟩
        have e1 : IntKind.i64.wrap ((k : Int) - 1) = (k1 : Int) := by have := HK1.out; rw [IntKind.wrap_i64]; omega
        have hk1i : (k1 : Int) < (n : Int) := by have := HK1.out; omega
        have hk1n : (0 : Int) ≤ (k1 : Int) := by omega
        rw [show k - 1 = k1 by have := HK1.out; omega] at hcp
        obtain ⟨y, HY⟩ : ∃ z, Hid (zs.getD k1 0 = z) := ⟨_, rfl⟩
        rw [HY.out] at hcp
        by_cases hyz : y < z
        · have hyz' : ¬ (z ≤ y) := by omega
          have HP2 : Hid (∀ i, i < k + 1 → (0 ≤ zs.getD i 0 ∧ zs.getD i 0 < 3 * f + 1) ∧ (0 < i → zs.getD (i - 1) 0 < zs.getD i 0)) := fun i hi => by
            by_cases ei : i = k
            · subst ei
              rw [show i - 1 = k1 by have := HK1.out; omega, HZ.out, HY.out]
              exact ⟨hz, fun _ => hyz⟩
            · exact HP.out i (by omega)
          clear hc hz HP hyz
          go_wp2_with fail
          go_quiet (first | (go_at_call 66; exact Calls.quiet_of_same (KA.out _)) | (go_at_call 65; exact Calls.quiet_of_same (sIn_any _ _ _ _)))
          go_wp2
          go_roundw
          case rel => exact ⟨k + 1, by omega, by go_num, HP2, below_drewN hbel _⟩
          case measure => simp [intOf]; omega
        · have hyz' : z ≤ y := by omega
          have HN : Hid (numB f zs = false) := numB_no fun h => by
            have := (h k (by omega)).2 (by omega)
            rw [show k - 1 = k1 by have := HK1.out; omega, HZ.out, HY.out] at this
            omega
          clear hc hz HP hyz
          go_wp2_with fail
          go_quiet (first | (go_at_call 66; exact Calls.quiet_of_same (KA.out _)) | (go_at_call 65; exact Calls.quiet_of_same (sIn_any _ _ _ _)))
          go_wp2
          go_ret
          exact ⟨ret_bool HN.out.symm, below_drewN hbel _⟩
    · obtain rfl : k = n := by omega
      have HN : Hid (numB f zs = true) := numB_yes fun i hi => HP.out i (by omega)
      go_wp2
      go_ret
      exact ⟨ret_bool HN.out.symm, hbel⟩
end Go.Proofs.YtgiegoamcfjfmaaGreat
/- Whose a piece is, in the model. Conditions: F from 1 to 3, proofs of at most 2^20. -/
namespace Go.Proofs.YtgiegoamcfjfmaaGreat
set_option maxRecDepth 2000
open Go.ChangeShapes Go.WideShapes Go.ChangeAt Go.RowKit

def MineP (root : ByteArray) (id f : Int) (r : ByteArray) (k n i : Int) : Prop := r = root ∧ k = f + 1 ∧ n = 3 * f + 1 ∧ i = id
instance (root : ByteArray) (id f : Int) (r : ByteArray) (k n i : Int) : Decidable (MineP root id f r k n i) := by unfold MineP; infer_instance
noncomputable def mineB (root : ByteArray) (id f : Int) (r : ByteArray) (k n i : Int) (b : ByteArray) (m : Nat) (S : Nat → ByteArray) : Bool := if MineP root id f r k n i then okP r k n i b m S else false
theorem mineB_no {root : ByteArray} {id f : Int} {r : ByteArray} {k n i : Int} {b : ByteArray} {m : Nat} {S : Nat → ByteArray} (h : ¬ MineP root id f r k n i) : mineB root id f r k n i b m S = false := if_neg h
theorem mineB_yes {root : ByteArray} {id f : Int} {r : ByteArray} {k n i : Int} {b : ByteArray} {m : Nat} {S : Nat → ByteArray} (h : MineP root id f r k n i) : mineB root id f r k n i b m S = okP r k n i b m S := if_pos h
set_option maxHeartbeats 4000000 in
theorem sMine_any (root : ByteArray) (id f : Int) (r : ByteArray) (k n i : Int) (b : ByteArray) (a : Option Addr) (m cap : Nat) (S : Nat → ByteArray) (w : World) (h : TxtAt w a m S) (hf : 1 ≤ f ∧ f ≤ 3) (hm : m ≤ 1048576) (hL : ∀ i, i < m → (S i).size ≤ maxLen) :
    Calls Tryz.prog 67 #[pcV r k n i b (.slice a m cap), .string root, .int .i64 id, .int .i64 f] w fun e w' => e = .returned (.bool (mineB root id f r k n i b m S)) ∧ Below w.heap.size w w' := by
  have KA : Hid (∀ W, Calls Tryz.prog 66 #[.int .i64 f] W fun e w' => e = .returned (.int .i64 (3 * f + 1)) ∧ w' = W) := fun W => sAllN_any f W hf
  obtain ⟨x, HX⟩ : ∃ x : Int, Hid (3 * f + 1 = x) := ⟨_, rfl⟩
  rw [HX.out] at KA
  obtain ⟨y, HY⟩ : ∃ y : Int, Hid (f + 1 = y) := ⟨_, rfl⟩
  have ey : IntKind.i64.wrap (f + 1) = y := by have := HY.out; rw [IntKind.wrap_i64]; omega
  have hb0 : Below w.heap.size w (w.alloc (.cells (pcC r k n i b (.slice a m cap)) 39)) := (Below.refl _ _).alloc (Nat.le_refl _) _
  have HB0 : Hid (Below w.heap.size w (w.alloc (.cells (pcC r k n i b (.slice a m cap)) 39))) := hb0
  obtain ⟨w0, HW0⟩ : ∃ x, Hid (x = w.alloc (.cells (pcC r k n i b (.slice a m cap)) 39)) := ⟨_, rfl⟩
  obtain ⟨B, HB⟩ : ∃ x, Hid (x = w.heap.size) := ⟨_, rfl⟩
  have HR : Hid (Row w0 B 39 (pcC r k n i b (.slice a m cap))) := by show Row _ _ _ _; rw [HW0.out, HB.out]; exact Row.new w _ _
  have KP : Hid (∀ W, Below w0.heap.size w0 W → Calls Tryz.prog 130 #[pcV r k n i b (.slice a m cap)] W fun e w' => e = .returned (.bool (okP r k n i b m S)) ∧ Below W.heap.size W w') := fun W hW => sPieceOk_any r k n i b a m cap S W ((h.below hb0).below (by rw [← HW0.out]; exact hW)) hm hL
  rw [← HW0.out] at HB0
  have q0 := HR.out.cell 0
  have q1 := HR.out.cell 1
  have q2 := HR.out.cell 2
  have q3 := HR.out.cell 3
  have q4 := HR.out.cell 4
  have q5 := HR.out.cell 5
  have lB := HR.out.lt
  simp at q0 q1 q2 q3 q4 q5
  clear h hb0 hf hL hm
  by_cases c1 : r = root
  case neg =>
    rw [mineB_no (fun h => c1 h.1)]
    have c1' := ba_ne c1
    go_enter Tryz.func67, Tryz.ntmps67
    go_wp2_with fail
    rw [← HW0.out, ← HB.out]
    go_quiet (fail)
    go_wp2
    go_ret
    exact ⟨rfl, below_drewN HB0.out _⟩
  have c1' := ba_beq root
  by_cases c2 : k = y
  case neg =>
    rw [mineB_no (fun h => c2 (h.2.1.trans HY.out))]
    have c2' : (k == y) = false := by simp [c2]
    subst c1
    go_enter Tryz.func67, Tryz.ntmps67
    go_wp2_with fail
    rw [← HW0.out, ← HB.out]
    go_quiet (fail)
    go_wp2
    go_ret
    exact ⟨rfl, below_drewN HB0.out _⟩
  have c2' : (k == y) = true := by simp [c2]
  by_cases c3 : n = x
  case neg =>
    rw [mineB_no (fun h => c3 (h.2.2.1.trans HX.out))]
    have c3' : (n == x) = false := by simp [c3]
    subst c1
    clear c2
    go_enter Tryz.func67, Tryz.ntmps67
    go_wp2_with fail
    rw [← HW0.out, ← HB.out]
    go_quiet ((go_at_call 66; exact Calls.quiet_of_same (KA.out _)))
    go_wp2
    go_ret
    exact ⟨rfl, below_drewN HB0.out _⟩
  have c3' : (n == x) = true := by simp [c3]
  by_cases c4 : i = id
  case neg =>
    rw [mineB_no (fun h => c4 h.2.2.2)]
    have c4' : (i == id) = false := by simp [c4]
    subst c1
    clear c2 c3
    go_enter Tryz.func67, Tryz.ntmps67
    go_wp2_with fail
    rw [← HW0.out, ← HB.out]
    go_quiet ((go_at_call 66; exact Calls.quiet_of_same (KA.out _)))
    go_wp2
    go_ret
    exact ⟨rfl, below_drewN HB0.out _⟩
  have c4' : (i == id) = true := by simp [c4]
  rw [mineB_yes ⟨c1, c2.trans HY.out.symm, c3.trans HX.out.symm, c4⟩]
  subst c1
  clear c2 c3 c4
  go_enter Tryz.func67, Tryz.ntmps67
  go_wp2_with fail
  rw [← HW0.out, ← HB.out]
  go_region_held3 (fun w' => w'.cell? ⟨B, 0, none⟩ = some (.string r) ∧ w'.cell? ⟨B, 1, none⟩ = some (.int .i64 k) ∧ w'.cell? ⟨B, 2, none⟩ = some (.int .i64 n) ∧ w'.cell? ⟨B, 3, none⟩ = some (.int .i64 i) ∧ w'.cell? ⟨B, 4, none⟩ = some (.string b) ∧ w'.cell? ⟨B, 5, none⟩ = some (.slice a m cap)) (go_keep) ((first | (go_at_call 66; refine Calls.mono (KA.out _) ?_; rintro e w8 ⟨rfl, rfl⟩) | (go_at_call 130; refine Calls.mono (KP.out _ (below_drewN (Below.refl _ _) _)) ?_; rintro e w9 ⟨rfl, hb9'⟩; have hb9 := below_of_drew hb9'; clear hb9'; have p0 := (hb9.cell (p := ⟨B, 0, none⟩) lB).trans q0; have p1 := (hb9.cell (p := ⟨B, 1, none⟩) lB).trans q1; have p2 := (hb9.cell (p := ⟨B, 2, none⟩) lB).trans q2; have p3 := (hb9.cell (p := ⟨B, 3, none⟩) lB).trans q3; have p4 := (hb9.cell (p := ⟨B, 4, none⟩) lB).trans q4; have p5 := (hb9.cell (p := ⟨B, 5, none⟩) lB).trans q5)))
  all_goals
    go_wp2
    go_ret
    exact ⟨rfl, below2 HB0.out hb9⟩
end Go.Proofs.YtgiegoamcfjfmaaGreat
/- Whose a piece is, in the program. Conditions: F from 1 to 3, proofs of at most 2^20. -/
namespace Go.Proofs.YtgiegoamcfjfmaaGreat
set_option maxRecDepth 2000
open Go.ChangeShapes Go.WideShapes Go.ChangeAt Go.RowKit

set_option maxHeartbeats 4000000 in
theorem owns_any (root : ByteArray) (id f : Int) (v : Value) (r : ByteArray) (k n i : Int) (b : ByteArray) (a : Option Addr) (m cap : Nat) (S : Nat → ByteArray) (w : World) (h : TxtAt w a m S) (hf : 1 ≤ f ∧ f ≤ 3) (hm : m ≤ 1048576) (hL : ∀ i, i < m → (S i).size ≤ maxLen) :
    Calls Tryz.prog 159 #[ndV id f v, pcV r k n i b (.slice a m cap), .string root] w fun e w' => e = .returned (.bool (mineB root id f r k n i b m S)) ∧ Below w.heap.size w w' := by
  have KA : Hid (∀ W, Calls Tryz.prog 90 #[.int .i64 f] W fun e w' => e = .returned (.int .i64 (3 * f + 1)) ∧ w' = W) := fun W => nodeCount_any f W hf
  have KN : Hid (∀ W, Calls Tryz.prog 89 #[.int .i64 f] W fun e w' => e = .returned (.int .i64 (f + 1)) ∧ w' = W) := fun W => pieceNeed_any f W hf
  obtain ⟨x, HX⟩ : ∃ x : Int, Hid (3 * f + 1 = x) := ⟨_, rfl⟩
  rw [HX.out] at KA
  obtain ⟨y, HY⟩ : ∃ y : Int, Hid (f + 1 = y) := ⟨_, rfl⟩
  rw [HY.out] at KN
  obtain ⟨A, HA⟩ : ∃ x, Hid (x = w.heap.size) := ⟨_, rfl⟩
  obtain ⟨wa, HWA⟩ : ∃ x, Hid (x = w.alloc (.cells #[.int .i64 id, .int .i64 f, v] 34)) := ⟨_, rfl⟩
  have HRA : Hid (Row wa A 34 #[.int .i64 id, .int .i64 f, v]) := by show Row _ _ _ _; rw [HWA.out, HA.out]; exact Row.new w _ _
  have hba : Below w.heap.size w wa := by rw [HWA.out]; exact (Below.refl _ _).alloc (Nat.le_refl _) _
  obtain ⟨B, HB⟩ : ∃ x, Hid (x = wa.heap.size) := ⟨_, rfl⟩
  obtain ⟨w0, HW0⟩ : ∃ x, Hid (x = wa.alloc (.cells (pcC r k n i b (.slice a m cap)) 39)) := ⟨_, rfl⟩
  have hbb : Below wa.heap.size wa w0 := by rw [HW0.out]; exact (Below.refl _ _).alloc (Nat.le_refl _) _
  have HR : Hid (Row w0 B 39 (pcC r k n i b (.slice a m cap))) := by show Row _ _ _ _; rw [HW0.out, HB.out]; exact Row.new wa _ _
  have HB0 : Hid (Below w.heap.size w w0) := below2 hba hbb
  have HB1 : Hid (B = A + 1) := by show _ = _; rw [HB.out, HWA.out, HA.out]; simp
  have KP : Hid (∀ W, Below w0.heap.size w0 W → Calls Tryz.prog 194 #[pcV r k n i b (.slice a m cap)] W fun e w' => e = .returned (.bool (okP r k n i b m S)) ∧ Below W.heap.size W w') := fun W hW => pieceOk_any r k n i b a m cap S W ((h.below HB0.out).below hW) hm hL
  have RA := HRA.out.below hbb HRA.out.lt
  have r0 := RA.cell 0
  have r1 := RA.cell 1
  have r2 := RA.cell 2
  have lA := RA.lt
  have q0 := HR.out.cell 0
  have q1 := HR.out.cell 1
  have q2 := HR.out.cell 2
  have q3 := HR.out.cell 3
  have q4 := HR.out.cell 4
  have q5 := HR.out.cell 5
  have lB := HR.out.lt
  simp at q0 q1 q2 q3 q4 q5 r0 r1 r2
  clear h hf hL hm RA hba hbb
  by_cases c1 : r = root
  case neg =>
    rw [mineB_no (fun h => c1 h.1)]
    have c1' := ba_ne c1
    go_enter Tryz.func159, Tryz.ntmps159
    go_wp2_with fail
    rw [← HWA.out, ← HW0.out, ← HA.out, ← HB1.out]
    go_quiet ((first | (go_at_call 90; exact Calls.quiet_of_same (KA.out _)) | (go_at_call 89; exact Calls.quiet_of_same (KN.out _))))
    go_wp2
    go_ret
    exact ⟨rfl, below_drewN HB0.out _⟩
  have c1' := ba_beq root
  by_cases c4 : i = id
  case neg =>
    rw [mineB_no (fun h => c4 h.2.2.2)]
    have c4' : (i == id) = false := by simp [c4]
    subst c1
    go_enter Tryz.func159, Tryz.ntmps159
    go_wp2_with fail
    rw [← HWA.out, ← HW0.out, ← HA.out, ← HB1.out]
    go_quiet ((first | (go_at_call 90; exact Calls.quiet_of_same (KA.out _)) | (go_at_call 89; exact Calls.quiet_of_same (KN.out _))))
    go_wp2
    go_ret
    exact ⟨rfl, below_drewN HB0.out _⟩
  have c4' : (i == id) = true := by simp [c4]
  by_cases c2 : k = y
  case neg =>
    rw [mineB_no (fun h => c2 (h.2.1.trans HY.out))]
    have c2' : (k == y) = false := by simp [c2]
    subst c1
    clear c4
    go_enter Tryz.func159, Tryz.ntmps159
    go_wp2_with fail
    rw [← HWA.out, ← HW0.out, ← HA.out, ← HB1.out]
    go_quiet ((first | (go_at_call 90; exact Calls.quiet_of_same (KA.out _)) | (go_at_call 89; exact Calls.quiet_of_same (KN.out _))))
    go_wp2
    go_ret
    exact ⟨rfl, below_drewN HB0.out _⟩
  have c2' : (k == y) = true := by simp [c2]
  by_cases c3 : n = x
  case neg =>
    rw [mineB_no (fun h => c3 (h.2.2.1.trans HX.out))]
    have c3' : (n == x) = false := by simp [c3]
    subst c1
    clear c4 c2
    go_enter Tryz.func159, Tryz.ntmps159
    go_wp2_with fail
    rw [← HWA.out, ← HW0.out, ← HA.out, ← HB1.out]
    go_quiet ((first | (go_at_call 90; exact Calls.quiet_of_same (KA.out _)) | (go_at_call 89; exact Calls.quiet_of_same (KN.out _))))
    go_wp2
    go_ret
    exact ⟨rfl, below_drewN HB0.out _⟩
  have c3' : (n == x) = true := by simp [c3]
  rw [mineB_yes ⟨c1, c2.trans HY.out.symm, c3.trans HX.out.symm, c4⟩]
  subst c1
  clear c2 c3 c4
  go_enter Tryz.func159, Tryz.ntmps159
  go_wp2_with fail
  rw [← HWA.out, ← HW0.out, ← HA.out, ← HB1.out]
  go_region_held3 (fun w' => w'.cell? ⟨A, 0, none⟩ = some (.int .i64 id) ∧ w'.cell? ⟨A, 1, none⟩ = some (.int .i64 f) ∧ w'.cell? ⟨B, 0, none⟩ = some (.string r) ∧ w'.cell? ⟨B, 1, none⟩ = some (.int .i64 k) ∧ w'.cell? ⟨B, 2, none⟩ = some (.int .i64 n) ∧ w'.cell? ⟨B, 3, none⟩ = some (.int .i64 i) ∧ w'.cell? ⟨B, 4, none⟩ = some (.string b) ∧ w'.cell? ⟨B, 5, none⟩ = some (.slice a m cap)) (go_keep) ((first | (go_at_call 90; refine Calls.mono (KA.out _) ?_; rintro e w8 ⟨rfl, rfl⟩) | (go_at_call 89; refine Calls.mono (KN.out _) ?_; rintro e w8 ⟨rfl, rfl⟩) | (go_at_call 194; refine Calls.mono (KP.out _ (below_drewN (Below.refl _ _) _)) ?_; rintro e w9 ⟨rfl, hb9'⟩; have hb9 := below_of_drew hb9'; clear hb9'; have pr0 := (hb9.cell (p := ⟨A, 0, none⟩) lA).trans r0; have pr1 := (hb9.cell (p := ⟨A, 1, none⟩) lA).trans r1; have pq0 := (hb9.cell (p := ⟨B, 0, none⟩) lB).trans q0; have pq1 := (hb9.cell (p := ⟨B, 1, none⟩) lB).trans q1; have pq2 := (hb9.cell (p := ⟨B, 2, none⟩) lB).trans q2; have pq3 := (hb9.cell (p := ⟨B, 3, none⟩) lB).trans q3; have pq4 := (hb9.cell (p := ⟨B, 4, none⟩) lB).trans q4; have pq5 := (hb9.cell (p := ⟨B, 5, none⟩) lB).trans q5)))
  all_goals
    go_wp2
    go_ret
    exact ⟨rfl, below2 HB0.out hb9⟩
end Go.Proofs.YtgiegoamcfjfmaaGreat
