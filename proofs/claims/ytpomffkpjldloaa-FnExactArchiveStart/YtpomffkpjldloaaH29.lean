/- Lists of nodes' numbers, how far a slot is brought, and whose a piece is: in the program and in the model. Conditions: F from 1 to 3, lists of at most 2^20. -/
import Derived.Test.YtpomffkpjldloaaH26
import Derived.BigQuiet
import Derived.Test.YtpomffkpjldloaaH24
namespace Go.Proofs.Ytpomffkpjldloaa
set_option maxRecDepth 2000
open Go.ChangeShapes Go.WideShapes Go.ChangeAt Go.RowKit

/-- Nodes' numbers, ascending. -/
def NumP (f : Int) (zs : List Int) : Prop := ∀ i, i < zs.length → (0 ≤ zs.getD i 0 ∧ zs.getD i 0 < 3 * f + 1) ∧ (0 < i → zs.getD (i - 1) 0 < zs.getD i 0)
noncomputable def numB (f : Int) (zs : List Int) : Bool := @decide (NumP f zs) (Classical.propDecidable _)
theorem numB_yes {f : Int} {zs : List Int} (h : NumP f zs) : numB f zs = true := by unfold numB; exact @decide_eq_true _ (Classical.propDecidable _) h
theorem numB_no {f : Int} {zs : List Int} (h : ¬ NumP f zs) : numB f zs = false := by unfold numB; exact @decide_eq_false _ (Classical.propDecidable _) h
set_option maxHeartbeats 4000000 in
theorem areNodes_any (id f : Int) (v : Value) (a : Option Addr) (n cap : Nat) (zs : List Int) (w : World) (h : IntsAt w a n zs) (hf : 1 ≤ f ∧ f ≤ 3) (hn : n ≤ 1048576) :
    Calls Try.prog 41 #[ndV id f v, .slice a n cap] w fun e w' => e = .returned (.bool (numB f zs)) ∧ Below w.heap.size w w' := by
  obtain ⟨A, HA⟩ : ∃ x, Hid (x = w.heap.size) := ⟨_, rfl⟩
  obtain ⟨w0, HW0⟩ : ∃ x, Hid (x = w.alloc (.cells #[.int .i64 id, .int .i64 f, v] 52)) := ⟨_, rfl⟩
  have HR : Hid (Row w0 A 52 #[.int .i64 id, .int .i64 f, v]) := by show Row _ _ _ _; rw [HW0.out, HA.out]; exact Row.new w _ _
  have hb0 : Below w.heap.size w w0 := by rw [HW0.out]; exact (Below.refl _ _).alloc (Nat.le_refl _) _
  have KB0 : Hid (Below w.heap.size w w0) := hb0
  have KI : Hid (IntsAt w0 a n zs) := h.below hb0
  have hl : zs.length = n := h.1
  have KK : Hid (∀ x W, Calls Try.prog 49 #[ndV id f v, .int .i64 x] W fun e w' => e = .returned (.bool (decide (0 ≤ x ∧ x < 3 * f + 1))) ∧ Below W.heap.size W w') := fun x W => knows_any id f x v W hf
  clear h hb0 hf
  go_enter Try.func41, Try.ntmps41
  go_wp2
  rw [← HW0.out, ← HA.out]
  go_loopw [9] (fun vi wr => ∃ k : Nat, k ≤ n ∧ vi = .int .i64 (k : Int) ∧ Hid (∀ i, i < k → (0 ≤ zs.getD i 0 ∧ zs.getD i 0 < 3 * f + 1) ∧ (0 < i → zs.getD (i - 1) 0 < zs.getD i 0)) ∧ Below w0.heap.size w0 wr) (fun vi _ => n - (intOf vi).toNat)
  case atStart => exact ⟨0, Nat.zero_le _, rfl, fun i hi => absurd hi (Nat.not_lt_zero _), Below.refl _ _⟩
  case round =>
    obtain ⟨k, hk, rfl, HP, hbel⟩ := hrel
    by_cases hlt : k < n
    · have hki : (k : Int) < (n : Int) := by omega
      obtain ⟨b, off, rfl, hc⟩ := (KI.out.below hbel).some (by omega)
      have hck := hc k hlt
      have R1 := HR.out.below hbel HR.out.lt
      have x0 := R1.cell 0
      have x1 := R1.cell 1
      have x2 := R1.cell 2
      simp at x0 x1 x2
      have KB : Hid (Below w0.heap.size w0 wr) := hbel
      have lb := block_lt_of_cell hck
      obtain ⟨z, HZ⟩ : ∃ z, Hid (zs.getD k 0 = z) := ⟨_, rfl⟩
      rw [HZ.out] at hck
      have KN : Hid _ := KK.out z wr
      by_cases hz : 0 ≤ z ∧ z < 3 * f + 1
      · rw [decide_eq_true hz] at KN
        by_cases k0 : k = 0
        · subst k0
          have HP2 : Hid (∀ i, i < 0 + 1 → (0 ≤ zs.getD i 0 ∧ zs.getD i 0 < 3 * f + 1) ∧ (0 < i → zs.getD (i - 1) 0 < zs.getD i 0)) := fun i hi => by
            obtain rfl : i = 0 := by omega
            rw [HZ.out]
            exact ⟨hz, fun h => absurd h (by omega)⟩
          simp only [Nat.add_zero] at hck
          clear hc R1 hbel hz HP
          go_wp2_with fail
          refine Calls.mono KN.out ?_
          rintro e w1 ⟨rfl, b1⟩
          have KB1 : Hid (Below w0.heap.size w0 w1) := below2 KB.out b1
          clear b1 KN x0 x1 x2
          go_wp2
          go_roundw
          case rel => exact ⟨0 + 1, by omega, by go_num, HP2, KB1.out⟩
          case measure => simp [intOf]; omega
        · have k0i : (k : Int) > 0 := by omega
          have hcp := hc (k - 1) (by omega)
          obtain ⟨k1, HK1⟩ : ∃ k1, Hid (k = k1 + 1) := ⟨k - 1, by show k = _; omega⟩
          have e1 : IntKind.i64.wrap ((k : Int) - 1) = (k1 : Int) := by have := HK1.out; rw [IntKind.wrap_i64]; omega
          have hk1i : (k1 : Int) < (n : Int) := by have := HK1.out; omega
          have hk1n : (0 : Int) ≤ (k1 : Int) := by omega
          rw [show k - 1 = k1 by have := HK1.out; omega] at hcp
          obtain ⟨y, HY⟩ : ∃ z, Hid (zs.getD k1 0 = z) := ⟨_, rfl⟩
          rw [HY.out] at hcp
          by_cases hyz : y < z
          · have hyz' : ¬ (y ≥ z) := by omega
            have HP2 : Hid (∀ i, i < k + 1 → (0 ≤ zs.getD i 0 ∧ zs.getD i 0 < 3 * f + 1) ∧ (0 < i → zs.getD (i - 1) 0 < zs.getD i 0)) := fun i hi => by
              by_cases ei : i = k
              · subst ei
                rw [show i - 1 = k1 by have := HK1.out; omega, HZ.out, HY.out]
                exact ⟨hz, fun _ => hyz⟩
              · exact HP.out i (by omega)
            clear hc R1 hbel hz HP hyz
            go_wp2_with fail
            refine Calls.mono KN.out ?_
            rintro e w1 ⟨rfl, b1⟩
            have hcp1 := (b1.cell (p := ⟨b, off + k1, none⟩) lb).trans hcp
            have KB1 : Hid (Below w0.heap.size w0 w1) := below2 KB.out b1
            clear b1 KN x0 x1 x2 hcp hck
            go_wp2
            go_roundw
            case rel => exact ⟨k + 1, by omega, by go_num, HP2, KB1.out⟩
            case measure => simp [intOf]; omega
          · have hyz' : y ≥ z := by omega
            have HN : Hid (numB f zs = false) := numB_no fun h => by
              have := (h k (by omega)).2 (by omega)
              rw [show k - 1 = k1 by have := HK1.out; omega, HZ.out, HY.out] at this
              omega
            clear hc R1 hbel hz HP hyz
            go_wp2_with fail
            refine Calls.mono KN.out ?_
            rintro e w1 ⟨rfl, b1⟩
            have hcp1 := (b1.cell (p := ⟨b, off + k1, none⟩) lb).trans hcp
            have KB1 : Hid (Below w.heap.size w w1) := below2 KB0.out (below2 KB.out b1)
            clear b1 KN x0 x1 x2 hcp hck
            go_wp2
            go_ret
            exact ⟨ret_bool HN.out.symm, KB1.out⟩
      · rw [decide_eq_false hz] at KN
        have HN : Hid (numB f zs = false) := numB_no fun h => hz (by have := (h k (by omega)).1; rw [HZ.out] at this; exact this)
        clear hc R1 hbel hz HP
        go_wp2_with fail
        refine Calls.mono KN.out ?_
        rintro e w1 ⟨rfl, b1⟩
        have KB1 : Hid (Below w.heap.size w w1) := below2 KB0.out (below2 KB.out b1)
        clear b1 KN x0 x1 x2 hck
        go_wp2
        go_ret
        exact ⟨ret_bool HN.out.symm, KB1.out⟩
    · obtain rfl : k = n := by omega
      have HN : Hid (numB f zs = true) := numB_yes fun i hi => HP.out i (by omega)
      have KB1 : Hid (Below w.heap.size w wr) := below2 KB0.out hbel
      clear hbel
      go_wp2
      go_ret
      exact ⟨ret_bool HN.out.symm, KB1.out⟩
end Go.Proofs.Ytpomffkpjldloaa
/- Lists of nodes' numbers in the model. Conditions: F from 1 to 3, lists of at most 2^20. -/
namespace Go.Proofs.Ytpomffkpjldloaa
set_option maxRecDepth 2000
open Go.ChangeShapes Go.WideShapes Go.ChangeAt Go.RowKit

set_option maxHeartbeats 4000000 in
theorem sNums_any (f : Int) (a : Option Addr) (n cap : Nat) (zs : List Int) (w : World) (h : IntsAt w a n zs) (hf : 1 ≤ f ∧ f ≤ 3) (hn : n ≤ 1048576) :
    Calls Try.prog 24 #[.slice a n cap, .int .i64 f] w fun e w' => e = .returned (.bool (numB f zs)) ∧ Below w.heap.size w w' := by
  have KI : Hid (IntsAt w a n zs) := h
  have hl : zs.length = n := h.1
  have KA : Hid (∀ W, Calls Try.prog 25 #[.int .i64 f] W fun e w' => e = .returned (.int .i64 (3 * f + 1)) ∧ w' = W) := fun W => sAllN_any f W hf
  obtain ⟨m, HM⟩ : ∃ m : Int, Hid (3 * f + 1 = m) := ⟨_, rfl⟩
  rw [HM.out] at KA
  have HF : Hid (1 ≤ f ∧ f ≤ 3) := hf
  have em : IntKind.i64.wrap (m - 1) = 3 * f := by have := HM.out; rw [IntKind.wrap_i64]; omega
  obtain ⟨m1, HM1⟩ : ∃ m1 : Int, Hid (3 * f = m1) := ⟨_, rfl⟩
  rw [HM1.out] at em
  clear h hf
  go_enter Try.func24, Try.ntmps24
  go_wp2
  go_loopw [5] (fun vi wr => ∃ k : Nat, k ≤ n ∧ vi = .int .i64 (k : Int) ∧ Hid (∀ i, i < k → (0 ≤ zs.getD i 0 ∧ zs.getD i 0 < 3 * f + 1) ∧ (0 < i → zs.getD (i - 1) 0 < zs.getD i 0)) ∧ Below w.heap.size w wr) (fun vi _ => n - (intOf vi).toNat)
  case atStart => exact ⟨0, Nat.zero_le _, rfl, fun i hi => absurd hi (Nat.not_lt_zero _), Below.refl _ _⟩
  case round =>
    obtain ⟨k, hk, rfl, HP, hbel⟩ := hrel
    by_cases hlt : k < n
    · have hki : (k : Int) < (n : Int) := by omega
      obtain ⟨b, off, rfl, hc⟩ := (KI.out.below hbel).some (by omega)
      have hck := hc k hlt
      obtain ⟨z, HZ⟩ : ∃ z, Hid (zs.getD k 0 = z) := ⟨_, rfl⟩
      rw [HZ.out] at hck
      by_cases hz : 0 ≤ z ∧ z < 3 * f + 1
      case neg =>
        have hin : inB z 0 m1 = false := by have := HM1.out; unfold inB; simp; omega
        have HN : Hid (numB f zs = false) := numB_no fun h => hz (by have := (h k (by omega)).1; rw [HZ.out] at this; exact this)
        clear hc hz HP
        go_wp2_with fail
        go_quiet (first | (go_at_call 25; exact Calls.quiet_of_same (KA.out _)) | (go_at_call 23; exact Calls.quiet_of_same (sIn_any _ _ _ _)))
        go_wp2
        go_ret
        exact ⟨ret_bool HN.out.symm, below_drewN hbel _⟩
      have hin : inB z 0 m1 = true := by have := HM1.out; unfold inB; simp; omega
      by_cases k0 : k = 0
      · subst k0
        have HP2 : Hid (∀ i, i < 0 + 1 → (0 ≤ zs.getD i 0 ∧ zs.getD i 0 < 3 * f + 1) ∧ (0 < i → zs.getD (i - 1) 0 < zs.getD i 0)) := fun i hi => by
          obtain rfl : i = 0 := by omega
          rw [HZ.out]
          exact ⟨hz, fun h => absurd h (by omega)⟩
        simp only [Nat.add_zero] at hck
        clear hc hz HP
        go_wp2_with fail
        go_quiet (first | (go_at_call 25; exact Calls.quiet_of_same (KA.out _)) | (go_at_call 23; exact Calls.quiet_of_same (sIn_any _ _ _ _)))
        go_wp2
        go_roundw
        case rel => exact ⟨0 + 1, by omega, by go_num, HP2, below_drewN hbel _⟩
        case measure => simp [intOf]; omega
      · have k0i : 0 < k := by omega
        have k0d : decide (0 < k) = true := decide_eq_true k0i
        have hcp := hc (k - 1) (by omega)
        obtain ⟨k1, HK1⟩ : ∃ k1, Hid (k = k1 + 1) := ⟨k - 1, by show k = _; omega⟩
        have e1 : IntKind.i64.wrap ((k : Int) - 1) = (k1 : Int) := by have := HK1.out; rw [IntKind.wrap_i64]; omega
        have hk1i : (k1 : Int) < (n : Int) := by have := HK1.out; omega
        have hk1n : (0 : Int) ≤ (k1 : Int) := by omega
        rw [show k - 1 = k1 by have := HK1.out; omega] at hcp
        obtain ⟨y, HY⟩ : ∃ z, Hid (zs.getD k1 0 = z) := ⟨_, rfl⟩
        rw [HY.out] at hcp
        by_cases hyz : y < z
        · have hyz' : ¬ (z ≤ y) := by omega
          have HP2 : Hid (∀ i, i < k + 1 → (0 ≤ zs.getD i 0 ∧ zs.getD i 0 < 3 * f + 1) ∧ (0 < i → zs.getD (i - 1) 0 < zs.getD i 0)) := fun i hi => by
            by_cases ei : i = k
            · subst ei
              rw [show i - 1 = k1 by have := HK1.out; omega, HZ.out, HY.out]
              exact ⟨hz, fun _ => hyz⟩
            · exact HP.out i (by omega)
          clear hc hz HP hyz
          go_wp2_with fail
          go_quiet (first | (go_at_call 25; exact Calls.quiet_of_same (KA.out _)) | (go_at_call 23; exact Calls.quiet_of_same (sIn_any _ _ _ _)))
          go_wp2
          go_roundw
          case rel => exact ⟨k + 1, by omega, by go_num, HP2, below_drewN hbel _⟩
          case measure => simp [intOf]; omega
        · have hyz' : z ≤ y := by omega
          have HN : Hid (numB f zs = false) := numB_no fun h => by
            have := (h k (by omega)).2 (by omega)
            rw [show k - 1 = k1 by have := HK1.out; omega, HZ.out, HY.out] at this
            omega
          clear hc hz HP hyz
          go_wp2_with fail
          go_quiet (first | (go_at_call 25; exact Calls.quiet_of_same (KA.out _)) | (go_at_call 23; exact Calls.quiet_of_same (sIn_any _ _ _ _)))
          go_wp2
          go_ret
          exact ⟨ret_bool HN.out.symm, below_drewN hbel _⟩
    · obtain rfl : k = n := by omega
      have HN : Hid (numB f zs = true) := numB_yes fun i hi => HP.out i (by omega)
      go_wp2
      go_ret
      exact ⟨ret_bool HN.out.symm, hbel⟩
end Go.Proofs.Ytpomffkpjldloaa
/- Whose a piece is, in the model. Conditions: F from 1 to 3, proofs of at most 2^20. -/
namespace Go.Proofs.Ytpomffkpjldloaa
set_option maxRecDepth 2000
open Go.ChangeShapes Go.WideShapes Go.ChangeAt Go.RowKit

def MineP (root : ByteArray) (id f : Int) (r : ByteArray) (k n i : Int) : Prop := r = root ∧ k = f + 1 ∧ n = 3 * f + 1 ∧ i = id
instance (root : ByteArray) (id f : Int) (r : ByteArray) (k n i : Int) : Decidable (MineP root id f r k n i) := by unfold MineP; infer_instance
end Go.Proofs.Ytpomffkpjldloaa
/- Whose a piece is, in the program. Conditions: F from 1 to 3, proofs of at most 2^20. -/
namespace Go.Proofs.Ytpomffkpjldloaa
set_option maxRecDepth 2000
open Go.ChangeShapes Go.WideShapes Go.ChangeAt Go.RowKit

end Go.Proofs.Ytpomffkpjldloaa
/- How far a slot is brought, in the program. Condition: F from 1 to 3. -/
namespace Go.Proofs.Ytpomffkpjldloaa
set_option maxRecDepth 2000
open Go.ChangeShapes Go.WideShapes Go.ChangeAt Go.RowKit

end Go.Proofs.Ytpomffkpjldloaa
/- Whether a slot is a node's, in the program. Conditions: F from 1 to 3, lists of at most 2^20. -/
namespace Go.Proofs.Ytpomffkpjldloaa
set_option maxRecDepth 2000
open Go.ChangeShapes Go.WideShapes Go.ChangeAt Go.RowKit

end Go.Proofs.Ytpomffkpjldloaa
/- Whether a node is right, in the program. Conditions: lists of at most 2^20, texts that can be. -/
namespace Go.Proofs.Ytpomffkpjldloaa
set_option maxRecDepth 2000
open Go.ChangeShapes Go.WideShapes Go.ChangeAt Go.RowKit

theorem ag13_list {y : Nat → Value} {c0 c1 c2 c3 c4 c5 c6 c7 c8 c9 c10 c11 c12 : Value} (h : ag13 y = .agg #[c0, c1, c2, c3, c4, c5, c6, c7, c8, c9, c10, c11, c12]) : [y 0, y 1, y 2, y 3, y 4, y 5, y 6, y 7, y 8, y 9, y 10, y 11, y 12] = [c0, c1, c2, c3, c4, c5, c6, c7, c8, c9, c10, c11, c12] := by
  have h' := congrArg (fun v => match v with | Value.agg a => a.toList | _ => []) h
  exact h'
abbrev slL (s : Sl) (v6 v11 v12 : Value) : List Value := [.string s.r, .string s.p.r, .int .i64 s.p.k, .int .i64 s.p.n, .int .i64 s.p.i, .string s.p.b, v6, .bool s.h, .bool s.e, .bool s.d, .bool s.o, v11, v12]
/-- A slot that is read, its cells written out. -/
theorem slot_at {w : World} {n : Nat} {S : Nat → Sl} {a : Option Addr} {cap : Nat} (h : Rd w (slsD n S) (.slice a n cap)) {i : Nat} (hi : i < n) :
    ∃ (b off : Nat) (a6 a11 a12 : Option Addr) (c6 c11 c12 : Nat), a = some ⟨b, off, none⟩ ∧ w.rangeAt b (off + i * 13) (slL (S i) (.slice a6 (S i).p.m c6) (.slice a11 (S i).ze.length c11) (.slice a12 (S i).zr.length c12)) ∧ TxtAt w a6 (S i).p.m (S i).p.S ∧ IntsAt w a11 (S i).ze.length (S i).ze ∧ IntsAt w a12 (S i).zr.length (S i).zr := by
  obtain ⟨b, off, y, a6, a11, a12, c6, c11, c12, ea, hc, e, t6, t11, t12⟩ := slot_row h hi
  obtain ⟨_, x⟩ := one_row (sz := 12) w (Below.refl _ _) hc
  have R := range13 x
  rw [ag13_list e] at R
  exact ⟨b, off, a6, a11, a12, c6, c11, c12, ea, R, t6, t11, t12⟩
end Go.Proofs.Ytpomffkpjldloaa
