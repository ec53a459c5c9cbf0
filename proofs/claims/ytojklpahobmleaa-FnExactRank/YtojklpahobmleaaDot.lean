/- The sum of products of two lists, in the program and in its model, and the laws' test of two lists. Condition: lists of at most 2^20 numbers. -/
import Derived.Test.YtojklpahobmleaaSlices
import Derived.Test.YtojklpahobmleaaSField
import Derived.Deep.QuietTactic
import Derived.BigQuiet
namespace Go.Proofs.Ytojklpahobmleaa
open Go.ChangeShapes Go.WideShapes Go.ChangeAt Go.RowKit

def dotGo (xs ys : List Int) : Nat → Nat → Nat → Int
  | 0, _, x => (x : Int)
  | m + 1, k, x => if isB (xs.getD k 0) = true ∧ isB (ys.getD k 0) = true then dotGo xs ys m (k + 1) (x ^^^ Gf.mul (xs.getD k 0).toNat (ys.getD k 0).toNat) else -1
def dotI (xs ys : List Int) : Int := if xs.length = ys.length then dotGo xs ys xs.length 0 0 else -1

theorem dotGo_yes {xs ys : List Int} {n k X : Nat} (hk : k < n) {x y : Nat} (hx : (x : Int) = xs.getD k 0) (hy : (y : Int) = ys.getD k 0) (bx : x < 256) (bY : y < 256) :
    dotGo xs ys (n - k) k X = dotGo xs ys (n - (k + 1)) (k + 1) (X ^^^ Gf.mul x y) := by
  rw [show n - k = (n - (k + 1)) + 1 by omega]
  simp only [dotGo]
  rw [← hx, ← hy, if_pos ⟨isB_ofNat bx, isB_ofNat bY⟩]
  simp
theorem dotGo_no {xs ys : List Int} {n k X : Nat} (hk : k < n) (h : isB (xs.getD k 0) = false ∨ isB (ys.getD k 0) = false) : dotGo xs ys (n - k) k X = -1 := by
  rw [show n - k = (n - (k + 1)) + 1 by omega]
  simp only [dotGo]
  rw [if_neg]
  rintro ⟨h1, h2⟩
  rcases h with h | h
  · rw [h] at h1; cases h1
  · rw [h] at h2; cases h2

set_option maxHeartbeats 1000000 in
theorem eqIntS_same (a b : Option Addr) (n ca cb : Nat) (zs : List Int) (w : World) (ha : IntsAt w a n zs) (hb : IntsAt w b n zs) (hn : n ≤ 1048576) :
    Calls Try.prog 41 #[.slice a n ca, .slice b n cb] w fun e w' => e = .returned (.bool true) ∧ Below w.heap.size w w' := by
  go_enter Try.func41, Try.ntmps41
  go_wp2
  go_loopw [5] (fun i wr => ∃ k : Nat, k ≤ n ∧ i = .int .i64 k ∧ Below w.heap.size w wr) (fun i _ => n - (intOf i).toNat)
  case atStart => exact ⟨0, Nat.zero_le _, rfl, Below.refl _ _⟩
  case round =>
    obtain ⟨k, hk, rfl, hbel⟩ := hrel
    have ha' := ha.below hbel
    have hb' := hb.below hbel
    clear ha hb
    by_cases hlt : k < n
    · obtain ⟨ba, oa, rfl, hca⟩ := ha'.2 k hlt
      obtain ⟨bb, ob, rfl, hcb⟩ := hb'.2 k hlt
      clear ha' hb'
      obtain ⟨x, HX⟩ : ∃ x, x = zs.getD k 0 := ⟨_, rfl⟩
      rw [← HX] at hca hcb
      clear HX
      go_wp2
      go_quiet (fail)
      go_wp2
      go_roundw
      case rel => exact ⟨k + 1, by omega, by go_num, below_drewN hbel _⟩
      case measure => simp [intOf]; omega
    · go_wp2
      go_ret
      exact ⟨rfl, hbel⟩

set_option maxHeartbeats 1000000 in
theorem sDot_same (a b : Option Addr) (n ca cb : Nat) (xs ys : List Int) (w : World) (ha : IntsAt w a n xs) (hb : IntsAt w b n ys) (hn : n ≤ 1048576) :
    Calls Try.prog 66 #[.slice a n ca, .slice b n cb] w fun e w' => e = .returned (.int .i64 (dotGo xs ys n 0 0)) ∧ Below w.heap.size w w' := by
  go_enter Try.func66, Try.ntmps66
  go_wp2
  go_loopw [5, 6] (fun s i wr => ∃ k X : Nat, k ≤ n ∧ X < 256 ∧ s = .int .i64 X ∧ i = .int .i64 k ∧ Hid (dotGo xs ys (n - k) k X = dotGo xs ys n 0 0) ∧ Below w.heap.size w wr) (fun _ i _ => n - (intOf i).toNat)
  case atStart => exact ⟨0, 0, Nat.zero_le _, by omega, rfl, rfl, rfl, Below.refl _ _⟩
  case round =>
    obtain ⟨k, X, hk, hX, rfl, rfl, HD, hbel⟩ := hrel
    have ha' := ha.below hbel
    have hb' := hb.below hbel
    clear ha hb
    by_cases hlt : k < n
    · obtain ⟨ba, oa, rfl, hca⟩ := ha'.2 k hlt
      obtain ⟨bb, ob, rfl, hcb⟩ := hb'.2 k hlt
      clear ha' hb'
      obtain ⟨x, HX⟩ : ∃ x, Hid (x = xs.getD k 0) := ⟨_, rfl⟩
      obtain ⟨y, HY⟩ : ∃ y, Hid (y = ys.getD k 0) := ⟨_, rfl⟩
      rw [← HX.out] at hca
      rw [← HY.out] at hcb
      by_cases hq : isB x = true ∧ isB y = true
      · obtain ⟨A, hA, rfl⟩ := isB_nat hq.1
        obtain ⟨B, hB, rfl⟩ := isB_nat hq.2
        have hm : mulI (A : Int) (B : Int) = ((Gf.mul A B : Nat) : Int) := by simp [mulI, hq]
        have hml := Gf.mul_lt hA hB
        have hst : Hid (dotGo xs ys (n - (k + 1)) (k + 1) (X ^^^ Gf.mul A B) = dotGo xs ys n 0 0) := by
          show _ = _
          rw [← HD.out, dotGo_yes hlt HX.out HY.out hA hB]
        have hxl : Hid (X ^^^ Gf.mul A B < 256) := Gf.xor_lt hX hml
        have hxr := xor_i64 X (Gf.mul A B) (by omega) (by omega)
        clear hq
        go_wp2
        go_quiet ((go_at_call 78; exact Calls.quiet_of_same (sMul_any _ _ _)))
        go_wp2
        go_roundw
        case rel => exact ⟨k + 1, X ^^^ Gf.mul A B, by omega, hxl.out, rfl, by go_num, hst.out, below_drewN hbel _⟩
        case measure => simp [intOf]; omega
      · have hm : mulI x y = -1 := by simp only [mulI]; rw [if_neg hq]
        have hno : Hid (dotGo xs ys (n - k) k X = -1) := by
          refine dotGo_no hlt ?_
          rw [← HX.out, ← HY.out]
          by_cases h1 : isB x = true
          · right
            simpa [h1] using hq
          · left
            simpa using h1
        clear hq
        go_wp2
        go_quiet ((go_at_call 78; exact Calls.quiet_of_same (sMul_any _ _ _)))
        go_wp2
        go_ret
        exact ⟨ret_int (by rw [← HD.out, hno.out]), below_drewN hbel _⟩
    · have e : k = n := by omega
      subst e
      go_wp2
      go_ret
      exact ⟨ret_int (by rw [← HD.out, Nat.sub_self]; rfl), hbel⟩

theorem sDot_any (a b : Option Addr) (n m ca cb : Nat) (xs ys : List Int) (w : World) (ha : IntsAt w a n xs) (hb : IntsAt w b m ys) (hn : n ≤ 1048576) (hm : m ≤ 1048576) :
    Calls Try.prog 66 #[.slice a n ca, .slice b m cb] w fun e w' => e = .returned (.int .i64 (dotI xs ys)) ∧ Below w.heap.size w w' := by
  by_cases h : n = m
  · subst h
    refine (sDot_same a b n ca cb xs ys w ha hb hn).mono ?_
    rintro e w' ⟨rfl, hbel⟩
    exact ⟨ret_int (by simp [dotI, ha.1, hb.1]), hbel⟩
  · have hne : ((n : Int) != (m : Int)) = true := by simp; omega
    have hd : Hid (dotI xs ys = -1) := by show _ = _; simp [dotI, ha.1, hb.1, h]
    clear ha hb h
    go_enter Try.func66, Try.ntmps66
    go_wp2
    go_ret
    exact ⟨ret_int hd.out.symm, Below.refl _ _⟩
end Go.Proofs.Ytojklpahobmleaa
