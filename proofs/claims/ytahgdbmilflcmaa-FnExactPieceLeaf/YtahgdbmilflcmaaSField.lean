/- What the model's functions with loops answer at every number: products, powers, inverses, quotients, powers of two and logarithms; none turns anything that was there. No condition. -/
import Derived.Test.YtahgdbmilflcmaaField
namespace Go.Proofs.Ytahgdbmilflcmaa
set_option maxRecDepth 2000
open Go.ChangeShapes Go.WideShapes Go.ChangeAt Go.RowKit

theorem pea_step (k A B X : Nat) : Gf.pea (k + 1) A B X = Gf.pea k (Gf.dbl A) (B / 2) (if B % 2 = 1 then X ^^^ A else X) := rfl

set_option maxHeartbeats 1000000 in
theorem sMul_nat (a b : Nat) (w : World) (ha : a < 256) (hb : b < 256) :
    Calls Try.prog 112 #[.int .i64 (a : Int), .int .i64 (b : Int)] w fun e w' => e = .returned (.int .i64 (Gf.mul a b : Nat)) ∧ w' = w := by
  have ia := isB_ofNat ha
  have ib := isB_ofNat hb
  go_enter Try.func112, Try.ntmps112
  go_wp2_with (go_at_call 51; refine (sIs_any _ _).mono ?_; rintro e w' ⟨rfl, rfl⟩)
  go_loop [0, 1, 5] (fun p q r => ∃ A B X k : Nat, A < 256 ∧ X < 256 ∧ k ≤ 8 ∧ B < 2 ^ k ∧ Hid (Gf.pea k A B X = Gf.mul a b) ∧ p = .int .i64 A ∧ q = .int .i64 B ∧ r = .int .i64 X) (fun _ q _ => (intOf q).toNat)
  case atStart => exact ⟨a, b, 0, 8, ha, by omega, by omega, by omega, rfl, rfl, rfl, rfl⟩
  case round =>
    obtain ⟨A, B, X, k, hA, hX, hk, hB, HP, rfl, rfl, rfl⟩ := hrel
    clear ia ib
    have hB8 : B < 256 := Nat.lt_of_lt_of_le hB (Nat.pow_le_pow_right (by omega) hk)
    by_cases hz : B = 0
    · subst hz
      go_wp2
      go_ret
      exact ⟨ret_int (by rw [← HP.out, Gf.pea_zero]), rfl⟩
    · obtain ⟨j, rfl⟩ : ∃ j, k = j + 1 := ⟨k - 1, by
        rcases Nat.eq_zero_or_pos k with h | h
        · subst h; simp at hB; omega
        · omega⟩
      have hpos : 0 < (B : Int) := by omega
      have hB2 : Hid (B / 2 < 2 ^ j) := by
        have : B < 2 ^ j * 2 := by rw [← Nat.pow_succ]; exact hB
        show B / 2 < 2 ^ j
        omega
      clear hB
      have hxa : bits .xor .i64 (X : Int) (A : Int) = ((X ^^^ A : Nat) : Int) := xor_i64 X A (by omega) (by omega)
      have hxs : bits .xor .i64 (2 * (A : Int)) 285 = (((2 * A) ^^^ 285 : Nat) : Int) := by
        have := xor_i64 (2 * A) 285 (by omega) (by omega)
        simpa using this
      have hlt : Hid (X ^^^ A < 256) := Gf.xor_lt hX hA
      have hdl : Hid (Gf.dbl A < 256) := Gf.dbl_lt hA
      by_cases ho : B % 2 = 1
      · have ho' : ((B : Int) % 2 == 1) = true := by simp; omega
        by_cases hg : 255 < 2 * A
        · have hg' : 255 < 2 * (A : Int) := by omega
          have hd : Hid (Gf.dbl A = (2 * A) ^^^ 285) := by show Gf.dbl A = _; simp [Gf.dbl, hg]
          go_wp2
          go_round
          case rel => exact ⟨Gf.dbl A, B / 2, X ^^^ A, j, hdl.out, hlt.out, by omega, hB2.out, by have h := HP.out; rw [pea_step, if_pos ho] at h; exact h, by rw [hd.out], by go_num, rfl⟩
          case measure => simp [intOf]; omega
        · have hg' : ¬ 255 < 2 * (A : Int) := by omega
          have hd : Hid (Gf.dbl A = 2 * A) := by show Gf.dbl A = _; simp [Gf.dbl, hg]
          go_wp2
          go_round
          case rel => exact ⟨Gf.dbl A, B / 2, X ^^^ A, j, hdl.out, hlt.out, by omega, hB2.out, by have h := HP.out; rw [pea_step, if_pos ho] at h; exact h, by rw [hd.out]; go_num, by go_num, rfl⟩
          case measure => simp [intOf]; omega
      · have ho' : ((B : Int) % 2 == 1) = false := by simp; omega
        by_cases hg : 255 < 2 * A
        · have hg' : 255 < 2 * (A : Int) := by omega
          have hd : Hid (Gf.dbl A = (2 * A) ^^^ 285) := by show Gf.dbl A = _; simp [Gf.dbl, hg]
          go_wp2
          go_round
          case rel => exact ⟨Gf.dbl A, B / 2, X, j, hdl.out, hX, by omega, hB2.out, by have h := HP.out; rw [pea_step, if_neg ho] at h; exact h, by rw [hd.out], by go_num, rfl⟩
          case measure => simp [intOf]; omega
        · have hg' : ¬ 255 < 2 * (A : Int) := by omega
          have hd : Hid (Gf.dbl A = 2 * A) := by show Gf.dbl A = _; simp [Gf.dbl, hg]
          go_wp2
          go_round
          case rel => exact ⟨Gf.dbl A, B / 2, X, j, hdl.out, hX, by omega, hB2.out, by have h := HP.out; rw [pea_step, if_neg ho] at h; exact h, by rw [hd.out]; go_num, by go_num, rfl⟩
          case measure => simp [intOf]; omega

set_option maxHeartbeats 400000 in
theorem sMul_any (a b : Int) (w : World) : Calls Try.prog 112 #[.int .i64 a, .int .i64 b] w fun e w' => e = .returned (.int .i64 (mulI a b)) ∧ w' = w := by
  by_cases ha : isB a = true
  · by_cases hb : isB b = true
    · obtain ⟨A, hA, rfl⟩ := isB_nat ha
      obtain ⟨B, hB, rfl⟩ := isB_nat hb
      refine (sMul_nat A B w hA hB).mono ?_
      rintro e w' ⟨rfl, rfl⟩
      exact ⟨ret_int (by simp [mulI, ha, hb]), rfl⟩
    · have hb' : isB b = false := by simpa using hb
      go_enter Try.func112, Try.ntmps112
      go_wp2_with (go_at_call 51; refine (sIs_any _ _).mono ?_; rintro e w' ⟨rfl, rfl⟩)
      go_ret
      exact ⟨ret_int (by simp [mulI, hb]), rfl⟩
  · have ha' : isB a = false := by simpa using ha
    go_enter Try.func112, Try.ntmps112
    go_wp2_with (go_at_call 51; refine (sIs_any _ _).mono ?_; rintro e w' ⟨rfl, rfl⟩)
    go_ret
    exact ⟨ret_int (by simp [mulI, ha]), rfl⟩

set_option maxHeartbeats 1000000 in
theorem sPow_nat (a n : Nat) (w : World) (ha : a < 256) (hn : n ≤ 1000000) :
    Calls Try.prog 111 #[.int .i64 (a : Int), .int .i64 (n : Int)] w fun e w' => e = .returned (.int .i64 (Gf.gpow a n : Nat)) ∧ w' = w := by
  have ia := isB_ofNat ha
  have ib : inB (n : Int) 0 1000000 = true := by simp [inB]; omega
  go_enter Try.func111, Try.ntmps111
  go_wp2_with (first | (go_at_call 51; refine (sIs_any _ _).mono ?_; rintro e w' ⟨rfl, rfl⟩) | (go_at_call 45; refine (sIn_any _ _ _ _).mono ?_; rintro e w' ⟨rfl, rfl⟩))
  go_loop [0, 1, 5] (fun p q r => ∃ A N X : Nat, A < 256 ∧ X < 256 ∧ N ≤ 1000000 ∧ Hid (Gf.mul X (Gf.gpow A N) = Gf.gpow a n) ∧ p = .int .i64 A ∧ q = .int .i64 N ∧ r = .int .i64 X) (fun _ q _ => (intOf q).toNat)
  case atStart => exact ⟨a, n, 1, ha, by omega, hn, Gf.one_mul (Gf.gpow_lt _ _), rfl, rfl, rfl⟩
  case round =>
    obtain ⟨A, N, X, hA, hX, hN, HP, rfl, rfl, rfl⟩ := hrel
    clear ia ib
    by_cases hz : N = 0
    · subst hz
      go_wp2
      go_ret
      exact ⟨ret_int (by rw [← HP.out, Gf.gpow_zero, Gf.mul_one hX]), rfl⟩
    · have hpos : 0 < (N : Int) := by omega
      have hr : Hid (Gf.mul (if N % 2 = 1 then Gf.mul X A else X) (Gf.gpow (Gf.mul A A) (N / 2)) = Gf.gpow a n) := by
        show _ = _
        rw [Gf.gpow_round hA hX (by omega)]; exact HP.out
      have h1 : Hid (Gf.mul A A < 256) := Gf.mul_lt hA hA
      have h2 : Hid (Gf.mul X A < 256) := Gf.mul_lt hX hA
      by_cases ho : N % 2 = 1
      · have ho' : ((N : Int) % 2 == 1) = true := by simp; omega
        go_wp2_with fail
        refine (sMul_nat X A _ hX hA).mono ?_
        rintro e w1 ⟨rfl, rfl⟩
        go_wp2_with fail
        refine (sMul_nat A A _ hA hA).mono ?_
        rintro e w1 ⟨rfl, rfl⟩
        go_wp2
        go_round
        case rel => exact ⟨Gf.mul A A, N / 2, Gf.mul X A, h1.out, h2.out, by omega, by have h := hr.out; rw [if_pos ho] at h; exact h, rfl, by go_num, rfl⟩
        case measure => simp [intOf]; omega
      · have ho' : ((N : Int) % 2 == 1) = false := by simp; omega
        go_wp2_with fail
        refine (sMul_nat A A _ hA hA).mono ?_
        rintro e w1 ⟨rfl, rfl⟩
        go_wp2
        go_round
        case rel => exact ⟨Gf.mul A A, N / 2, X, h1.out, hX, by omega, by have h := hr.out; rw [if_neg ho] at h; exact h, rfl, by go_num, rfl⟩
        case measure => simp [intOf]; omega

set_option maxHeartbeats 400000 in
theorem sPow_any (a n : Int) (w : World) : Calls Try.prog 111 #[.int .i64 a, .int .i64 n] w fun e w' => e = .returned (.int .i64 (powI a n)) ∧ w' = w := by
  by_cases ha : isB a = true
  · by_cases hb : inB n 0 1000000 = true
    · obtain ⟨A, hA, rfl⟩ := isB_nat ha
      simp [inB] at hb
      obtain ⟨M, rfl⟩ := Int.eq_ofNat_of_zero_le hb.1
      refine (sPow_nat A M w hA (by omega)).mono ?_
      rintro e w' ⟨rfl, rfl⟩
      exact ⟨ret_int (by simp only [powI]; rw [if_pos ⟨ha, by omega, by omega⟩]; simp), rfl⟩
    · have hb' : inB n 0 1000000 = false := by simpa using hb
      have hb2 : ¬ (0 ≤ n ∧ n ≤ 1000000) := by simpa [inB] using hb
      go_enter Try.func111, Try.ntmps111
      go_wp2_with (first | (go_at_call 51; refine (sIs_any _ _).mono ?_; rintro e w' ⟨rfl, rfl⟩) | (go_at_call 45; refine (sIn_any _ _ _ _).mono ?_; rintro e w' ⟨rfl, rfl⟩))
      go_ret
      exact ⟨ret_int (by simp only [powI]; rw [if_neg (fun h => hb2 h.2)]), rfl⟩
  · have ha' : isB a = false := by simpa using ha
    go_enter Try.func111, Try.ntmps111
    go_wp2_with (first | (go_at_call 51; refine (sIs_any _ _).mono ?_; rintro e w' ⟨rfl, rfl⟩) | (go_at_call 45; refine (sIn_any _ _ _ _).mono ?_; rintro e w' ⟨rfl, rfl⟩))
    go_ret
    exact ⟨ret_int (by simp [powI, ha]), rfl⟩

set_option maxHeartbeats 400000 in
theorem sInv_any (a : Int) (w : World) : Calls Try.prog 93 #[.int .i64 a] w fun e w' => e = .returned (.int .i64 (invI a)) ∧ w' = w := by
  by_cases h : 1 ≤ a ∧ a ≤ 255
  · have hi : inB a 1 255 = true := by simp [inB, h]
    have hv : Hid (powI a 254 = invI a) := by
      show _ = _
      simp only [powI, invI]
      rw [if_pos ⟨by simp [isB]; omega, by omega, by omega⟩, if_pos h, show Int.toNat 254 = 254 from rfl, Gf.gpow_inv (by omega) (by omega)]
    go_enter Try.func93, Try.ntmps93
    go_wp2_with (first | (go_at_call 45; refine (sIn_any _ _ _ _).mono ?_; rintro e w' ⟨rfl, rfl⟩) | (go_at_call 111; refine (sPow_any _ _ _).mono ?_; rintro e w' ⟨rfl, rfl⟩))
    go_ret
    exact ⟨ret_int hv.out, rfl⟩
  · have hi : inB a 1 255 = false := by simp [inB]; omega
    go_enter Try.func93, Try.ntmps93
    go_wp2_with (go_at_call 45; refine (sIn_any _ _ _ _).mono ?_; rintro e w' ⟨rfl, rfl⟩)
    go_ret
    exact ⟨ret_int (by simp only [invI]; rw [if_neg h]), rfl⟩

theorem expI_nat {k : Nat} (h : k < 255) : expI (k : Int) = ((Gf.ex k : Nat) : Int) := by
  unfold expI
  congr 2
  omega

end Go.Proofs.Ytahgdbmilflcmaa
