/- How many texts a proof has, in the model: at every two numbers. No condition. -/
import Derived.Test.YtahgdbmilflcmaaTLen
namespace Go.Proofs.Ytahgdbmilflcmaa
set_option maxRecDepth 2000
open Go.ChangeShapes Go.WideShapes Go.ChangeAt Go.RowKit
open Gt (nb hf pl)

/-- What the walk reckons of a place and a number. -/
theorem up_nums (p s : Nat) (hp : p < s) (hs : s ≤ 64) : IntKind.i64.wrap ((p : Int) + 1) = (p : Int) + 1 ∧ (p : Int).tmod 2 = (p : Int) % 2 ∧ IntKind.i64.wrap (2 * ((p : Int) % 2)) = 2 * ((p : Int) % 2) ∧ IntKind.i64.wrap ((p : Int) + 1 - 2 * ((p : Int) % 2)) = ((nb p : Nat) : Int) ∧
    (p : Int).tdiv 2 = ((p / 2 : Nat) : Int) ∧ IntKind.i64.wrap ((p / 2 : Nat) : Int) = ((p / 2 : Nat) : Int) ∧ IntKind.i64.wrap ((s : Int) + 1) = (s : Int) + 1 ∧ ((s : Int) + 1).tdiv 2 = ((hf s : Nat) : Int) ∧ IntKind.i64.wrap ((hf s : Nat) : Int) = ((hf s : Nat) : Int) := by
  refine ⟨by rw [IntKind.wrap_i64]; omega, by rw [Int.tmod_eq_emod_of_nonneg (by omega)], by rw [IntKind.wrap_i64]; omega, ?_, by rw [Int.tdiv_eq_ediv_of_nonneg (by omega)]; omega, by rw [IntKind.wrap_i64]; omega, by rw [IntKind.wrap_i64]; omega, by rw [Int.tdiv_eq_ediv_of_nonneg (by omega)]; unfold hf; omega, by unfold hf; rw [IntKind.wrap_i64]; omega⟩
  rw [Gt.nb_model, IntKind.wrap_i64]
  have : nb p ≤ p + 1 := by unfold nb; split <;> omega
  omega
theorem inB_false {x a b : Int} (h : ¬ (a ≤ x ∧ x ≤ b)) : inB x a b = false := by unfold inB; simpa using h
theorem inB_true {x a b : Int} (h : a ≤ x ∧ x ≤ b) : inB x a b = true := by unfold inB; simpa using h

set_option maxHeartbeats 1000000 in
theorem sProofLen_any (i n : Int) (w : World) : Calls Try.prog 17 #[.int .i64 i, .int .i64 n] w fun e w' => e = .returned (.int .i64 (plI i n)) ∧ w' = w := by
  by_cases hn : 1 ≤ n ∧ n ≤ 64
  · have KN : inB n 1 64 = true := inB_true hn
    have hw1 : IntKind.i64.wrap (n - 1) = n - 1 := by rw [IntKind.wrap_i64]; omega
    by_cases hi : 0 ≤ i ∧ i ≤ n - 1
    · have KI : inB i 0 (n - 1) = true := inB_true hi
      obtain ⟨i', rfl⟩ : ∃ i' : Nat, i = (i' : Int) := ⟨i.toNat, by omega⟩
      obtain ⟨n', rfl⟩ : ∃ n' : Nat, n = (n' : Int) := ⟨n.toNat, by omega⟩
      have hin : inT (i' : Int) (n' : Int) = true := by simp [inT]; omega
      have e : plI (i' : Int) (n' : Int) = ((pl i' n' : Nat) : Int) := by unfold plI; rw [if_pos hin]; simp
      rw [e]
      obtain ⟨N, hN⟩ : ∃ N, pl i' n' = N := ⟨_, rfl⟩
      have hN6 : N ≤ 6 := by rw [← hN]; exact Gt.pl_le 6 _ _ (by omega)
      have HN : Hid (pl i' n' = N) := hN
      rw [hN]
      clear hin e hN
      go_enter Try.func17, Try.ntmps17
      go_wp2_with (go_at_call 45; refine (sIn_any _ _ _ _).mono ?_; rintro e w' ⟨rfl, hw⟩; obtain rfl := hw.symm)
      go_loop [0, 1, 5] (fun vi vn vc => ∃ p s c : Nat, p < s ∧ s ≤ 64 ∧ c ≤ 6 ∧ Hid (c + pl p s = N) ∧ vi = .int .i64 (p : Int) ∧ vn = .int .i64 (s : Int) ∧ vc = .int .i64 (c : Int)) (fun _ vn _ => (intOf vn).toNat)
      case atStart => exact ⟨i', n', 0, by omega, by omega, by omega, by show 0 + _ = _; rw [HN.out]; omega, rfl, rfl, rfl⟩
      case round =>
        obtain ⟨p, s, c, hp, hs, hc, HC, rfl, rfl, rfl⟩ := hrel
        clear hw1 hi hn
        by_cases h1 : s ≤ 1
        · have h1' : ¬ (1 : Int) < (s : Int) := by omega
          have HE : Hid (c = N) := by have := HC.out; rw [Gt.pl_one p h1] at this; show _ = _; omega
          go_wp2
          go_ret
          exact ⟨by rw [← HE.out]; rfl, rfl⟩
        · have h1' : (1 : Int) < (s : Int) := by omega
          obtain ⟨u1, u2, u3, u4, u5, u6, u7, u8, u9⟩ := up_nums p s hp hs
          have hlt : p / 2 < hf s ∧ hf s < s := by unfold hf; omega
          by_cases hb : nb p < s
          · have HC2 : Hid (c + 1 + pl (p / 2) (hf s) = N) := by have := HC.out; rw [Gt.pl_yes p h1 hb] at this; show _ = _; omega
            have hb' : ((nb p : Nat) : Int) < (s : Int) := by omega
            have hc2 : c + 1 ≤ 6 := by have := HC2.out; omega
            generalize nb p = q at u4 hb'
            generalize p / 2 = p' at u5 u6 hlt HC2
            generalize hf s = s' at u8 u9 hlt HC2
            go_wp2
            go_round
            case rel => exact ⟨p', s', c + 1, by omega, by omega, hc2, HC2, rfl, rfl, by go_num⟩
            case measure => simp [intOf]; omega
          · have HC2 : Hid (c + pl (p / 2) (hf s) = N) := by have := HC.out; rw [Gt.pl_no p h1 hb] at this; exact this
            have hb' : ¬ ((nb p : Nat) : Int) < (s : Int) := by omega
            generalize nb p = q at u4 hb'
            generalize p / 2 = p' at u5 u6 hlt HC2
            generalize hf s = s' at u8 u9 hlt HC2
            go_wp2
            go_round
            case rel => exact ⟨p', s', c, by omega, by omega, hc, HC2, rfl, rfl, rfl⟩
            case measure => simp [intOf]; omega
    · have KI : inB i 0 (n - 1) = false := inB_false hi
      have e : plI i n = -1 := by unfold plI; rw [show inT i n = false by simp [inT]; omega]; rfl
      rw [e]
      clear e
      go_enter Try.func17, Try.ntmps17
      go_wp2_with (go_at_call 45; refine (sIn_any _ _ _ _).mono ?_; rintro e w' ⟨rfl, hw⟩; obtain rfl := hw.symm)
      go_ret
      exact ⟨rfl, rfl⟩
  · have KN : inB n 1 64 = false := inB_false hn
    have e : plI i n = -1 := by unfold plI; rw [show inT i n = false by simp [inT]; omega]; rfl
    rw [e]
    clear e
    go_enter Try.func17, Try.ntmps17
    go_wp2_with (go_at_call 45; refine (sIn_any _ _ _ _).mono ?_; rintro e w' ⟨rfl, hw⟩; obtain rfl := hw.symm)
    go_ret
    exact ⟨rfl, rfl⟩
end Go.Proofs.Ytahgdbmilflcmaa
