/- Whether a text is a name, in the model. Conditions: a text of at most 2^20. -/
import Derived.Test.YtpomffkpjldloaaGreatI36
namespace Go.Proofs.YtpomffkpjldloaaGreat
set_option maxRecDepth 2000
open Go.ChangeShapes Go.WideShapes Go.ChangeAt Go.RowKit Go.Sort

set_option maxHeartbeats 2000000 in
theorem sName_any (s : ByteArray) (w : World) (hs : s.size ≤ 1048576) : Calls Tryz.prog 12 #[.string s] w fun e w' => e = .returned (.bool (nmB s)) ∧ w' = w := by
  have KI : Hid (∀ x a b W, Calls Tryz.prog 26 #[.int .i64 x, .int .i64 a, .int .i64 b] W fun e w' => e = .returned (.bool (inB x a b)) ∧ w' = W) := sIn_any
  obtain ⟨n, HN⟩ : ∃ x, Hid (s.size = x) := ⟨_, rfl⟩
  have HM : Hid (NmP s ↔ (∀ j, j < n → nbP (tat s j : Nat)) ∧ 1 ≤ n ∧ n ≤ 20) := by show _ ↔ _; unfold NmP; rw [HN.out]
  have hsn : (s.size : Int) = (n : Int) := by rw [HN.out]
  have hs' : n ≤ 1048576 := by rw [← HN.out]; exact hs
  clear hs
  go_enter Tryz.func12, Tryz.ntmps12
  go_wp2_with fail
  go_loopw [3] (fun vi wr => ∃ k : Nat, k ≤ n ∧ vi = .int .i64 (k : Int) ∧ wr = w ∧ Hid (∀ j, j < k → nbP (tat s j : Nat))) (fun vi _ => n - (intOf vi).toNat)
  case atStart => exact ⟨0, Nat.zero_le _, rfl, rfl, fun j hj => absurd hj (Nat.not_lt_zero _)⟩
  case round =>
    obtain ⟨k, hk, rfl, hw, HJ⟩ := hrel
    obtain rfl := hw.symm
    clear hw
    by_cases hlt : k < n
    · have hki : (k : Int) < (n : Int) := by omega
      have hks : k < s.size := by rw [HN.out]; exact hlt
      obtain ⟨x, HX⟩ : ∃ x : Nat, Hid (tat s k = x) := ⟨_, rfl⟩
      have hx8 : x < 256 := by rw [← HX.out]; exact tat_lt s k
      have hget : s[k].toNat = x := by rw [← HX.out]; exact (tat_in s k hks).symm
      have HYes : nbP (x : Int) → Hid (∀ j, j < k + 1 → nbP (tat s j : Nat)) := fun hx j hj => by
        by_cases e : j = k
        · subst e; rw [HX.out]; exact hx
        · exact HJ.out j (by omega)
      have HNo : ¬ nbP (x : Int) → Hid (nmB s = false) := fun hx => nmB_no fun h => hx (by have := (HM.out.1 h).1 k hlt; rw [HX.out] at this; exact this)
      by_cases h1 : 97 ≤ (x : Int) ∧ (x : Int) ≤ 122
      · have i1 : inB (x : Int) 97 122 = true := decide_eq_true h1
        have HJ' := HYes (.inl h1)
        clear h1 HYes HNo HJ
        go_wp2_with (go_at_call 26; refine Calls.mono (KI.out _ _ _ _) ?_; rintro e w' ⟨rfl, hw⟩; obtain rfl := hw.symm; clear hw)
        go_roundw
        case rel => exact ⟨k + 1, by omega, by go_num, trivial, HJ'⟩
        case measure => simp [intOf]; omega
      have i1 : inB (x : Int) 97 122 = false := decide_eq_false h1
      by_cases h2 : 48 ≤ (x : Int) ∧ (x : Int) ≤ 57
      · have i2 : inB (x : Int) 48 57 = true := decide_eq_true h2
        have HJ' := HYes (.inr (.inl h2))
        clear h1 h2 HYes HNo HJ
        go_wp2_with (go_at_call 26; refine Calls.mono (KI.out _ _ _ _) ?_; rintro e w' ⟨rfl, hw⟩; obtain rfl := hw.symm; clear hw)
        go_roundw
        case rel => exact ⟨k + 1, by omega, by go_num, trivial, HJ'⟩
        case measure => simp [intOf]; omega
      have i2 : inB (x : Int) 48 57 = false := decide_eq_false h2
      by_cases h3 : x = 46
      · have HJ' := HYes (.inr (.inr (by omega)))
        have h46 : ((x : Int) != 46) = false := by subst h3; rfl
        clear h1 h2 HYes HNo HJ h3
        go_wp2_with (go_at_call 26; refine Calls.mono (KI.out _ _ _ _) ?_; rintro e w' ⟨rfl, hw⟩; obtain rfl := hw.symm; clear hw)
        go_roundw
        case rel => exact ⟨k + 1, by omega, by go_num, trivial, HJ'⟩
        case measure => simp [intOf]; omega
      · have HR := HNo (by unfold nbP; omega)
        have h46 : ((x : Int) != 46) = true := by simp; omega
        clear h1 h2 HYes HNo HJ h3
        go_wp2_with (go_at_call 26; refine Calls.mono (KI.out _ _ _ _) ?_; rintro e w' ⟨rfl, hw⟩; obtain rfl := hw.symm; clear hw)
        go_ret
        exact ⟨ret_bool HR.out.symm, rfl⟩
    · obtain rfl : k = n := by omega
      have K3 : Hid _ := KI.out (k : Int) 1 20 w
      have HE : Hid (inB (k : Int) 1 20 = nmB s) := by
        show _ = _
        by_cases h : 1 ≤ (k : Int) ∧ (k : Int) ≤ 20
        · rw [nmB_yes (HM.out.2 ⟨HJ.out, by omega, by omega⟩)]; exact decide_eq_true h
        · rw [nmB_no (fun h' => by have := (HM.out.1 h').2; omega)]; exact decide_eq_false h
      rw [HE.out] at K3
      clear hlt HJ
      go_wp2_with (go_at_call 26; refine Calls.mono K3.out ?_; rintro e w' ⟨rfl, hw⟩; obtain rfl := hw.symm; clear hw)
      go_ret
      exact ⟨rfl, rfl⟩
end Go.Proofs.YtpomffkpjldloaaGreat
