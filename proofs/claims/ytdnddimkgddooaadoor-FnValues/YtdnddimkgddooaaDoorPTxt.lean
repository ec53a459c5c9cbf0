/- The decimal numerals of byte numbers, and the model's text of a polynomial. -/
import Derived.Test.YtdnddimkgddooaaDoorSField
import Derived.Test.YtdnddimkgddooaaDoorFrame
import Derived.Lib.ItoaNum
namespace Go.Proofs.YtdnddimkgddooaaDoor
open Go.ChangeShapes Go.WideShapes Go.ChangeAt Go.RowKit

def dz (M : Nat) : List UInt8 := if M = 0 then [] else if M < 10 then [UInt8.ofNat (48 + M)] else if M < 100 then [UInt8.ofNat (48 + M / 10), UInt8.ofNat (48 + M % 10)] else [UInt8.ofNat (48 + M / 100), UInt8.ofNat (48 + M / 10 % 10), UInt8.ofNat (48 + M % 10)]
def dgt (n : Nat) : List UInt8 := if n = 0 then [48] else dz n
def decS (n : Nat) : ByteArray := ⟨(dgt n).toArray⟩
theorem dz_step {M : Nat} (h : M < 256) (h0 : M ≠ 0) : dz M = dz (M / 10) ++ [UInt8.ofNat (48 + M % 10)] := by
  have hc : (Gf.allB 256 fun M => M == 0 || dz M == dz (M / 10) ++ [UInt8.ofNat (48 + M % 10)]) = true := by decide +kernel
  have := Gf.allB_of hc h
  simpa [h0] using this

theorem dz_len (n : Nat) : (dz n).length ≤ 3 := by unfold dz; split; simp; split; simp; split <;> simp
theorem dsub (d : Nat) (h : d < 10) : (⟨#[48, 49, 50, 51, 52, 53, 54, 55, 56, 57]⟩ : ByteArray).extract d (d + 1) = ⟨#[UInt8.ofNat (48 + d)]⟩ := by
  match d, h with
  | 0, _ => decide +kernel
  | 1, _ => decide +kernel
  | 2, _ => decide +kernel
  | 3, _ => decide +kernel
  | 4, _ => decide +kernel
  | 5, _ => decide +kernel
  | 6, _ => decide +kernel
  | 7, _ => decide +kernel
  | 8, _ => decide +kernel
  | 9, _ => decide +kernel
set_option maxRecDepth 100000 in
set_option maxHeartbeats 1000000 in
theorem sDec_nat (n : Nat) (w : World) (hn : n < 256) :
    Calls Tryd.prog 36 #[.int .i64 (n : Int)] w fun e w' => e = .returned (.string (decS n)) ∧ w' = w := by
  by_cases h0 : n = 0
  · subst h0
    go_enter Tryd.func36, Tryd.ntmps36
    go_wp2
    go_ret
    exact ⟨rfl, rfl⟩
  · have h0' : ((n : Int) == 0) = false := by simp; omega
    go_enter Tryd.func36, Tryd.ntmps36
    go_wp2
    go_loop [3, 4, 5] (fun o p d => ∃ (M : Nat) (S : ByteArray), M < 256 ∧ S.size ≤ 3 ∧ p = .int .i64 (M : Int) ∧ o = .string S ∧ Hid (dz M ++ S.data.toList = dz n)) (fun _ p _ => (intOf p).toNat)
    case atStart => exact ⟨n, ByteArray.empty, hn, by decide, rfl, rfl, by show dz n ++ [] = dz n; rw [List.append_nil]⟩
    case round =>
      obtain ⟨M, S, hM, hS, rfl, rfl, HD⟩ := hrel
      by_cases hM0 : M = 0
      · subst hM0
        have HE : Hid (S = decS n) := by
          show S = _
          have h1 : S.data.toList = dz n := HD.out
          have h2 : dgt n = dz n := by unfold dgt; rw [if_neg h0]
          unfold decS
          rw [h2, ← h1]
        go_wp2
        go_ret
        exact ⟨by rw [HE.out] <;> rfl, rfl⟩
      · have hM0' : ((M : Int) != 0) = true := by simp; omega
        have HS : Hid _ := dz_step hM hM0
        have hds := dsub (M % 10) (by omega)
        obtain ⟨c, hc⟩ : ∃ c, UInt8.ofNat (48 + M % 10) = c := ⟨_, rfl⟩
        rw [hc] at hds
        have hsz : (⟨#[c]⟩ ++ S : ByteArray).size = S.size + 1 := by rw [ByteArray.size_append]; show 1 + _ = _; omega
        have HN : Hid (dz (M / 10) ++ (⟨#[c]⟩ ++ S : ByteArray).data.toList = dz n) := by
          show _ = _
          rw [← HD.out, HS.out, hc, ByteArray.data_append, Array.toList_append, List.append_assoc]
        have hS3 : S.size + 1 ≤ 3 := by
          have h1 := congrArg List.length HN.out
          have h2 := dz_len n
          rw [List.length_append] at h1
          have h3 : (⟨#[c]⟩ ++ S : ByteArray).data.toList.length = S.size + 1 := hsz
          omega
        clear hc
        go_wp2
        go_round
        case rel => exact ⟨M / 10, _, by omega, by rw [hsz]; exact hS3, by go_num, rfl, HN.out⟩
        case measure => simp [intOf] <;> omega
end Go.Proofs.YtdnddimkgddooaaDoor
