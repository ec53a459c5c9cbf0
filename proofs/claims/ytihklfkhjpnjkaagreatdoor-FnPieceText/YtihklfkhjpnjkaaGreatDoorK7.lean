import Derived.Test.YtihklfkhjpnjkaaGreatDoorK6
import Derived.Test.YtihklfkhjpnjkaaGreatDoorK1
import Derived.Lib.ItoaNum
set_option maxHeartbeats 8000000
set_option maxRecDepth 2000
open Go.ChangeShapes Go.WideShapes Go.ChangeAt Go.RowKit
namespace Go.Proofs.YtihklfkhjpnjkaaGreatDoor
def its (n : Int) : ByteArray := ⟨(Lib.itoa n).toArray⟩
def dd (u : Nat) : List UInt8 := if u = 0 then [] else Lib.decDigits u
theorem dd_step {u : Nat} (h0 : u ≠ 0) : dd u = dd (u / 10) ++ [UInt8.ofNat (48 + u % 10)] := by
 unfold dd
 rw [if_neg h0, Lib.decDigits]
 by_cases h : u < 10
 ·rw [dif_pos h, if_pos (by omega), show u % 10 = u by omega]
  rfl
 ·rw [dif_neg h, if_neg (by omega)]
theorem dd_len (k : Nat) : ∀ u, u < 10 ^ k → (dd u).length ≤ k := by
 induction k with
 | zero => intro u hu; obtain rfl : u = 0 := by omega
           exact Nat.le_refl _
 | succ k ih =>
  intro u hu
  by_cases h0 : u = 0
  ·subst h0; exact Nat.zero_le _
  ·rw [dd_step h0, List.length_append]
   have := ih (u / 10) (by rw [Nat.pow_succ] at hu; omega)
   show (dd (u / 10)).length + 1 ≤ k + 1
   omega
theorem dsub10 (d : Nat) (h : d < 10) : (⟨#[48, 49, 50, 51, 52, 53, 54, 55, 56, 57]⟩ : ByteArray).extract d (d + 1) = ⟨#[UInt8.ofNat (48 + d)]⟩ := by
 match d, h with
 | 0, _ => decide +kernel
 | 1, _ => decide +kernel
 | 2, _ => decide +kernel
 | 3, _ => decide +kernel
 | 4, _ => decide +kernel
 | 5, _ => decide +kernel
 | 6, _ => decide +kernel
 | 7, _ => decide +kernel
 | 8, _ => decide +kernel
 | 9, _ => decide +kernel
theorem its_size (n : Int) (h1 : -9223372036854775808 ≤ n) (h2 : n ≤ 9223372036854775807) : (its n).size ≤ 21 ∧ 1 ≤ (its n).size := by
 have key : ∀ u : Nat, u ≤ 9223372036854775808 → (Lib.decDigits u).length ≤ 20 ∧ 1 ≤ (Lib.decDigits u).length := fun u hu => by
  by_cases h0 : u = 0
  ·subst h0
   rw [Lib.decDigits_one (by omega)]
   decide
  ·have e : dd u = Lib.decDigits u := if_neg h0
   rw [← e]
   refine ⟨dd_len 20 u (by omega), ?_⟩
   rw [dd_step h0, List.length_append]
   simp
 unfold its Lib.itoa
 show (List.toArray _).size ≤ 21 ∧ 1 ≤ (List.toArray _).size
 rw [List.size_toArray]
 by_cases hn : n < 0
 ·rw [if_pos hn]
  have := key n.natAbs (by omega)
  simp only [List.length_cons]
  omega
 ·rw [if_neg hn]
  have := key n.toNat (by omega)
  omega
theorem sDecI_any (n : Int) (w : World) (hn1 : -9223372036854775808 ≤ n) (hn2 : n ≤ 9223372036854775807) :
  Calls Tryz.prog 58 #[.int .i64 n] w fun e w' => e = .returned (.string (its n)) ∧ w' = w := by
 by_cases h0 : n = 0
 ·subst h0
  have HE : Hid (its 0 = ⟨#[48]⟩) := by show _ = _; decide +kernel
  rw [HE.out]
  go_enter Tryz.func58, Tryz.ntmps58
  go_wp2
  go_ret
  exact ⟨rfl, rfl⟩
 have h0' : (n == 0) = false := by simpa using h0
 by_cases hneg : n < 0
 ·obtain ⟨N, HN⟩ : ∃ N : Nat, Hid (n = -(N : Int) ∧ N ≠ 0 ∧ N ≤ 9223372036854775808) := ⟨n.natAbs, by omega, by omega, by omega⟩
  have HI : Hid (its n = (⟨#[45]⟩ : ByteArray) ++ ⟨(dd N).toArray⟩) := by
   show _ = _
   unfold its Lib.itoa dd
   rw [if_pos hneg, if_neg HN.out.2.1, show n.natAbs = N by have := HN.out.1; omega]
   rfl
  rw [HI.out]
  have hl := dd_len 20 N (by have := HN.out.2.2; omega)
  go_enter Tryz.func58, Tryz.ntmps58
  go_wp2
  go_loop [3, 4, 5] (fun o p d => ∃ (M : Nat) (S : ByteArray), M ≤ 9223372036854775808 ∧ S.size ≤ 20 ∧ p = .int .i64 (-(M : Int)) ∧ o = .string S ∧ Hid (dd M ++ S.data.toList = dd N)) (fun _ p _ => (-(intOf p)).toNat)
  case atStart => exact ⟨N, ByteArray.empty, HN.out.2.2, by decide, by rw [HN.out.1], rfl, by show dd N ++ [] = dd N; rw [List.append_nil]⟩
  case round =>
   obtain ⟨M, S, hM, hS, rfl, rfl, HD⟩ := hrel
   by_cases hM0 : M = 0
   ·subst hM0
    have HE : Hid (S = ⟨(dd N).toArray⟩) := by
     show S = _
     have h1 : S.data.toList = dd N := HD.out
     rw [← h1]
    clear HD HN HI hl
    have hs1 : (⟨#[45]⟩ : ByteArray).size = 1 := rfl
    go_wp2
    go_ret
    exact ⟨by rw [← HE.out]; rfl, rfl⟩
   ·have hM0' : ((-(M : Int)) != 0) = true := by simp; omega
    have HS : Hid (dd M = dd (M / 10) ++ [UInt8.ofNat (48 + M % 10)]) := dd_step hM0
    have hds := dsub10 (M % 10) (by omega)
    obtain ⟨c, hc⟩ : ∃ c, UInt8.ofNat (48 + M % 10) = c := ⟨_, rfl⟩
    obtain ⟨r, hr⟩ : ∃ r, M % 10 = r := ⟨_, rfl⟩
    obtain ⟨q, hq⟩ : ∃ r, M / 10 = r := ⟨_, rfl⟩
    rw [hc, hr] at hds
    have et : (-(M : Int)).tmod 10 = -(r : Int) := by rw [Int.neg_tmod, Int.tmod_eq_emod_of_nonneg (by omega)]; omega
    have eq : (-(M : Int)).tdiv 10 = -(q : Int) := by rw [Int.neg_tdiv, Int.tdiv_eq_ediv_of_nonneg (by omega)]; omega
    have hsz : (⟨#[c]⟩ ++ S : ByteArray).size = S.size + 1 := by rw [ByteArray.size_append]; show 1 + _ = _; omega
    have HNx : Hid (dd q ++ (⟨#[c]⟩ ++ S : ByteArray).data.toList = dd N) := by
     show _ = _
     rw [← HD.out, HS.out, hc, hq, ByteArray.data_append, Array.toList_append, List.append_assoc]
    have hS3 : S.size + 1 ≤ 20 := by
     have h1 := congrArg List.length HNx.out
     rw [List.length_append] at h1
     have h3 : (⟨#[c]⟩ ++ S : ByteArray).data.toList.length = S.size + 1 := hsz
     omega
    have hr10 : r < 10 := by omega
    have hqM : q < M := by omega
    have e1 : IntKind.i64.wrap (-(q : Int)) = -(q : Int) := by rw [IntKind.wrap_i64]; omega
    have e2 : IntKind.i64.wrap (-(r : Int)) = -(r : Int) := by rw [IntKind.wrap_i64]; omega
    have e3 : IntKind.i64.wrap (r : Int) = (r : Int) := by rw [IntKind.wrap_i64]; omega
    clear hc HD HS hr hq hl
    by_cases hr0 : r = 0
    ·subst hr0
     go_wp2
     go_round
     case rel => exact ⟨q, _, by omega, by rw [hsz]; exact hS3, rfl, rfl, HNx.out⟩
     case measure => simp [intOf] <;> omega
    ·have hrn : -(r : Int) < 0 := by omega
     go_wp2
     go_round
     case rel => exact ⟨q, _, by omega, by rw [hsz]; exact hS3, rfl, rfl, HNx.out⟩
     case measure => simp [intOf] <;> omega
 ·obtain ⟨N, HN⟩ : ∃ N : Nat, Hid (n = (N : Int) ∧ N ≠ 0 ∧ N ≤ 9223372036854775807) := ⟨n.toNat, by omega, by omega, by omega⟩
  have HI : Hid (its n = ⟨(dd N).toArray⟩) := by
   show _ = _
   unfold its Lib.itoa dd
   rw [if_neg hneg, if_neg HN.out.2.1, show n.toNat = N by have := HN.out.1; omega]
  rw [HI.out]
  have hl := dd_len 20 N (by have := HN.out.2.2; omega)
  go_enter Tryz.func58, Tryz.ntmps58
  go_wp2
  go_loop [3, 4, 5] (fun o p d => ∃ (M : Nat) (S : ByteArray), M ≤ 9223372036854775807 ∧ S.size ≤ 20 ∧ p = .int .i64 (M : Int) ∧ o = .string S ∧ Hid (dd M ++ S.data.toList = dd N)) (fun _ p _ => (intOf p).toNat)
  case atStart => exact ⟨N, ByteArray.empty, HN.out.2.2, by decide, by rw [HN.out.1], rfl, by show dd N ++ [] = dd N; rw [List.append_nil]⟩
  case round =>
   obtain ⟨M, S, hM, hS, rfl, rfl, HD⟩ := hrel
   by_cases hM0 : M = 0
   ·subst hM0
    have HE : Hid (S = ⟨(dd N).toArray⟩) := by
     show S = _
     have h1 : S.data.toList = dd N := HD.out
     rw [← h1]
    clear HD HN HI hl
    go_wp2
    go_ret
    exact ⟨by rw [← HE.out]; rfl, rfl⟩
   ·have hM0' : ((M : Int) != 0) = true := by simp; omega
    have HS : Hid (dd M = dd (M / 10) ++ [UInt8.ofNat (48 + M % 10)]) := dd_step hM0
    have hds := dsub10 (M % 10) (by omega)
    obtain ⟨c, hc⟩ : ∃ c, UInt8.ofNat (48 + M % 10) = c := ⟨_, rfl⟩
    rw [hc] at hds
    have hsz : (⟨#[c]⟩ ++ S : ByteArray).size = S.size + 1 := by rw [ByteArray.size_append]; show 1 + _ = _; omega
    have HNx : Hid (dd (M / 10) ++ (⟨#[c]⟩ ++ S : ByteArray).data.toList = dd N) := by
     show _ = _
     rw [← HD.out, HS.out, hc, ByteArray.data_append, Array.toList_append, List.append_assoc]
    have hS3 : S.size + 1 ≤ 20 := by
     have h1 := congrArg List.length HNx.out
     rw [List.length_append] at h1
     have h3 : (⟨#[c]⟩ ++ S : ByteArray).data.toList.length = S.size + 1 := hsz
     omega
    clear hc HD HS hl
    go_wp2
    go_round
    case rel => exact ⟨M / 10, _, by omega, by rw [hsz]; exact hS3, by go_num, rfl, HNx.out⟩
    case measure => simp [intOf] <;> omega
end Go.Proofs.YtihklfkhjpnjkaaGreatDoor
