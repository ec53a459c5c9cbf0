import Derived.Test.YtihklfkhjpnjkaaGreatDoorChecked
import Derived.Test.YtihklfkhjpnjkaaGreatDoorJ2
import Derived.Test.YtihklfkhjpnjkaaGreatDoorJ4
import Derived.Outline
import Derived.WalkSpells
import Derived.WalkLawsBesides
import Derived.Laws.BitsAllLaws
import Derived.Test.YtihklfkhjpnjkaaGreatDoorJ3
import Derived.Test.YtihklfkhjpnjkaaGreatDoorRows
import Derived.Test.YtihklfkhjpnjkaaGreatDoorJ1
import Derived.Laws.Shifts
import Derived.Laws.OwnMore
import Derived.OwnWalk
import Derived.Deep.QuietTactic
import Derived.BigQuiet
import Derived.Deep.RegionHeld3
import Derived.Lib.ItoaNum
import Derived.Laws.BytesArg
import Derived.Deep.AppendLies
set_option maxHeartbeats 8000000
set_option maxRecDepth 2000
open Go.ChangeShapes Go.WideShapes Go.ChangeAt Go.RowKit
namespace Go.Proofs.YtihklfkhjpnjkaaGreatDoor
theorem ret_int {k : IntKind} {a b : Int} (h : a = b) : Ending.returned (.int k a) = .returned (.int k b) := by rw [h]
theorem below2 {a b c : World} (h1 : Below a.heap.size a b) (h2 : Below b.heap.size b c) : Below a.heap.size a c :=
 h1.trans (h2.mono h1.size)
theorem ret_bool {a b : Bool} (h : a = b) : Ending.returned (.bool a) = .returned (.bool b) := by rw [h]
theorem xor_i64 (a b : Nat) (ha : a < 4294967296) (hb : b < 4294967296) : bits .xor .i64 (a : Int) (b : Int) = ((a ^^^ b : Nat) : Int) := by
 have hx : a ^^^ b < 2 ^ 32 := Nat.xor_lt_two_pow (by omega) (by omega)
 show IntKind.i64.wrap ((BitVec.ofInt 64 (a : Int) ^^^ BitVec.ofInt 64 (b : Int)).toNat : Int) = _
 rw [BitVec.toNat_xor, ofInt_u64 a (by omega), ofInt_u64 b (by omega), IntKind.wrap_i64]
 omega
def isB (a : Int) : Bool := decide (0 ≤ a ∧ a ≤ 255)
theorem isB_nat {a : Int} (h : isB a = true) : ∃ n : Nat, n < 256 ∧ a = (n : Int) := by
 simp [isB] at h
 exact ⟨a.toNat, by omega, by omega⟩
theorem isB_ofNat {n : Nat} (h : n < 256) : isB (n : Int) = true := by simp [isB]; omega
theorem isByte_any (a : Int) (w : World) : Calls Tryz.prog 48 #[.int .i64 a] w fun e w' => e = .returned (.bool (isB a)) ∧ w' = w := by
 go_enter Tryz.func48, Tryz.ntmps48
 go_wp2
 ·go_ret
  exact ⟨ret_bool (by simp [isB, *]), rfl⟩
 ·go_ret
  exact ⟨ret_bool (by simp [isB]; omega), rfl⟩
def inB (x a b : Int) : Bool := decide (a ≤ x ∧ x ≤ b)
theorem sIn_any (x a b : Int) (w : World) : Calls Tryz.prog 60 #[.int .i64 x, .int .i64 a, .int .i64 b] w fun e w' => e = .returned (.bool (inB x a b)) ∧ w' = w := by
 go_enter Tryz.func60, Tryz.ntmps60
 go_wp2
 ·go_ret
  exact ⟨ret_bool (by simp [inB, *]), rfl⟩
 ·go_ret
  exact ⟨ret_bool (by simp [inB]; omega), rfl⟩
theorem sIs_any (a : Int) (w : World) : Calls Tryz.prog 50 #[.int .i64 a] w fun e w' => e = .returned (.bool (isB a)) ∧ w' = w := by
 go_enter Tryz.func50, Tryz.ntmps50
 go_wp2_with fail
 refine (sIn_any _ _ _ _).mono ?_
 rintro e w1 ⟨rfl, rfl⟩
 go_wp2
 go_ret
 exact ⟨ret_bool rfl, rfl⟩
end Go.Proofs.YtihklfkhjpnjkaaGreatDoor
namespace Go.Proofs.YtihklfkhjpnjkaaGreatDoor
open Gs (U rolI)
theorem rotate_any (x : BitVec 64) (n : Int) (w : World) : Calls Tryz.prog 200 #[.int .u64 (U x), .int .i64 n] w fun e w' => e = .returned (.int .u64 (U (rolI x n))) ∧ w' = w := by
 obtain ⟨s, HS⟩ : ∃ s : Nat, Hid (s = (n % 64).toNat) := ⟨_, rfl⟩
 have hs64 : s < 64 := by have := HS.out; omega
 have ha : bits .and .u64 (IntKind.u64.wrap n) 63 = (s : Int) := by
  obtain ⟨m, hm⟩ : ∃ m : Nat, IntKind.u64.wrap n = (m : Int) := ⟨(IntKind.u64.wrap n).toNat, by rw [IntKind.wrap_u64]; omega⟩
  have hm2 := hm
  rw [IntKind.wrap_u64] at hm2
  rw [hm]
  have := bits_and_u64_nat m 63 (by omega) (by omega)
  rw [show ((63 : Nat) : Int) = 63 from rfl] at this
  rw [this, show (63 : Nat) = 2 ^ 6 - 1 from rfl, Nat.and_two_pow_sub_one_eq_mod]
  have := HS.out
  omega
 go_enter Tryz.func200, Tryz.ntmps200
 go_wp2
 go_ret
 refine ⟨ret_int ?_, rfl⟩
 rw [ Gs.U_shl, Gs.U_shr, Gs.U_or, Gs.rol_shifts _ _ hs64, HS.out]
 rfl
theorem roll_any (x : BitVec 64) (n : Int) (w : World) : Calls Tryz.prog 199 #[.int .u64 (U x), .int .i64 n] w fun e w' => e = .returned (.int .u64 (U (rolI x n))) ∧ w' = w := by
 go_enter Tryz.func199, Tryz.ntmps199
 go_wp2_with fail
 refine (rotate_any x n _).mono ?_
 rintro e w' ⟨rfl, hw⟩
 obtain rfl := hw.symm
 go_wp2
 go_ret
 exact ⟨rfl, rfl⟩
theorem tmod64 (n : Int) : n.tmod 64 = n % 64 ∨ n.tmod 64 = n % 64 - 64 ∧ n % 64 ≠ 0 ∧ n < 0 := by
 rw [Int.tmod_eq_emod]
 split
 ·omega
 ·simp only [show (64 : Int).natAbs = 64 from rfl]
  omega
theorem shl1 (x : BitVec 64) : IntKind.u64.wrap (U x * 2) = U (x <<< 1) := Gs.U_shl x 1
theorem shr63 (x : BitVec 64) : U x / (9223372036854775808 : Int) = U (x >>> 63) := Gs.U_shr x 63
theorem sRoll_any (x : BitVec 64) (n : Int) (w : World) : Calls Tryz.prog 185 #[.int .u64 (U x), .int .i64 n] w fun e w' => e = .returned (.int .u64 (U (rolI x n))) ∧ w' = w := by
 obtain ⟨r, HR⟩ : ∃ r : Nat, Hid (r = (n % 64).toNat) := ⟨_, rfl⟩
 have hr64 : r < 64 := by have := HR.out; omega
 by_cases hn : n.tmod 64 < 0
 ·have hr : n.tmod 64 + 64 = (r : Int) := by have := HR.out; have := tmod64 n; omega
  go_enter Tryz.func185, Tryz.ntmps185
  go_wp2
  go_loop [0, 6] (fun v i => ∃ k : Nat, k ≤ r ∧ i = .int .i64 k ∧ v = .int .u64 (U (Gs.rol x k))) (fun _ i => r - (intOf i).toNat)
  case atStart => exact ⟨0, Nat.zero_le _, rfl, by rw [Gs.rol_zero]⟩
  case round =>
   obtain ⟨k, hk, rfl, rfl⟩ := hrel
   by_cases hlt : k < r
   ·have hlti : (k : Int) < (r : Int) := by omega
    go_wp2
    exact ⟨⟨k + 1, by omega, by go_num, by rw [shl1, shr63, Gs.U_or, Gs.rol_one]⟩, by simp [intOf]; omega⟩
   ·have e : k = r := by omega
    subst e
    go_wp2
    go_ret
    have e2 : rolI x n = Gs.rol x k := by unfold rolI; rw [← HR.out]
    exact ⟨by rw [e2]; rfl, rfl⟩
 ·have hr : n.tmod 64 = (r : Int) := by have := HR.out; have := tmod64 n; omega
  go_enter Tryz.func185, Tryz.ntmps185
  go_wp2
  go_loop [0, 6] (fun v i => ∃ k : Nat, k ≤ r ∧ i = .int .i64 k ∧ v = .int .u64 (U (Gs.rol x k))) (fun _ i => r - (intOf i).toNat)
  case atStart => exact ⟨0, Nat.zero_le _, rfl, by rw [Gs.rol_zero]⟩
  case round =>
   obtain ⟨k, hk, rfl, rfl⟩ := hrel
   by_cases hlt : k < r
   ·have hlti : (k : Int) < (r : Int) := by omega
    go_wp2
    exact ⟨⟨k + 1, by omega, by go_num, by rw [shl1, shr63, Gs.U_or, Gs.rol_one]⟩, by simp [intOf]; omega⟩
   ·have e : k = r := by omega
    subst e
    go_wp2
    go_ret
    have e2 : rolI x n = Gs.rol x k := by unfold rolI; rw [← HR.out]
    exact ⟨by rw [e2]; rfl, rfl⟩
end Go.Proofs.YtihklfkhjpnjkaaGreatDoor
namespace Go.Proofs.YtihklfkhjpnjkaaGreatDoor
theorem ownsRow_below {w w' : World} {B e size n : Nat} {v : Value} {xs : List Value} (h : w.ownsRow B e size v n xs) (hb : Below w.heap.size w w') : w'.ownsRow B e size v n xs := by
 refine ⟨h.1, ?_⟩
 rcases h.2 with h' | ⟨g, cap, cur, h1, h2, h3, h4⟩
 ·exact .inl h'
 ·refine .inr ⟨g, cap, cur, h1, h2, ?_, h4⟩
  rw [hb.block g (Array.getElem?_eq_some_iff.1 h3).1]
  exact h3
theorem take_snoc (xs : List Int) (k : Nat) (h : k < xs.length) : xs.take (k + 1) = xs.take k ++ [xs.getD k 0] := by
 rw [List.take_succ_eq_append_getElem h]
 simp [h]
theorem Tryz.infoByte : (Tryz.prog.info? 5).map (fun i => (i.zero, i.size, i.bytes)) = some (some (.int .u8 0), 1, 1) := by kernel_rfl
theorem copied_set (d : IntKind) (zs : List Int) (n k : Nat) (hn : zs.length = n) (hk : k < n) :
  ((zs.take k ++ List.replicate (n - k) 0).map (Value.int d)).set k (.int d (zs.getD k 0)) = (zs.take (k + 1) ++ List.replicate (n - (k + 1)) 0).map (Value.int d) := by
 apply List.ext_getElem?
 intro j
 simp only [List.getElem?_set, List.getElem?_map, List.getElem?_append, List.length_take, List.length_map, List.length_append, List.length_replicate, List.getElem?_take, List.getElem?_replicate]
 by_cases h1 : k = j
 ·subst h1
  simp [hn, hk, show min k n = k by omega, show min (k + 1) n = k + 1 by omega, show k < k + (n - k) by omega]
 ·by_cases h2 : j < k
  ·simp [h1, h2, hn, show j < min k n by omega, show j < min (k + 1) n by omega, show j < k + 1 by omega]
  ·by_cases h3 : j < n
   ·simp [h1, hn, show ¬ j < min k n by omega, show ¬ j < min (k + 1) n by omega, show j - min k n < n - k by omega, show j - min (k + 1) n < n - (k + 1) by omega]
   ·simp [h1, hn, show ¬ j < min k n by omega, show ¬ j < min (k + 1) n by omega, show ¬ j - min k n < n - k by omega, show ¬ j - min (k + 1) n < n - (k + 1) by omega]
def its (n : Int) : ByteArray := ⟨(Lib.itoa n).toArray⟩
def dd (u : Nat) : List UInt8 := if u = 0 then [] else Lib.decDigits u
theorem dd_step {u : Nat} (h0 : u ≠ 0) : dd u = dd (u / 10) ++ [UInt8.ofNat (48 + u % 10)] := by
 unfold dd
 rw [if_neg h0, Lib.decDigits]
 by_cases h : u < 10
 ·rw [dif_pos h, if_pos (by omega), show u % 10 = u by omega]
  rfl
 ·rw [dif_neg h, if_neg (by omega)]
theorem dd_len (k : Nat) : ∀ u, u < 10 ^ k → (dd u).length ≤ k := by
 induction k with
 | zero => intro u hu; obtain rfl : u = 0 := by omega
           exact Nat.le_refl _
 | succ k ih =>
  intro u hu
  by_cases h0 : u = 0
  ·subst h0; exact Nat.zero_le _
  ·rw [dd_step h0, List.length_append]
   have := ih (u / 10) (by rw [Nat.pow_succ] at hu; omega)
   show (dd (u / 10)).length + 1 ≤ k + 1
   omega
theorem dsub10 (d : Nat) (h : d < 10) : (⟨#[48, 49, 50, 51, 52, 53, 54, 55, 56, 57]⟩ : ByteArray).extract d (d + 1) = ⟨#[UInt8.ofNat (48 + d)]⟩ := by
 match d, h with
 | 0, _ => decide +kernel
 | 1, _ => decide +kernel
 | 2, _ => decide +kernel
 | 3, _ => decide +kernel
 | 4, _ => decide +kernel
 | 5, _ => decide +kernel
 | 6, _ => decide +kernel
 | 7, _ => decide +kernel
 | 8, _ => decide +kernel
 | 9, _ => decide +kernel
theorem its_size (n : Int) (h1 : -9223372036854775808 ≤ n) (h2 : n ≤ 9223372036854775807) : (its n).size ≤ 21 ∧ 1 ≤ (its n).size := by
 have key : ∀ u : Nat, u ≤ 9223372036854775808 → (Lib.decDigits u).length ≤ 20 ∧ 1 ≤ (Lib.decDigits u).length := fun u hu => by
  by_cases h0 : u = 0
  ·subst h0
   rw [Lib.decDigits_one (by omega)]
   decide
  ·have e : dd u = Lib.decDigits u := if_neg h0
   rw [← e]
   refine ⟨dd_len 20 u (by omega), ?_⟩
   rw [dd_step h0, List.length_append]
   simp
 unfold its Lib.itoa
 show (List.toArray _).size ≤ 21 ∧ 1 ≤ (List.toArray _).size
 rw [List.size_toArray]
 by_cases hn : n < 0
 ·rw [if_pos hn]
  have := key n.natAbs (by omega)
  simp only [List.length_cons]
  omega
 ·rw [if_neg hn]
  have := key n.toNat (by omega)
  omega
theorem sDecI_any (n : Int) (w : World) (hn1 : -9223372036854775808 ≤ n) (hn2 : n ≤ 9223372036854775807) :
  Calls Tryz.prog 58 #[.int .i64 n] w fun e w' => e = .returned (.string (its n)) ∧ w' = w := by
 by_cases h0 : n = 0
 ·subst h0
  have HE : Hid (its 0 = ⟨#[48]⟩) := by show _ = _; decide +kernel
  rw [HE.out]
  go_enter Tryz.func58, Tryz.ntmps58
  go_wp2
  go_ret
  exact ⟨rfl, rfl⟩
 have h0' : (n == 0) = false := by simpa using h0
 by_cases hneg : n < 0
 ·obtain ⟨N, HN⟩ : ∃ N : Nat, Hid (n = -(N : Int) ∧ N ≠ 0 ∧ N ≤ 9223372036854775808) := ⟨n.natAbs, by omega, by omega, by omega⟩
  have HI : Hid (its n = (⟨#[45]⟩ : ByteArray) ++ ⟨(dd N).toArray⟩) := by
   show _ = _
   unfold its Lib.itoa dd
   rw [if_pos hneg, if_neg HN.out.2.1, show n.natAbs = N by have := HN.out.1; omega]
   rfl
  rw [HI.out]
  have hl := dd_len 20 N (by have := HN.out.2.2; omega)
  go_enter Tryz.func58, Tryz.ntmps58
  go_wp2
  go_loop [3, 4, 5] (fun o p d => ∃ (M : Nat) (S : ByteArray), M ≤ 9223372036854775808 ∧ S.size ≤ 20 ∧ p = .int .i64 (-(M : Int)) ∧ o = .string S ∧ Hid (dd M ++ S.data.toList = dd N)) (fun _ p _ => (-(intOf p)).toNat)
  case atStart => exact ⟨N, ByteArray.empty, HN.out.2.2, by decide, by rw [HN.out.1], rfl, by show dd N ++ [] = dd N; rw [List.append_nil]⟩
  case round =>
   obtain ⟨M, S, hM, hS, rfl, rfl, HD⟩ := hrel
   by_cases hM0 : M = 0
   ·subst hM0
    have HE : Hid (S = ⟨(dd N).toArray⟩) := by
     show S = _
     have h1 : S.data.toList = dd N := HD.out
     rw [← h1]
    clear HD HN HI hl
    have hs1 : (⟨#[45]⟩ : ByteArray).size = 1 := rfl
    go_wp2
    go_ret
    exact ⟨by rw [← HE.out]; rfl, rfl⟩
   ·have hM0' : ((-(M : Int)) != 0) = true := by simp; omega
    have HS : Hid (dd M = dd (M / 10) ++ [UInt8.ofNat (48 + M % 10)]) := dd_step hM0
    have hds := dsub10 (M % 10) (by omega)
    obtain ⟨c, hc⟩ : ∃ c, UInt8.ofNat (48 + M % 10) = c := ⟨_, rfl⟩
    obtain ⟨r, hr⟩ : ∃ r, M % 10 = r := ⟨_, rfl⟩
    obtain ⟨q, hq⟩ : ∃ r, M / 10 = r := ⟨_, rfl⟩
    rw [hc, hr] at hds
    have et : (-(M : Int)).tmod 10 = -(r : Int) := by rw [Int.neg_tmod, Int.tmod_eq_emod_of_nonneg (by omega)]; omega
    have eq : (-(M : Int)).tdiv 10 = -(q : Int) := by rw [Int.neg_tdiv, Int.tdiv_eq_ediv_of_nonneg (by omega)]; omega
    have hsz : (⟨#[c]⟩ ++ S : ByteArray).size = S.size + 1 := by rw [ByteArray.size_append]; show 1 + _ = _; omega
    have HNx : Hid (dd q ++ (⟨#[c]⟩ ++ S : ByteArray).data.toList = dd N) := by
     show _ = _
     rw [← HD.out, HS.out, hc, hq, ByteArray.data_append, Array.toList_append, List.append_assoc]
    have hS3 : S.size + 1 ≤ 20 := by
     have h1 := congrArg List.length HNx.out
     rw [List.length_append] at h1
     have h3 : (⟨#[c]⟩ ++ S : ByteArray).data.toList.length = S.size + 1 := hsz
     omega
    have hr10 : r < 10 := by omega
    have hqM : q < M := by omega
    have e1 : IntKind.i64.wrap (-(q : Int)) = -(q : Int) := by rw [IntKind.wrap_i64]; omega
    have e2 : IntKind.i64.wrap (-(r : Int)) = -(r : Int) := by rw [IntKind.wrap_i64]; omega
    have e3 : IntKind.i64.wrap (r : Int) = (r : Int) := by rw [IntKind.wrap_i64]; omega
    clear hc HD HS hr hq hl
    by_cases hr0 : r = 0
    ·subst hr0
     go_wp2
     go_round
     case rel => exact ⟨q, _, by omega, by rw [hsz]; exact hS3, rfl, rfl, HNx.out⟩
     case measure => simp [intOf] <;> omega
    ·have hrn : -(r : Int) < 0 := by omega
     go_wp2
     go_round
     case rel => exact ⟨q, _, by omega, by rw [hsz]; exact hS3, rfl, rfl, HNx.out⟩
     case measure => simp [intOf] <;> omega
 ·obtain ⟨N, HN⟩ : ∃ N : Nat, Hid (n = (N : Int) ∧ N ≠ 0 ∧ N ≤ 9223372036854775807) := ⟨n.toNat, by omega, by omega, by omega⟩
  have HI : Hid (its n = ⟨(dd N).toArray⟩) := by
   show _ = _
   unfold its Lib.itoa dd
   rw [if_neg hneg, if_neg HN.out.2.1, show n.toNat = N by have := HN.out.1; omega]
  rw [HI.out]
  have hl := dd_len 20 N (by have := HN.out.2.2; omega)
  go_enter Tryz.func58, Tryz.ntmps58
  go_wp2
  go_loop [3, 4, 5] (fun o p d => ∃ (M : Nat) (S : ByteArray), M ≤ 9223372036854775807 ∧ S.size ≤ 20 ∧ p = .int .i64 (M : Int) ∧ o = .string S ∧ Hid (dd M ++ S.data.toList = dd N)) (fun _ p _ => (intOf p).toNat)
  case atStart => exact ⟨N, ByteArray.empty, HN.out.2.2, by decide, by rw [HN.out.1], rfl, by show dd N ++ [] = dd N; rw [List.append_nil]⟩
  case round =>
   obtain ⟨M, S, hM, hS, rfl, rfl, HD⟩ := hrel
   by_cases hM0 : M = 0
   ·subst hM0
    have HE : Hid (S = ⟨(dd N).toArray⟩) := by
     show S = _
     have h1 : S.data.toList = dd N := HD.out
     rw [← h1]
    clear HD HN HI hl
    go_wp2
    go_ret
    exact ⟨by rw [← HE.out]; rfl, rfl⟩
   ·have hM0' : ((M : Int) != 0) = true := by simp; omega
    have HS : Hid (dd M = dd (M / 10) ++ [UInt8.ofNat (48 + M % 10)]) := dd_step hM0
    have hds := dsub10 (M % 10) (by omega)
    obtain ⟨c, hc⟩ : ∃ c, UInt8.ofNat (48 + M % 10) = c := ⟨_, rfl⟩
    rw [hc] at hds
    have hsz : (⟨#[c]⟩ ++ S : ByteArray).size = S.size + 1 := by rw [ByteArray.size_append]; show 1 + _ = _; omega
    have HNx : Hid (dd (M / 10) ++ (⟨#[c]⟩ ++ S : ByteArray).data.toList = dd N) := by
     show _ = _
     rw [← HD.out, HS.out, hc, ByteArray.data_append, Array.toList_append, List.append_assoc]
    have hS3 : S.size + 1 ≤ 20 := by
     have h1 := congrArg List.length HNx.out
     rw [List.length_append] at h1
     have h3 : (⟨#[c]⟩ ++ S : ByteArray).data.toList.length = S.size + 1 := hsz
     omega
    clear hc HD HS hl
    go_wp2
    go_round
    case rel => exact ⟨M / 10, _, by omega, by rw [hsz]; exact hS3, by go_num, rfl, HNx.out⟩
    case measure => simp [intOf] <;> omega
theorem ret_str {a b : ByteArray} (h : a = b) : Ending.returned (.string a) = .returned (.string b) := by rw [h]
theorem u8_lt (c : UInt8) : c.toNat < 256 := c.toNat_lt
def eI (f : Nat → Nat) (n : Nat) : List Int := (List.range n).map fun i => ((f i : Nat) : Int)
end Go.Proofs.YtihklfkhjpnjkaaGreatDoor
