import Derived.Test.YtaenoiffamgcfaaGreatDoorChecked
import Derived.Test.YtaenoiffamgcfaaGreatDoorM2
import Derived.Test.YtaenoiffamgcfaaGreatDoorM4
import Derived.Outline
import Derived.WalkSpells
import Derived.WalkLawsBesides
import Derived.Laws.BitsAllLaws
import Derived.Test.YtaenoiffamgcfaaGreatDoorM3
import Derived.Test.YtaenoiffamgcfaaGreatDoorRows
import Derived.Test.YtaenoiffamgcfaaGreatDoorM1
import Derived.Laws.Shifts
import Derived.Laws.OwnMore
import Derived.OwnWalk
import Derived.Deep.QuietTactic
import Derived.BigQuiet
import Derived.Deep.RegionHeld3
import Derived.Lib.ItoaNum
import Derived.Laws.BytesArg
import Derived.Deep.AppendLies
set_option maxHeartbeats 8000000
set_option maxRecDepth 2000
open Go.ChangeShapes Go.WideShapes Go.ChangeAt Go.RowKit
namespace Go.Proofs.YtaenoiffamgcfaaGreatDoor
theorem ret_int {k : IntKind} {a b : Int} (h : a = b) : Ending.returned (.int k a) = .returned (.int k b) := by rw [h]
theorem below2 {a b c : World} (h1 : Below a.heap.size a b) (h2 : Below b.heap.size b c) : Below a.heap.size a c :=
 h1.trans (h2.mono h1.size)
theorem ret_bool {a b : Bool} (h : a = b) : Ending.returned (.bool a) = .returned (.bool b) := by rw [h]
theorem xor_i64 (a b : Nat) (ha : a < 4294967296) (hb : b < 4294967296) : bits .xor .i64 (a : Int) (b : Int) = ((a ^^^ b : Nat) : Int) := by
 have hx : a ^^^ b < 2 ^ 32 := Nat.xor_lt_two_pow (by omega) (by omega)
 show IntKind.i64.wrap ((BitVec.ofInt 64 (a : Int) ^^^ BitVec.ofInt 64 (b : Int)).toNat : Int) = _
 rw [BitVec.toNat_xor, ofInt_u64 a (by omega), ofInt_u64 b (by omega), IntKind.wrap_i64]
 omega
def isB (a : Int) : Bool := decide (0 ≤ a ∧ a ≤ 255)
theorem isB_nat {a : Int} (h : isB a = true) : ∃ n : Nat, n < 256 ∧ a = (n : Int) := by
 simp [isB] at h
 exact ⟨a.toNat, by omega, by omega⟩
theorem isB_ofNat {n : Nat} (h : n < 256) : isB (n : Int) = true := by simp [isB]; omega
def powI (a n : Int) : Int := if isB a = true ∧ 0 ≤ n ∧ n ≤ 1000000 then ((Gf.gpow a.toNat n.toNat : Nat) : Int) else -1
def invI (a : Int) : Int := if 1 ≤ a ∧ a ≤ 255 then ((Gf.inv a.toNat : Nat) : Int) else -1
theorem isByte_any (a : Int) (w : World) : Calls Tryz.prog 85 #[.int .i64 a] w fun e w' => e = .returned (.bool (isB a)) ∧ w' = w := by
 go_enter Tryz.func85, Tryz.ntmps85
 go_wp2
 ·go_ret
  exact ⟨ret_bool (by simp [isB, *]), rfl⟩
 ·go_ret
  exact ⟨ret_bool (by simp [isB]; omega), rfl⟩
def inB (x a b : Int) : Bool := decide (a ≤ x ∧ x ≤ b)
theorem sIn_any (x a b : Int) (w : World) : Calls Tryz.prog 63 #[.int .i64 x, .int .i64 a, .int .i64 b] w fun e w' => e = .returned (.bool (inB x a b)) ∧ w' = w := by
 go_enter Tryz.func63, Tryz.ntmps63
 go_wp2
 ·go_ret
  exact ⟨ret_bool (by simp [inB, *]), rfl⟩
 ·go_ret
  exact ⟨ret_bool (by simp [inB]; omega), rfl⟩
theorem sIs_any (a : Int) (w : World) : Calls Tryz.prog 97 #[.int .i64 a] w fun e w' => e = .returned (.bool (isB a)) ∧ w' = w := by
 go_enter Tryz.func97, Tryz.ntmps97
 go_wp2_with fail
 refine (sIn_any _ _ _ _).mono ?_
 rintro e w1 ⟨rfl, rfl⟩
 go_wp2
 go_ret
 exact ⟨ret_bool rfl, rfl⟩
theorem pea_step (k A B X : Nat) : Gf.pea (k + 1) A B X = Gf.pea k (Gf.dbl A) (B / 2) (if B % 2 = 1 then X ^^^ A else X) := rfl
theorem sMul_nat (a b : Nat) (w : World) (ha : a < 256) (hb : b < 256) :
  Calls Tryz.prog 144 #[.int .i64 (a : Int), .int .i64 (b : Int)] w fun e w' => e = .returned (.int .i64 (Gf.mul a b : Nat)) ∧ w' = w := by
 have ia := isB_ofNat ha
 have ib := isB_ofNat hb
 go_enter Tryz.func144, Tryz.ntmps144
 go_wp2_with (go_at_call 97; refine (sIs_any _ _).mono ?_; rintro e w' ⟨rfl, rfl⟩)
 go_loop [0, 1, 5] (fun p q r => ∃ A B X k : Nat, A < 256 ∧ X < 256 ∧ k ≤ 8 ∧ B < 2 ^ k ∧ Hid (Gf.pea k A B X = Gf.mul a b) ∧ p = .int .i64 A ∧ q = .int .i64 B ∧ r = .int .i64 X) (fun _ q _ => (intOf q).toNat)
 case atStart => exact ⟨a, b, 0, 8, ha, by omega, by omega, by omega, rfl, rfl, rfl, rfl⟩
 case round =>
  obtain ⟨A, B, X, k, hA, hX, hk, hB, HP, rfl, rfl, rfl⟩ := hrel
  clear ia ib
  have hB8 : B < 256 := Nat.lt_of_lt_of_le hB (Nat.pow_le_pow_right (by omega) hk)
  by_cases hz : B = 0
  ·subst hz
   go_wp2
   go_ret
   exact ⟨ret_int (by rw [← HP.out, Gf.pea_zero]), rfl⟩
  ·obtain ⟨j, rfl⟩ : ∃ j, k = j + 1 := ⟨k - 1, by
    rcases Nat.eq_zero_or_pos k with h | h
    ·subst h; simp at hB; omega
    ·omega⟩
   have hpos : 0 < (B : Int) := by omega
   have hB2 : Hid (B / 2 < 2 ^ j) := by
    have : B < 2 ^ j * 2 := by rw [← Nat.pow_succ]; exact hB
    show B / 2 < 2 ^ j
    omega
   clear hB
   have hxa : bits .xor .i64 (X : Int) (A : Int) = ((X ^^^ A : Nat) : Int) := xor_i64 X A (by omega) (by omega)
   have hxs : bits .xor .i64 (2 * (A : Int)) 285 = (((2 * A) ^^^ 285 : Nat) : Int) := by
    have := xor_i64 (2 * A) 285 (by omega) (by omega)
    simpa using this
   have hlt : Hid (X ^^^ A < 256) := Gf.xor_lt hX hA
   have hdl : Hid (Gf.dbl A < 256) := Gf.dbl_lt hA
   by_cases ho : B % 2 = 1
   ·have ho' : ((B : Int) % 2 == 1) = true := by simp; omega
    by_cases hg : 255 < 2 * A
    ·have hg' : 255 < 2 * (A : Int) := by omega
     have hd : Hid (Gf.dbl A = (2 * A) ^^^ 285) := by show Gf.dbl A = _; simp [Gf.dbl, hg]
     go_wp2
     go_round
     case rel => exact ⟨Gf.dbl A, B / 2, X ^^^ A, j, hdl.out, hlt.out, by omega, hB2.out, by have h := HP.out; rw [pea_step, if_pos ho] at h; exact h, by rw [hd.out], by go_num, rfl⟩
     case measure => simp [intOf]; omega
    ·have hg' : ¬ 255 < 2 * (A : Int) := by omega
     have hd : Hid (Gf.dbl A = 2 * A) := by show Gf.dbl A = _; simp [Gf.dbl, hg]
     go_wp2
     go_round
     case rel => exact ⟨Gf.dbl A, B / 2, X ^^^ A, j, hdl.out, hlt.out, by omega, hB2.out, by have h := HP.out; rw [pea_step, if_pos ho] at h; exact h, by rw [hd.out]; go_num, by go_num, rfl⟩
     case measure => simp [intOf]; omega
   ·have ho' : ((B : Int) % 2 == 1) = false := by simp; omega
    by_cases hg : 255 < 2 * A
    ·have hg' : 255 < 2 * (A : Int) := by omega
     have hd : Hid (Gf.dbl A = (2 * A) ^^^ 285) := by show Gf.dbl A = _; simp [Gf.dbl, hg]
     go_wp2
     go_round
     case rel => exact ⟨Gf.dbl A, B / 2, X, j, hdl.out, hX, by omega, hB2.out, by have h := HP.out; rw [pea_step, if_neg ho] at h; exact h, by rw [hd.out], by go_num, rfl⟩
     case measure => simp [intOf]; omega
    ·have hg' : ¬ 255 < 2 * (A : Int) := by omega
     have hd : Hid (Gf.dbl A = 2 * A) := by show Gf.dbl A = _; simp [Gf.dbl, hg]
     go_wp2
     go_round
     case rel => exact ⟨Gf.dbl A, B / 2, X, j, hdl.out, hX, by omega, hB2.out, by have h := HP.out; rw [pea_step, if_neg ho] at h; exact h, by rw [hd.out]; go_num, by go_num, rfl⟩
     case measure => simp [intOf]; omega
theorem sPow_nat (a n : Nat) (w : World) (ha : a < 256) (hn : n ≤ 1000000) :
  Calls Tryz.prog 143 #[.int .i64 (a : Int), .int .i64 (n : Int)] w fun e w' => e = .returned (.int .i64 (Gf.gpow a n : Nat)) ∧ w' = w := by
 have ia := isB_ofNat ha
 have ib : inB (n : Int) 0 1000000 = true := by simp [inB]; omega
 go_enter Tryz.func143, Tryz.ntmps143
 go_wp2_with (first | (go_at_call 97; refine (sIs_any _ _).mono ?_; rintro e w' ⟨rfl, rfl⟩) | (go_at_call 63; refine (sIn_any _ _ _ _).mono ?_; rintro e w' ⟨rfl, rfl⟩))
 go_loop [0, 1, 5] (fun p q r => ∃ A N X : Nat, A < 256 ∧ X < 256 ∧ N ≤ 1000000 ∧ Hid (Gf.mul X (Gf.gpow A N) = Gf.gpow a n) ∧ p = .int .i64 A ∧ q = .int .i64 N ∧ r = .int .i64 X) (fun _ q _ => (intOf q).toNat)
 case atStart => exact ⟨a, n, 1, ha, by omega, hn, Gf.one_mul (Gf.gpow_lt _ _), rfl, rfl, rfl⟩
 case round =>
  obtain ⟨A, N, X, hA, hX, hN, HP, rfl, rfl, rfl⟩ := hrel
  clear ia ib
  by_cases hz : N = 0
  ·subst hz
   go_wp2
   go_ret
   exact ⟨ret_int (by rw [← HP.out, Gf.gpow_zero, Gf.mul_one hX]), rfl⟩
  ·have hpos : 0 < (N : Int) := by omega
   have hr : Hid (Gf.mul (if N % 2 = 1 then Gf.mul X A else X) (Gf.gpow (Gf.mul A A) (N / 2)) = Gf.gpow a n) := by
    show _ = _
    rw [Gf.gpow_round hA hX (by omega)]; exact HP.out
   have h1 : Hid (Gf.mul A A < 256) := Gf.mul_lt hA hA
   have h2 : Hid (Gf.mul X A < 256) := Gf.mul_lt hX hA
   by_cases ho : N % 2 = 1
   ·have ho' : ((N : Int) % 2 == 1) = true := by simp; omega
    go_wp2_with fail
    refine (sMul_nat X A _ hX hA).mono ?_
    rintro e w1 ⟨rfl, rfl⟩
    go_wp2_with fail
    refine (sMul_nat A A _ hA hA).mono ?_
    rintro e w1 ⟨rfl, rfl⟩
    go_wp2
    go_round
    case rel => exact ⟨Gf.mul A A, N / 2, Gf.mul X A, h1.out, h2.out, by omega, by have h := hr.out; rw [if_pos ho] at h; exact h, rfl, by go_num, rfl⟩
    case measure => simp [intOf]; omega
   ·have ho' : ((N : Int) % 2 == 1) = false := by simp; omega
    go_wp2_with fail
    refine (sMul_nat A A _ hA hA).mono ?_
    rintro e w1 ⟨rfl, rfl⟩
    go_wp2
    go_round
    case rel => exact ⟨Gf.mul A A, N / 2, X, h1.out, hX, by omega, by have h := hr.out; rw [if_neg ho] at h; exact h, rfl, by go_num, rfl⟩
    case measure => simp [intOf]; omega
theorem sPow_any (a n : Int) (w : World) : Calls Tryz.prog 143 #[.int .i64 a, .int .i64 n] w fun e w' => e = .returned (.int .i64 (powI a n)) ∧ w' = w := by
 by_cases ha : isB a = true
 ·by_cases hb : inB n 0 1000000 = true
  ·obtain ⟨A, hA, rfl⟩ := isB_nat ha
   simp [inB] at hb
   obtain ⟨M, rfl⟩ := Int.eq_ofNat_of_zero_le hb.1
   refine (sPow_nat A M w hA (by omega)).mono ?_
   rintro e w' ⟨rfl, rfl⟩
   exact ⟨ret_int (by simp only [powI]; rw [if_pos ⟨ha, by omega, by omega⟩]; simp), rfl⟩
  ·have hb' : inB n 0 1000000 = false := by simpa using hb
   have hb2 : ¬ (0 ≤ n ∧ n ≤ 1000000) := by simpa [inB] using hb
   go_enter Tryz.func143, Tryz.ntmps143
   go_wp2_with (first | (go_at_call 97; refine (sIs_any _ _).mono ?_; rintro e w' ⟨rfl, rfl⟩) | (go_at_call 63; refine (sIn_any _ _ _ _).mono ?_; rintro e w' ⟨rfl, rfl⟩))
   go_ret
   exact ⟨ret_int (by simp only [powI]; rw [if_neg (fun h => hb2 h.2)]), rfl⟩
 ·have ha' : isB a = false := by simpa using ha
  go_enter Tryz.func143, Tryz.ntmps143
  go_wp2_with (first | (go_at_call 97; refine (sIs_any _ _).mono ?_; rintro e w' ⟨rfl, rfl⟩) | (go_at_call 63; refine (sIn_any _ _ _ _).mono ?_; rintro e w' ⟨rfl, rfl⟩))
  go_ret
  exact ⟨ret_int (by simp [powI, ha]), rfl⟩
theorem sInv_any (a : Int) (w : World) : Calls Tryz.prog 129 #[.int .i64 a] w fun e w' => e = .returned (.int .i64 (invI a)) ∧ w' = w := by
 by_cases h : 1 ≤ a ∧ a ≤ 255
 ·have hi : inB a 1 255 = true := by simp [inB, h]
  have hv : Hid (powI a 254 = invI a) := by
   show _ = _
   simp only [powI, invI]
   rw [if_pos ⟨by simp [isB]; omega, by omega, by omega⟩, if_pos h, show Int.toNat 254 = 254 from rfl, Gf.gpow_inv (by omega) (by omega)]
  go_enter Tryz.func129, Tryz.ntmps129
  go_wp2_with (first | (go_at_call 63; refine (sIn_any _ _ _ _).mono ?_; rintro e w' ⟨rfl, rfl⟩) | (go_at_call 143; refine (sPow_any _ _ _).mono ?_; rintro e w' ⟨rfl, rfl⟩))
  go_ret
  exact ⟨ret_int hv.out, rfl⟩
 ·have hi : inB a 1 255 = false := by simp [inB]; omega
  go_enter Tryz.func129, Tryz.ntmps129
  go_wp2_with (go_at_call 63; refine (sIn_any _ _ _ _).mono ?_; rintro e w' ⟨rfl, rfl⟩)
  go_ret
  exact ⟨ret_int (by simp only [invI]; rw [if_neg h]), rfl⟩
end Go.Proofs.YtaenoiffamgcfaaGreatDoor
namespace Go.Proofs.YtaenoiffamgcfaaGreatDoor
open Gs (U rolI)
theorem rotate_any (x : BitVec 64) (n : Int) (w : World) : Calls Tryz.prog 152 #[.int .u64 (U x), .int .i64 n] w fun e w' => e = .returned (.int .u64 (U (rolI x n))) ∧ w' = w := by
 obtain ⟨s, HS⟩ : ∃ s : Nat, Hid (s = (n % 64).toNat) := ⟨_, rfl⟩
 have hs64 : s < 64 := by have := HS.out; omega
 have ha : bits .and .u64 (IntKind.u64.wrap n) 63 = (s : Int) := by
  obtain ⟨m, hm⟩ : ∃ m : Nat, IntKind.u64.wrap n = (m : Int) := ⟨(IntKind.u64.wrap n).toNat, by rw [IntKind.wrap_u64]; omega⟩
  have hm2 := hm
  rw [IntKind.wrap_u64] at hm2
  rw [hm]
  have := bits_and_u64_nat m 63 (by omega) (by omega)
  rw [show ((63 : Nat) : Int) = 63 from rfl] at this
  rw [this, show (63 : Nat) = 2 ^ 6 - 1 from rfl, Nat.and_two_pow_sub_one_eq_mod]
  have := HS.out
  omega
 go_enter Tryz.func152, Tryz.ntmps152
 go_wp2
 go_ret
 refine ⟨ret_int ?_, rfl⟩
 rw [ Gs.U_shl, Gs.U_shr, Gs.U_or, Gs.rol_shifts _ _ hs64, HS.out]
 rfl
theorem roll_any (x : BitVec 64) (n : Int) (w : World) : Calls Tryz.prog 146 #[.int .u64 (U x), .int .i64 n] w fun e w' => e = .returned (.int .u64 (U (rolI x n))) ∧ w' = w := by
 go_enter Tryz.func146, Tryz.ntmps146
 go_wp2_with fail
 refine (rotate_any x n _).mono ?_
 rintro e w' ⟨rfl, hw⟩
 obtain rfl := hw.symm
 go_wp2
 go_ret
 exact ⟨rfl, rfl⟩
theorem tmod64 (n : Int) : n.tmod 64 = n % 64 ∨ n.tmod 64 = n % 64 - 64 ∧ n % 64 ≠ 0 ∧ n < 0 := by
 rw [Int.tmod_eq_emod]
 split
 ·omega
 ·simp only [show (64 : Int).natAbs = 64 from rfl]
  omega
theorem shl1 (x : BitVec 64) : IntKind.u64.wrap (U x * 2) = U (x <<< 1) := Gs.U_shl x 1
theorem shr63 (x : BitVec 64) : U x / (9223372036854775808 : Int) = U (x >>> 63) := Gs.U_shr x 63
theorem sRoll_any (x : BitVec 64) (n : Int) (w : World) : Calls Tryz.prog 125 #[.int .u64 (U x), .int .i64 n] w fun e w' => e = .returned (.int .u64 (U (rolI x n))) ∧ w' = w := by
 obtain ⟨r, HR⟩ : ∃ r : Nat, Hid (r = (n % 64).toNat) := ⟨_, rfl⟩
 have hr64 : r < 64 := by have := HR.out; omega
 by_cases hn : n.tmod 64 < 0
 ·have hr : n.tmod 64 + 64 = (r : Int) := by have := HR.out; have := tmod64 n; omega
  go_enter Tryz.func125, Tryz.ntmps125
  go_wp2
  go_loop [0, 6] (fun v i => ∃ k : Nat, k ≤ r ∧ i = .int .i64 k ∧ v = .int .u64 (U (Gs.rol x k))) (fun _ i => r - (intOf i).toNat)
  case atStart => exact ⟨0, Nat.zero_le _, rfl, by rw [Gs.rol_zero]⟩
  case round =>
   obtain ⟨k, hk, rfl, rfl⟩ := hrel
   by_cases hlt : k < r
   ·have hlti : (k : Int) < (r : Int) := by omega
    go_wp2
    exact ⟨⟨k + 1, by omega, by go_num, by rw [shl1, shr63, Gs.U_or, Gs.rol_one]⟩, by simp [intOf]; omega⟩
   ·have e : k = r := by omega
    subst e
    go_wp2
    go_ret
    have e2 : rolI x n = Gs.rol x k := by unfold rolI; rw [← HR.out]
    exact ⟨by rw [e2]; rfl, rfl⟩
 ·have hr : n.tmod 64 = (r : Int) := by have := HR.out; have := tmod64 n; omega
  go_enter Tryz.func125, Tryz.ntmps125
  go_wp2
  go_loop [0, 6] (fun v i => ∃ k : Nat, k ≤ r ∧ i = .int .i64 k ∧ v = .int .u64 (U (Gs.rol x k))) (fun _ i => r - (intOf i).toNat)
  case atStart => exact ⟨0, Nat.zero_le _, rfl, by rw [Gs.rol_zero]⟩
  case round =>
   obtain ⟨k, hk, rfl, rfl⟩ := hrel
   by_cases hlt : k < r
   ·have hlti : (k : Int) < (r : Int) := by omega
    go_wp2
    exact ⟨⟨k + 1, by omega, by go_num, by rw [shl1, shr63, Gs.U_or, Gs.rol_one]⟩, by simp [intOf]; omega⟩
   ·have e : k = r := by omega
    subst e
    go_wp2
    go_ret
    have e2 : rolI x n = Gs.rol x k := by unfold rolI; rw [← HR.out]
    exact ⟨by rw [e2]; rfl, rfl⟩
end Go.Proofs.YtaenoiffamgcfaaGreatDoor
namespace Go.Proofs.YtaenoiffamgcfaaGreatDoor
def IntsAt (w : World) (a : Option Addr) (n : Nat) (zs : List Int) : Prop :=
 zs.length = n ∧ ∀ i, i < n → ∃ b off, a = some ⟨b, off, none⟩ ∧ w.cell? ⟨b, off + i, none⟩ = some (.int .i64 (zs.getD i 0))
theorem IntsAt.below {w w' : World} {a : Option Addr} {n : Nat} {zs : List Int} (h : IntsAt w a n zs) (hb : Below w.heap.size w w') : IntsAt w' a n zs := by
 refine ⟨h.1, fun i hi => ?_⟩
 obtain ⟨b, off, e, hc⟩ := h.2 i hi
 exact ⟨b, off, e, (hb.cell (p := ⟨b, off + i, none⟩) (block_lt_of_cell hc)).trans hc⟩
theorem IntsAt.some {w : World} {a : Option Addr} {n : Nat} {zs : List Int} (h : IntsAt w a n zs) (hn : 0 < n) : ∃ b off, a = some ⟨b, off, none⟩ ∧ ∀ i, i < n → w.cell? ⟨b, off + i, none⟩ = .some (.int .i64 (zs.getD i 0)) := by
 obtain ⟨b, off, e, _⟩ := h.2 0 hn
 refine ⟨b, off, e, fun i hi => ?_⟩
 obtain ⟨b', off', e', hc⟩ := h.2 i hi
 rw [e] at e'
 simp at e'
 obtain ⟨rfl, rfl⟩ := e'
 exact hc
theorem ownsRow.ints {w : World} {B E g n cap : Nat} {zs : List Int} (h : w.ownsRow B E 1 (.slice (some ⟨g, 0, none⟩) n cap) n (zs.map (Value.int .i64))) : IntsAt w (some ⟨g, 0, none⟩) n zs := by
 have hl : zs.length = n := by simpa using h.1
 refine ⟨hl, fun i hi => ⟨g, 0, rfl, ?_⟩⟩
 rw [Nat.zero_add, h.cellAt i (by omega)]
 simp [hl, hi]
theorem ownsRow_below {w w' : World} {B e size n : Nat} {v : Value} {xs : List Value} (h : w.ownsRow B e size v n xs) (hb : Below w.heap.size w w') : w'.ownsRow B e size v n xs := by
 refine ⟨h.1, ?_⟩
 rcases h.2 with h' | ⟨g, cap, cur, h1, h2, h3, h4⟩
 ·exact .inl h'
 ·refine .inr ⟨g, cap, cur, h1, h2, ?_, h4⟩
  rw [hb.block g (Array.getElem?_eq_some_iff.1 h3).1]
  exact h3
theorem take_snoc (xs : List Int) (k : Nat) (h : k < xs.length) : xs.take (k + 1) = xs.take k ++ [xs.getD k 0] := by
 rw [List.take_succ_eq_append_getElem h]
 simp [h]
theorem Tryz.infoByte : (Tryz.prog.info? 5).map (fun i => (i.zero, i.size, i.bytes)) = some (some (.int .u8 0), 1, 1) := by kernel_rfl
theorem Tryz.infoInt : (Tryz.prog.info? 3).map (fun i => (i.zero, i.size, i.bytes)) = some (some (.int .i64 0), 1, 8) := by kernel_rfl
theorem copied_set (d : IntKind) (zs : List Int) (n k : Nat) (hn : zs.length = n) (hk : k < n) :
  ((zs.take k ++ List.replicate (n - k) 0).map (Value.int d)).set k (.int d (zs.getD k 0)) = (zs.take (k + 1) ++ List.replicate (n - (k + 1)) 0).map (Value.int d) := by
 apply List.ext_getElem?
 intro j
 simp only [List.getElem?_set, List.getElem?_map, List.getElem?_append, List.length_take, List.length_map, List.length_append, List.length_replicate, List.getElem?_take, List.getElem?_replicate]
 by_cases h1 : k = j
 ·subst h1
  simp [hn, hk, show min k n = k by omega, show min (k + 1) n = k + 1 by omega, show k < k + (n - k) by omega]
 ·by_cases h2 : j < k
  ·simp [h1, h2, hn, show j < min k n by omega, show j < min (k + 1) n by omega, show j < k + 1 by omega]
  ·by_cases h3 : j < n
   ·simp [h1, hn, show ¬ j < min k n by omega, show ¬ j < min (k + 1) n by omega, show j - min k n < n - k by omega, show j - min (k + 1) n < n - (k + 1) by omega]
   ·simp [h1, hn, show ¬ j < min k n by omega, show ¬ j < min (k + 1) n by omega, show ¬ j - min k n < n - k by omega, show ¬ j - min (k + 1) n < n - (k + 1) by omega]
theorem and255 (n : Int) : bits .and .i64 n 255 = n % 256 := by
 show IntKind.i64.wrap ((BitVec.ofInt 64 n &&& BitVec.ofInt 64 255).toNat : Int) = _
 have h1 : (BitVec.ofInt 64 255) = BitVec.ofNat 64 255 := by decide
 have h2 : (BitVec.ofInt 64 n).toNat = (n % 18446744073709551616).toNat := by simp
 rw [BitVec.toNat_and, h1, h2, BitVec.toNat_ofNat, show (255 % 2 ^ 64 : Nat) = 2 ^ 8 - 1 from rfl, Nat.and_two_pow_sub_one_eq_mod, IntKind.wrap_i64]
 omega
theorem grownBy_trans {a b c : World} {row : Option Nat} (h : a.grownBy b row) (k : b.grownBy c row) : a.grownBy c row :=
 ⟨k.os.trans h.os, k.tape.trans h.tape, k.output.trans h.output, Nat.le_trans h.size k.size, fun j hj hn => (k.block j (Nat.lt_of_lt_of_le hj h.size) hn).trans (h.block j hj hn)⟩
def BytesAt (w : World) (a : Option Addr) (n g : Nat) : Prop :=
 ∀ j, j < n → ∃ b off x, a = some ⟨b, off, none⟩ ∧ b ≠ g ∧ w.cell? ⟨b, off + j, none⟩ = some (.int .u8 x) ∧ 0 ≤ x ∧ x ≤ 255
theorem BytesAt.grown {w w' : World} {a : Option Addr} {n g : Nat} (h : BytesAt w a n g) (hg : w.grownBy w' (some g)) : BytesAt w' a n g := by
 intro j hj
 obtain ⟨b, off, x, e, hb, hc, hx⟩ := h j hj
 exact ⟨b, off, x, e, hb, hg.cell hc (by simpa using hb), hx⟩
def Cur (w : World) (g : Nat) (a : Option Addr) (n cap : Nat) : Prop :=
 n ≤ 1048576 ∧ (∃ (i : Nat) (h : Int), i ≤ n ∧ w.heap[g]? = some (.cells #[.slice a n cap, .int .i64 i, .int .i64 h] 69 (0, 0))) ∧ BytesAt w a n g
theorem Cur.kept {w w' : World} {g n cap : Nat} {a : Option Addr} {row : Option Nat} (h : Cur w g a n cap) (hg : w.grownBy w' row) (hr : row ≠ some g) (hb : ∀ b off, a = some ⟨b, off, none⟩ → row ≠ some b) : Cur w' g a n cap := by
 obtain ⟨hn, ⟨i, hh, hi, hblk⟩, hby⟩ := h
 refine ⟨hn, ⟨i, hh, hi, ?_⟩, ?_⟩
 ·rw [hg.block g (Array.getElem?_eq_some_iff.1 hblk).1 (Ne.symm hr)]; exact hblk
 ·intro j hj
  obtain ⟨b, off, x, e, hbg, hc, hx⟩ := hby j hj
  exact ⟨b, off, x, e, hbg, hg.cell hc (Ne.symm (hb b off e)), hx⟩
theorem cur_cells {w : World} {g : Nat} {x y z : Value} {ty : TypeId} (h : w.heap[g]? = some (.cells #[x, y, z] ty (0, 0))) :
  w.cell? ⟨g, 0, none⟩ = some x ∧ w.cell? ⟨g, 1, none⟩ = some y ∧ w.cell? ⟨g, 2, none⟩ = some z ∧ w.frozen? ⟨g, 1, none⟩ = false ∧ w.frozen? ⟨g, 2, none⟩ = false := by
 refine ⟨?_, ?_, ?_, ?_, ?_⟩ <;> first | (rw [cell_of_row w g _ _ ty _ h]; rfl) | exact frozen_of_row w g _ _ ty h
theorem cur_set2 {w : World} {g : Nat} {x y z v : Value} {ty : TypeId} (h : w.heap[g]? = some (.cells #[x, y, z] ty (0, 0))) :
  (w.setCell ⟨g, 2, none⟩ v).heap[g]? = some (.cells #[x, y, v] ty (0, 0)) ∧ w.grownBy (w.setCell ⟨g, 2, none⟩ v) (some g) :=
 ⟨by rw [heap_setCell_same w g 2 _ ty v h]; rfl, ⟨rfl, rfl, rfl, by simp, fun k _ hk => heap_setCell_other w ⟨g, 2, none⟩ k v (fun e => hk (by simp [e]))⟩⟩
theorem cur_set1 {w : World} {g : Nat} {x y z v : Value} {ty : TypeId} (h : w.heap[g]? = some (.cells #[x, y, z] ty (0, 0))) :
  (w.setCell ⟨g, 1, none⟩ v).heap[g]? = some (.cells #[x, v, z] ty (0, 0)) ∧ w.grownBy (w.setCell ⟨g, 1, none⟩ v) (some g) :=
 ⟨by rw [heap_setCell_same w g 1 _ ty v h]; rfl, ⟨rfl, rfl, rfl, by simp, fun k _ hk => heap_setCell_other w ⟨g, 1, none⟩ k v (fun e => hk (by simp [e]))⟩⟩
theorem grownBy_drewN {w w' : World} {row : Option Nat} (h : w.grownBy w' row) (m : Nat) : w.grownBy (w'.drewN m) row := ⟨h.os, h.tape, h.output, h.size, h.block⟩
theorem cur_set21 {w : World} {g : Nat} {x y z v u : Value} {ty : TypeId} (m : Nat) (h : w.heap[g]? = some (.cells #[x, y, z] ty (0, 0))) :
  w.grownBy (((w.setCell ⟨g, 2, none⟩ v).drewN m).setCell ⟨g, 1, none⟩ u) (some g) ∧ (((w.setCell ⟨g, 2, none⟩ v).drewN m).setCell ⟨g, 1, none⟩ u).heap[g]? = some (.cells #[x, u, v] ty (0, 0)) := by
 have h2 := cur_set2 (v := v) h
 have h3 : ((w.setCell ⟨g, 2, none⟩ v).drewN m).heap[g]? = some (.cells #[x, y, v] ty (0, 0)) := h2.1
 exact ⟨grownBy_trans (grownBy_drewN h2.2 m) (cur_set1 (v := u) h3).2, (cur_set1 (v := u) h3).1⟩
theorem byte_out (g n cap i : Nat) (hh : Int) (a : Option Addr) (w : World) (hi : ¬ i < n)
  (hblk : w.heap[g]? = some (.cells #[.slice a n cap, .int .i64 i, .int .i64 hh] 69 (0, 0))) :
  Calls Tryz.prog 40 #[.pointer (some ⟨g, 0, none⟩)] w fun e w' => ∃ x hv : Int, 0 ≤ x ∧ x ≤ 255 ∧ e = .returned (.int .i64 x) ∧ w.grownBy w' (some g) ∧ w'.heap[g]? = some (.cells #[.slice a n cap, .int .i64 i, .int .i64 hv] 69 (0, 0)) := by
 obtain ⟨c0, c1, c2, f1, f2⟩ := cur_cells hblk
 have HB : Hid (w.heap[g]? = some (.cells #[.slice a n cap, .int .i64 i, .int .i64 hh] 69 (0, 0))) := hblk
 have hand := and255
 clear hblk
 go_enter Tryz.func40, Tryz.ntmps40
 go_wp2
 go_quiet (fail)
 go_wp2
 go_quiet (fail)
 go_wp2
 go_ret
 exact ⟨_, _, Int.emod_nonneg _ (by decide), Int.le_of_lt_add_one (Int.emod_lt_of_pos _ (by decide)), rfl, grownBy_drewN (grownBy_drewN (cur_set2 HB.out).2 _) _, (cur_set2 HB.out).1⟩
theorem byte_in (g n cap i b off : Nat) (hh y : Int) (w : World) (hn : n ≤ 1048576) (hi : i < n) (hbg : b ≠ g) (hy : w.cell? ⟨b, off + i, none⟩ = some (.int .u8 y)) (y0 : 0 ≤ y) (y1 : y ≤ 255)
  (hblk : w.heap[g]? = some (.cells #[.slice (some ⟨b, off, none⟩) n cap, .int .i64 i, .int .i64 hh] 69 (0, 0))) :
  Calls Tryz.prog 40 #[.pointer (some ⟨g, 0, none⟩)] w fun e w' => ∃ x hv : Int, 0 ≤ x ∧ x ≤ 255 ∧ e = .returned (.int .i64 x) ∧ w.grownBy w' (some g) ∧ w'.heap[g]? = some (.cells #[.slice (some ⟨b, off, none⟩) n cap, .int .i64 ((i + 1 : Nat) : Int), .int .i64 hv] 69 (0, 0)) := by
 obtain ⟨c0, c1, c2, f1, f2⟩ := cur_cells hblk
 have HB : Hid (w.heap[g]? = some (.cells #[.slice (some ⟨b, off, none⟩) n cap, .int .i64 i, .int .i64 hh] 69 (0, 0))) := hblk
 have hand := and255
 have hii : (i : Int) < (n : Int) := by omega
 have hyy : ∀ v, (w.setCell ⟨g, 2, none⟩ v).cell? ⟨b, off + i, none⟩ = some (.int .u8 y) := fun v => ((cur_set2 (v := v) hblk).2.cell hy (by simpa using hbg))
 clear hblk
 go_enter Tryz.func40, Tryz.ntmps40
 go_wp2
 go_quiet (fail)
 go_wp2
 go_quiet (fail)
 go_wp2
 go_quiet (fail)
 go_wp2
 go_ret
 exact ⟨_, _, Int.emod_nonneg _ (by decide), Int.le_of_lt_add_one (Int.emod_lt_of_pos _ (by decide)), rfl, (cur_set21 _ HB.out).1, (cur_set21 _ HB.out).2⟩
theorem byte_any (g n cap : Nat) (a : Option Addr) (w : World) (hc : Cur w g a n cap) :
  Calls Tryz.prog 40 #[.pointer (some ⟨g, 0, none⟩)] w fun e w' => ∃ x : Int, 0 ≤ x ∧ x ≤ 255 ∧ e = .returned (.int .i64 x) ∧ w.grownBy w' (some g) ∧ Cur w' g a n cap := by
 obtain ⟨hn, ⟨i, hh, hi, hblk⟩, hby⟩ := hc
 by_cases hlt : i < n
 ·obtain ⟨b, off, y, rfl, hbg, hy, y0, y1⟩ := hby i hlt
  refine (byte_in g n cap i b off hh y w hn hlt hbg hy y0 y1 hblk).mono ?_
  rintro e w' ⟨x, hv, x0, x1, rfl, hg, hb'⟩
  exact ⟨x, x0, x1, rfl, hg, hn, ⟨i + 1, hv, hlt, hb'⟩, hby.grown hg⟩
 ·refine (byte_out g n cap i hh a w hlt hblk).mono ?_
  rintro e w' ⟨x, hv, x0, x1, rfl, hg, hb'⟩
  exact ⟨x, x0, x1, rfl, hg, hn, ⟨i, hv, hi, hb'⟩, hby.grown hg⟩
theorem belowN_any (g n cap : Nat) (a : Option Addr) (m : Int) (w : World) (hc : Cur w g a n cap) :
  Calls Tryz.prog 20 #[.pointer (some ⟨g, 0, none⟩), .int .i64 m] w fun e w' => ∃ x : Int, 0 ≤ x ∧ (0 < m → x < m) ∧ (m ≤ 0 → x = 0) ∧ e = .returned (.int .i64 x) ∧ w.grownBy w' (some g) ∧ Cur w' g a n cap := by
 by_cases h0 : m ≤ 0
 ·go_enter Tryz.func20, Tryz.ntmps20
  go_wp2
  go_ret
  exact ⟨0, by omega, by omega, by omega, rfl, World.grownBy.refl _ _, hc⟩
 ·by_cases h1 : m ≤ 256
  ·go_enter Tryz.func20, Tryz.ntmps20
   go_wp2_with fail
   refine (byte_any g n cap a _ hc).mono ?_
   rintro e w1 ⟨x, x0, x1, rfl, hg, hc1⟩
   go_wp2
   go_ret
   exact ⟨_, Int.emod_nonneg _ (by omega), fun _ => Int.emod_lt_of_pos _ (by omega), fun h => by omega, rfl, hg, hc1⟩
  ·go_enter Tryz.func20, Tryz.ntmps20
   go_wp2_with fail
   refine (byte_any g n cap a _ hc).mono ?_
   rintro e w1 ⟨x, x0, x1, rfl, hg1, hc1⟩
   go_wp2_with fail
   refine (byte_any g n cap a _ hc1).mono ?_
   rintro e w2 ⟨y, y0, y1, rfl, hg2, hc2⟩
   go_wp2_with fail
   refine (byte_any g n cap a _ hc2).mono ?_
   rintro e w3 ⟨z, z0, z1, rfl, hg3, hc3⟩
   go_wp2_with fail
   refine (byte_any g n cap a _ hc3).mono ?_
   rintro e w4 ⟨u, u0, u1, rfl, hg4, hc4⟩
   go_wp2
   go_ret
   exact ⟨_, Int.emod_nonneg _ (by omega), fun _ => Int.emod_lt_of_pos _ (by omega), fun h => by omega, rfl, grownBy_trans (grownBy_trans (grownBy_trans hg1 hg2) hg3) hg4, hc4⟩
theorem once_any (g n cap : Nat) (a : Option Addr) (m : Int) (w : World) (hc : Cur w g a n cap) :
  Calls Tryz.prog 21 #[.pointer (some ⟨g, 0, none⟩), .int .i64 m] w fun e w' => ∃ x : Bool, e = .returned (.bool x) ∧ w.grownBy w' (some g) ∧ Cur w' g a n cap := by
 go_enter Tryz.func21, Tryz.ntmps21
 go_wp2_with fail
 refine (belowN_any g n cap a _ _ hc).mono ?_
 rintro e w1 ⟨x, _, _, _, rfl, hg, hc1⟩
 go_wp2
 go_ret
 exact ⟨_, rfl, hg, hc1⟩
theorem pick_any (g n cap : Nat) (a : Option Addr) (lb off m lc : Nat) (w : World) (hc : Cur w g a n cap) (hm : 0 < m) (hm2 : m ≤ 256) (hl : lb ≠ g)
  (hcell : ∀ i, i < m → ∃ z, w.cell? ⟨lb, off + i, none⟩ = some (.int .i64 z)) :
  Calls Tryz.prog 47 #[.pointer (some ⟨g, 0, none⟩), .slice (some ⟨lb, off, none⟩) m lc] w fun e w' => ∃ x : Int, e = .returned (.int .i64 x) ∧ w.grownBy w' (some g) ∧ Cur w' g a n cap := by
 go_enter Tryz.func47, Tryz.ntmps47
 go_wp2_with fail
 refine (belowN_any g n cap a _ _ hc).mono ?_
 rintro e w1 ⟨x, x0, x1, _, rfl, hg, hc1⟩
 have x2 := x1 (by omega)
 obtain ⟨k, rfl⟩ := Int.eq_ofNat_of_zero_le x0
 obtain ⟨z, hz⟩ := hcell k (by omega)
 have hz1 := hg.cell hz (by simpa using hl)
 clear hcell hz x1
 go_wp2
 go_ret
 exact ⟨_, rfl, hg, hc1⟩
theorem lit_cells {w : World} {cs : List Int} {ty : TypeId} : ∀ i, i < cs.length → ∃ z, (w.alloc (.cells (cs.map (Value.int .i64)).toArray ty)).cell? ⟨w.heap.size, 0 + i, none⟩ = some (.int .i64 z) := by
 intro i hi
 rw [Nat.zero_add, cell_of_row _ _ _ _ ty _ (heap_alloc_new w _)]
 exact ⟨cs[i], by simp [hi]⟩
theorem Cur.lt {w : World} {g n cap : Nat} {a : Option Addr} (h : Cur w g a n cap) : g < w.heap.size := by
 obtain ⟨_, ⟨i, hh, _, hblk⟩, _⟩ := h
 exact (Array.getElem?_eq_some_iff.1 hblk).1
theorem Cur.alloc {w : World} {g n cap : Nat} {a : Option Addr} (h : Cur w g a n cap) (o : Obj) : Cur (w.alloc o) g a n cap :=
 h.kept (World.grownBy_alloc w o none) (by simp) (by simp)
set_option maxRecDepth 100000 in
theorem new_any (a : Option Addr) (n cap : Nat) (w : World) (hn : n ≤ 1048576) (hby : ∀ g, w.heap.size ≤ g → BytesAt w a n g) :
  Calls Tryz.prog 18 #[.slice a n cap] w fun e w' => ∃ g, e = .returned (.pointer (some ⟨g, 0, none⟩)) ∧ w.heap.size ≤ g ∧ Below w.heap.size w w' ∧ Cur w' g a n cap := by
 go_enter Tryz.func18, Tryz.ntmps18
 go_wp2
 go_loopw [3, 4] (fun h i wr => ∃ (k : Nat) (hh : Int), k ≤ n ∧ h = .int .i64 hh ∧ i = .int .i64 k ∧ wr = w) (fun _ i _ => n - (intOf i).toNat)
 case atStart => exact ⟨0, _, Nat.zero_le _, rfl, rfl, rfl⟩
 case round =>
  obtain ⟨k, hh, hk, rfl, rfl, rfl⟩ := hrel
  by_cases hlt : k < n ∧ k < 4000
  ·obtain ⟨b, off, x, rfl, hbg, hc, x0, x1⟩ := hby _ (Nat.le_refl _) k hlt.1
   have h1 : (k : Int) < (n : Int) := by omega
   have h2 : (k : Int) < 4000 := by omega
   clear hby
   go_wp2
   go_roundw
   case rel => exact ⟨k + 1, _, by omega, rfl, by go_num, trivial⟩
   case measure => simp [intOf]; omega
  ·have fin : ∀ hv : Int, Below wr.heap.size wr (wr.alloc (.cells #[.slice a n cap, .int .i64 0, .int .i64 hv] 69)) ∧ Cur (wr.alloc (.cells #[.slice a n cap, .int .i64 0, .int .i64 hv] 69)) wr.heap.size a n cap := fun hv =>
    ⟨(Below.refl _ _).alloc (Nat.le_refl _) _, hn, ⟨0, hv, Nat.zero_le _, heap_alloc_new wr _⟩, (hby _ (Nat.le_refl _)).grown (World.grownBy_alloc wr _ _)⟩
   have F : Hid (∀ hv : Int, Below wr.heap.size wr (wr.alloc (.cells #[.slice a n cap, .int .i64 0, .int .i64 hv] 69)) ∧ Cur (wr.alloc (.cells #[.slice a n cap, .int .i64 0, .int .i64 hv] 69)) wr.heap.size a n cap) := fin
   clear fin hby
   by_cases h1 : k < n
   ·have h1' : (k : Int) < (n : Int) := by omega
    have h2 : ¬ (k : Int) < 4000 := by omega
    go_wp2
    go_ret
    exact ⟨_, rfl, Nat.le_refl _, (F.out hh).1, (F.out hh).2⟩
   ·go_wp2
    go_ret
    exact ⟨_, rfl, Nat.le_refl _, (F.out hh).1, (F.out hh).2⟩
def its (n : Int) : ByteArray := ⟨(Lib.itoa n).toArray⟩
def dd (u : Nat) : List UInt8 := if u = 0 then [] else Lib.decDigits u
theorem dd_step {u : Nat} (h0 : u ≠ 0) : dd u = dd (u / 10) ++ [UInt8.ofNat (48 + u % 10)] := by
 unfold dd
 rw [if_neg h0, Lib.decDigits]
 by_cases h : u < 10
 ·rw [dif_pos h, if_pos (by omega), show u % 10 = u by omega]
  rfl
 ·rw [dif_neg h, if_neg (by omega)]
theorem dd_len (k : Nat) : ∀ u, u < 10 ^ k → (dd u).length ≤ k := by
 induction k with
 | zero => intro u hu; obtain rfl : u = 0 := by omega
           exact Nat.le_refl _
 | succ k ih =>
  intro u hu
  by_cases h0 : u = 0
  ·subst h0; exact Nat.zero_le _
  ·rw [dd_step h0, List.length_append]
   have := ih (u / 10) (by rw [Nat.pow_succ] at hu; omega)
   show (dd (u / 10)).length + 1 ≤ k + 1
   omega
theorem dsub10 (d : Nat) (h : d < 10) : (⟨#[48, 49, 50, 51, 52, 53, 54, 55, 56, 57]⟩ : ByteArray).extract d (d + 1) = ⟨#[UInt8.ofNat (48 + d)]⟩ := by
 match d, h with
 | 0, _ => decide +kernel
 | 1, _ => decide +kernel
 | 2, _ => decide +kernel
 | 3, _ => decide +kernel
 | 4, _ => decide +kernel
 | 5, _ => decide +kernel
 | 6, _ => decide +kernel
 | 7, _ => decide +kernel
 | 8, _ => decide +kernel
 | 9, _ => decide +kernel
theorem its_size (n : Int) (h1 : -9223372036854775808 ≤ n) (h2 : n ≤ 9223372036854775807) : (its n).size ≤ 21 ∧ 1 ≤ (its n).size := by
 have key : ∀ u : Nat, u ≤ 9223372036854775808 → (Lib.decDigits u).length ≤ 20 ∧ 1 ≤ (Lib.decDigits u).length := fun u hu => by
  by_cases h0 : u = 0
  ·subst h0
   rw [Lib.decDigits_one (by omega)]
   decide
  ·have e : dd u = Lib.decDigits u := if_neg h0
   rw [← e]
   refine ⟨dd_len 20 u (by omega), ?_⟩
   rw [dd_step h0, List.length_append]
   simp
 unfold its Lib.itoa
 show (List.toArray _).size ≤ 21 ∧ 1 ≤ (List.toArray _).size
 rw [List.size_toArray]
 by_cases hn : n < 0
 ·rw [if_pos hn]
  have := key n.natAbs (by omega)
  simp only [List.length_cons]
  omega
 ·rw [if_neg hn]
  have := key n.toNat (by omega)
  omega
theorem sDecI_any (n : Int) (w : World) (hn1 : -9223372036854775808 ≤ n) (hn2 : n ≤ 9223372036854775807) :
  Calls Tryz.prog 54 #[.int .i64 n] w fun e w' => e = .returned (.string (its n)) ∧ w' = w := by
 by_cases h0 : n = 0
 ·subst h0
  have HE : Hid (its 0 = ⟨#[48]⟩) := by show _ = _; decide +kernel
  rw [HE.out]
  go_enter Tryz.func54, Tryz.ntmps54
  go_wp2
  go_ret
  exact ⟨rfl, rfl⟩
 have h0' : (n == 0) = false := by simpa using h0
 by_cases hneg : n < 0
 ·obtain ⟨N, HN⟩ : ∃ N : Nat, Hid (n = -(N : Int) ∧ N ≠ 0 ∧ N ≤ 9223372036854775808) := ⟨n.natAbs, by omega, by omega, by omega⟩
  have HI : Hid (its n = (⟨#[45]⟩ : ByteArray) ++ ⟨(dd N).toArray⟩) := by
   show _ = _
   unfold its Lib.itoa dd
   rw [if_pos hneg, if_neg HN.out.2.1, show n.natAbs = N by have := HN.out.1; omega]
   rfl
  rw [HI.out]
  have hl := dd_len 20 N (by have := HN.out.2.2; omega)
  go_enter Tryz.func54, Tryz.ntmps54
  go_wp2
  go_loop [3, 4, 5] (fun o p d => ∃ (M : Nat) (S : ByteArray), M ≤ 9223372036854775808 ∧ S.size ≤ 20 ∧ p = .int .i64 (-(M : Int)) ∧ o = .string S ∧ Hid (dd M ++ S.data.toList = dd N)) (fun _ p _ => (-(intOf p)).toNat)
  case atStart => exact ⟨N, ByteArray.empty, HN.out.2.2, by decide, by rw [HN.out.1], rfl, by show dd N ++ [] = dd N; rw [List.append_nil]⟩
  case round =>
   obtain ⟨M, S, hM, hS, rfl, rfl, HD⟩ := hrel
   by_cases hM0 : M = 0
   ·subst hM0
    have HE : Hid (S = ⟨(dd N).toArray⟩) := by
     show S = _
     have h1 : S.data.toList = dd N := HD.out
     rw [← h1]
    clear HD HN HI hl
    have hs1 : (⟨#[45]⟩ : ByteArray).size = 1 := rfl
    go_wp2
    go_ret
    exact ⟨by rw [← HE.out]; rfl, rfl⟩
   ·have hM0' : ((-(M : Int)) != 0) = true := by simp; omega
    have HS : Hid (dd M = dd (M / 10) ++ [UInt8.ofNat (48 + M % 10)]) := dd_step hM0
    have hds := dsub10 (M % 10) (by omega)
    obtain ⟨c, hc⟩ : ∃ c, UInt8.ofNat (48 + M % 10) = c := ⟨_, rfl⟩
    obtain ⟨r, hr⟩ : ∃ r, M % 10 = r := ⟨_, rfl⟩
    obtain ⟨q, hq⟩ : ∃ r, M / 10 = r := ⟨_, rfl⟩
    rw [hc, hr] at hds
    have et : (-(M : Int)).tmod 10 = -(r : Int) := by rw [Int.neg_tmod, Int.tmod_eq_emod_of_nonneg (by omega)]; omega
    have eq : (-(M : Int)).tdiv 10 = -(q : Int) := by rw [Int.neg_tdiv, Int.tdiv_eq_ediv_of_nonneg (by omega)]; omega
    have hsz : (⟨#[c]⟩ ++ S : ByteArray).size = S.size + 1 := by rw [ByteArray.size_append]; show 1 + _ = _; omega
    have HNx : Hid (dd q ++ (⟨#[c]⟩ ++ S : ByteArray).data.toList = dd N) := by
     show _ = _
     rw [← HD.out, HS.out, hc, hq, ByteArray.data_append, Array.toList_append, List.append_assoc]
    have hS3 : S.size + 1 ≤ 20 := by
     have h1 := congrArg List.length HNx.out
     rw [List.length_append] at h1
     have h3 : (⟨#[c]⟩ ++ S : ByteArray).data.toList.length = S.size + 1 := hsz
     omega
    have hr10 : r < 10 := by omega
    have hqM : q < M := by omega
    have e1 : IntKind.i64.wrap (-(q : Int)) = -(q : Int) := by rw [IntKind.wrap_i64]; omega
    have e2 : IntKind.i64.wrap (-(r : Int)) = -(r : Int) := by rw [IntKind.wrap_i64]; omega
    have e3 : IntKind.i64.wrap (r : Int) = (r : Int) := by rw [IntKind.wrap_i64]; omega
    clear hc HD HS hr hq hl
    by_cases hr0 : r = 0
    ·subst hr0
     go_wp2
     go_round
     case rel => exact ⟨q, _, by omega, by rw [hsz]; exact hS3, rfl, rfl, HNx.out⟩
     case measure => simp [intOf] <;> omega
    ·have hrn : -(r : Int) < 0 := by omega
     go_wp2
     go_round
     case rel => exact ⟨q, _, by omega, by rw [hsz]; exact hS3, rfl, rfl, HNx.out⟩
     case measure => simp [intOf] <;> omega
 ·obtain ⟨N, HN⟩ : ∃ N : Nat, Hid (n = (N : Int) ∧ N ≠ 0 ∧ N ≤ 9223372036854775807) := ⟨n.toNat, by omega, by omega, by omega⟩
  have HI : Hid (its n = ⟨(dd N).toArray⟩) := by
   show _ = _
   unfold its Lib.itoa dd
   rw [if_neg hneg, if_neg HN.out.2.1, show n.toNat = N by have := HN.out.1; omega]
  rw [HI.out]
  have hl := dd_len 20 N (by have := HN.out.2.2; omega)
  go_enter Tryz.func54, Tryz.ntmps54
  go_wp2
  go_loop [3, 4, 5] (fun o p d => ∃ (M : Nat) (S : ByteArray), M ≤ 9223372036854775807 ∧ S.size ≤ 20 ∧ p = .int .i64 (M : Int) ∧ o = .string S ∧ Hid (dd M ++ S.data.toList = dd N)) (fun _ p _ => (intOf p).toNat)
  case atStart => exact ⟨N, ByteArray.empty, HN.out.2.2, by decide, by rw [HN.out.1], rfl, by show dd N ++ [] = dd N; rw [List.append_nil]⟩
  case round =>
   obtain ⟨M, S, hM, hS, rfl, rfl, HD⟩ := hrel
   by_cases hM0 : M = 0
   ·subst hM0
    have HE : Hid (S = ⟨(dd N).toArray⟩) := by
     show S = _
     have h1 : S.data.toList = dd N := HD.out
     rw [← h1]
    clear HD HN HI hl
    go_wp2
    go_ret
    exact ⟨by rw [← HE.out]; rfl, rfl⟩
   ·have hM0' : ((M : Int) != 0) = true := by simp; omega
    have HS : Hid (dd M = dd (M / 10) ++ [UInt8.ofNat (48 + M % 10)]) := dd_step hM0
    have hds := dsub10 (M % 10) (by omega)
    obtain ⟨c, hc⟩ : ∃ c, UInt8.ofNat (48 + M % 10) = c := ⟨_, rfl⟩
    rw [hc] at hds
    have hsz : (⟨#[c]⟩ ++ S : ByteArray).size = S.size + 1 := by rw [ByteArray.size_append]; show 1 + _ = _; omega
    have HNx : Hid (dd (M / 10) ++ (⟨#[c]⟩ ++ S : ByteArray).data.toList = dd N) := by
     show _ = _
     rw [← HD.out, HS.out, hc, ByteArray.data_append, Array.toList_append, List.append_assoc]
    have hS3 : S.size + 1 ≤ 20 := by
     have h1 := congrArg List.length HNx.out
     rw [List.length_append] at h1
     have h3 : (⟨#[c]⟩ ++ S : ByteArray).data.toList.length = S.size + 1 := hsz
     omega
    clear hc HD HS hl
    go_wp2
    go_round
    case rel => exact ⟨M / 10, _, by omega, by rw [hsz]; exact hS3, by go_num, rfl, HNx.out⟩
    case measure => simp [intOf] <;> omega
theorem ret_str {a b : ByteArray} (h : a = b) : Ending.returned (.string a) = .returned (.string b) := by rw [h]
theorem u8_lt (c : UInt8) : c.toNat < 256 := c.toNat_lt
def scaleL (s : ByteArray) (A : Nat) : List Int := s.data.toList.map fun c => ((Gf.mul c.toNat A : Nat) : Int)
def scaleS (s : ByteArray) (a : Int) : ByteArray := if isB a = true then strOfNums (scaleL s a.toNat) else ByteArray.empty
theorem scaleL_len (s : ByteArray) (A : Nat) : (scaleL s A).length = s.size := by simp [scaleL]
theorem scaleL_at (s : ByteArray) (A k : Nat) (h : k < s.size) : (scaleL s A).getD k 0 = ((Gf.mul s[k].toNat A : Nat) : Int) := by
 have h' : k < s.data.toList.length := by simpa using h
 simp only [scaleL, List.getD, List.getElem?_map, List.getElem?_eq_getElem h', Option.map_some, Option.getD_some]
 rfl
theorem sScale_nat (s : ByteArray) (A : Nat) (w : World) (hs : s.size ≤ 1048576) (hA : A < 256) :
  Calls Tryz.prog 130 #[.string s, .int .i64 (A : Int)] w fun e w' => e = .returned (.string (strOfNums (scaleL s A))) ∧ Below w.heap.size w w' := by
 obtain ⟨i0, hi, hz0, hz1, hz2⟩ := info_parts Tryz.infoByte
 have ia := isB_ofNat hA
 obtain ⟨xs, HX⟩ : ∃ xs, Hid (xs = scaleL s A) := ⟨_, rfl⟩
 obtain ⟨n, hn⟩ : ∃ n, s.size = n := ⟨_, rfl⟩
 have HL : Hid (xs.length = n) := by show _ = _; rw [HX.out, scaleL_len, hn]
 go_enter Tryz.func130, Tryz.ntmps130
 go_wp2_with fail
 refine (sIs_any _ _).mono ?_
 rintro e w' ⟨rfl, hw⟩
 obtain rfl := hw.symm
 go_wp2
 clear hw ia
 have ho1 : (w.alloc (.cells #[] 5)).ownsRow w.heap.size 5 1 (.slice (some ⟨w.heap.size, 0, none⟩) 0 0) 0 ((xs.take 0).map (Value.int .u8)) :=
  World.ownsRow_lit w #[] 0 (Nat.le_refl _) (by unfold maxLen; omega) rfl
 go_loopw [5, 6] (fun v i wr => ∃ k : Nat, k ≤ n ∧ i = .int .i64 k ∧ wr.ownsRow w.heap.size 5 1 v k ((xs.take k).map (Value.int .u8)) ∧ Hid (v ≠ .slice none 0 0) ∧ Below w.heap.size w wr) (fun _ i _ => n - (intOf i).toNat)
 case atStart => exact ⟨0, Nat.zero_le _, rfl, ho1, by simp [Hid], (Below.refl _ _).alloc (Nat.le_refl _) _⟩
 case round =>
  obtain ⟨k, hk, rfl, hown, HV, hbel⟩ := hrel
  clear ho1
  by_cases hlt : k < n
  ·have hks : k < s.size := by omega
   have hml := Gf.mul_lt (u8_lt s[k]) hA
   have HE : Hid (xs.take (k + 1) = xs.take k ++ [((Gf.mul s[k].toNat A : Nat) : Int)]) := by
    show _ = _
    rw [take_snoc xs k (by rw [HL.out]; exact hlt), HX.out, scaleL_at s A k hks]
   have hcl := u8_lt s[k]
   go_wp2_with fail
   refine (sMul_nat _ A _ hcl hA).mono ?_
   rintro e w1 ⟨rfl, hw1⟩
   obtain rfl := hw1.symm
   go_wp2_with (at_builtin; refine wpList_append_own _ rfl _ _ 22 rfl w.heap.size 5 i0 (.int .u8 0) 1 1 Tryz.underlying22 hi hz0 hz1 hz2 rfl (by decide) _ _ _ rfl (hown.alloc _) ⟨wr.heap.size, 0, none⟩ 1 1 [.int .u8 ((Gf.mul s[k].toNat A : Nat) : Int)] rfl rfl ?c1 ?c2 ?c3 ?c4 ?c5 ?_)
   case c1 =>
    intro j u hj
    match j, hj with
    | 0, hj => simp at hj; subst hj; simp [Addr.add]
   case c2 => intro u hu; simp at hu; subst hu; rfl
   case c3 => unfold maxLen; omega
   case c4 => omega
   case c5 => have := hbel.size; simp; omega
   ·intro v' w1 hown' hgrow hnil
    have HV' : Hid (v' ≠ .slice none 0 0) := hnil
    have HO : Hid (w1.ownsRow w.heap.size 5 1 v' (k + 1) ((xs.take (k + 1)).map (Value.int .u8))) := by
     rw [HE.out, List.map_append, List.map_take]
     exact hown'
    have hb' : Below w.heap.size w w1 := (hbel.alloc hbel.size _).grown hgrow (by have := hbel.size; simp; omega) (fun j hj => (hown.lt j hj).1)
    clear hown' hgrow hnil hown
    go_wp2
    go_roundw
    case rel => exact ⟨k + 1, by omega, by go_num, HO.out, HV'.out, hb'⟩
    case measure => simp [intOf]; omega
  ·have e : k = n := by omega
   subst e
   rw [List.take_of_length_le (by rw [HL.out]; omega)] at hown
   obtain ⟨g, cap, rfl⟩ : ∃ g cap, u5 = .slice (some ⟨g, 0, none⟩) k cap := by
    rcases hown.2 with h | ⟨g, cap, cur, h, _⟩
    ·exact absurd h.1 HV.out
    ·exact ⟨g, cap, h⟩
   have hcv := run_convert_bytes_arg (P := Tryz.prog) wr 22 5 Tryz.underlying22 Tryz.underlying5 g 0 k cap xs HL.out (fun i hi => by
    rw [Nat.zero_add, hown.cellAt i (by omega)]
    simp [HL.out, hi]) 9 Tryz.underlying9
   go_wp2
   go_ret
   exact ⟨ret_str (by rw [HX.out]), hbel⟩
theorem sScale_any (s : ByteArray) (a : Int) (w : World) (hs : s.size ≤ 1048576) :
  Calls Tryz.prog 130 #[.string s, .int .i64 a] w fun e w' => e = .returned (.string (scaleS s a)) ∧ Below w.heap.size w w' := by
 by_cases ha : isB a = true
 ·obtain ⟨A, hA, rfl⟩ := isB_nat ha
  refine (sScale_nat s A w hs hA).mono ?_
  rintro e w' ⟨rfl, hb⟩
  exact ⟨ret_str (by simp [scaleS, ha]), hb⟩
 ·have ha' : isB a = false := by simpa using ha
  go_enter Tryz.func130, Tryz.ntmps130
  go_wp2_with (go_at_call 97; refine (sIs_any _ _).mono ?_; rintro e w' ⟨rfl, rfl⟩)
  go_ret
  exact ⟨ret_str (by simp [scaleS, ha]; rfl), Below.refl _ _⟩
def CodeAt (w : World) (a : Option Addr) (n : Nat) : Prop :=
 n ≤ 1048576 ∧ ∀ j, j < n → ∃ b off x, a = some ⟨b, off, none⟩ ∧ w.cell? ⟨b, off + j, none⟩ = some (.int .u8 x) ∧ 0 ≤ x ∧ x ≤ 255
theorem CodeAt.below {w w' : World} {a : Option Addr} {n : Nat} (h : CodeAt w a n) (hb : Below w.heap.size w w') : CodeAt w' a n :=
 ⟨h.1, fun j hj => by
  obtain ⟨b, off, x, e, hc, hx⟩ := h.2 j hj
  exact ⟨b, off, x, e, (hb.cell (p := ⟨b, off + j, none⟩) (block_lt_of_cell hc)).trans hc, hx⟩⟩
theorem CodeAt.bytes {w : World} {a : Option Addr} {n : Nat} (h : CodeAt w a n) (g : Nat) (hg : w.heap.size ≤ g) : BytesAt w a n g := by
 intro j hj
 obtain ⟨b, off, x, e, hc, hx⟩ := h.2 j hj
 have := block_lt_of_cell hc
 exact ⟨b, off, x, e, by simp at this; omega, hc, hx⟩
theorem IsRow.code {w : World} {a : Option Addr} {len cap : Nat} {zs : List Int} (h : IsRow .u8 w a len cap zs) (hn : len ≤ 1048576) : CodeAt w a len := by
 refine ⟨hn, ?_⟩
 rcases h with ⟨rfl, rfl, rfl, rfl⟩ | ⟨x, rfl, hl, hm, hz, hcell, hwz⟩
 ·intro j hj; omega
 ·intro i hi
  obtain ⟨b, off, spot⟩ := x
  have hc := hcell i (by omega)
  have hspot : spot = none := by simpa [Addr.add] using World.cell?_spot (hcell 0 (by omega))
  subst hspot
  have ea : (⟨b, off, none⟩ : Addr).add i = ⟨b, off + i, none⟩ := by unfold Addr.add; split <;> simp_all
  rw [ea] at hc
  have hmem : zs.getD i 0 ∈ zs := by
   have hi2 : i < zs.length := by omega
   simp [hi2]
  have hb := bounds_u8 (hwz _ hmem)
  exact ⟨b, off, _, rfl, hc, by omega, by omega⟩
def eI (f : Nat → Nat) (n : Nat) : List Int := (List.range n).map fun i => ((f i : Nat) : Int)
theorem eI_len (f : Nat → Nat) (n : Nat) : (eI f n).length = n := by simp [eI]
theorem eI_get (f : Nat → Nat) (n i : Nat) (h : i < n) : (eI f n)[i]? = some ((f i : Nat) : Int) := by simp [eI, h]
theorem eI_getD (f : Nat → Nat) (n i : Nat) (h : i < n) : (eI f n).getD i 0 = ((f i : Nat) : Int) := by simp [List.getD, eI_get f n i h]
theorem eI_congr {f g : Nat → Nat} {n : Nat} (h : ∀ i, i < n → f i = g i) : eI f n = eI g n := by
 unfold eI
 apply List.map_congr_left
 intro i hi
 rw [h i (List.mem_range.1 hi)]
def OwnI (w : World) (B : Nat) (v : Value) (zs : List Int) : Prop := w.ownsRow B 3 1 v zs.length (zs.map (Value.int .i64))
theorem OwnI.view {w : World} {B : Nat} {v : Value} {zs : List Int} (h : OwnI w B v zs) : ∃ a cap, v = .slice a zs.length cap ∧ IntsAt w a zs.length zs ∧ ∀ x, a = some x → B ≤ x.block ∧ x.block < w.heap.size := by
 rcases h.2 with ⟨e, hn⟩ | ⟨g, cap, cur, e, hB, hg, rest⟩
 ·exact ⟨none, 0, by rw [e, hn], ⟨rfl, fun i hi => by omega⟩, fun x hx => by cases hx⟩
 ·refine ⟨some ⟨g, 0, none⟩, cap, e, ?_, fun x hx => ?_⟩
  ·subst e; exact ownsRow.ints h
  ·cases hx; exact ⟨hB, (Array.getElem?_eq_some_iff.1 hg).1⟩
theorem big_any (a : Option Addr) (n cap : Nat) (w : World) : Calls Tryz.prog 4 #[.slice a n cap] w fun e w' => e = .returned (.bool (decide (1048576 < (n : Int)))) ∧ w' = w := by
 go_enter Tryz.func4, Tryz.ntmps4
 go_wp2
 go_ret
 exact ⟨rfl, rfl⟩
end Go.Proofs.YtaenoiffamgcfaaGreatDoor
