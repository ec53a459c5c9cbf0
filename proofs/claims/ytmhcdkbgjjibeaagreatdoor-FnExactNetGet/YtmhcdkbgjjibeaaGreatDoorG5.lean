import Derived.Test.YtmhcdkbgjjibeaaGreatDoorChecked
import Derived.Test.YtmhcdkbgjjibeaaGreatDoorG2
import Derived.Test.YtmhcdkbgjjibeaaGreatDoorG4
import Derived.Outline
import Derived.WalkSpells
import Derived.WalkLawsBesides
import Derived.Laws.BitsAllLaws
import Derived.Test.YtmhcdkbgjjibeaaGreatDoorG3
import Derived.Test.YtmhcdkbgjjibeaaGreatDoorRows
import Derived.Test.YtmhcdkbgjjibeaaGreatDoorG1
import Derived.Laws.Shifts
import Derived.Laws.OwnMore
import Derived.OwnWalk
import Derived.Deep.QuietTactic
import Derived.BigQuiet
import Derived.Deep.RegionHeld3
import Derived.StillTailTactics
import Derived.Laws.BytesArg
import Derived.Deep.AppendLies
import Derived.Shelf.Abstract
import Derived.Deep.Strs
import Derived.Defers
import Derived.Recover
set_option maxHeartbeats 8000000
set_option maxRecDepth 2000
open Go.ChangeShapes Go.WideShapes Go.ChangeAt Go.RowKit
namespace Go.Proofs.YtmhcdkbgjjibeaaGreatDoor
def expZ : List Int := (List.range 255).map fun i => ((Gf.ex i : Nat) : Int)
def logZ : List Int := (List.range 256).map fun i => ((Gf.lg i : Nat) : Int)
def expV : Array Value := (expZ.map (Value.int .u8)).toArray
def logV : Array Value := (logZ.map (Value.int .u8)).toArray
theorem expV_at {i : Nat} (h : i < 255) : expV[i]? = some (.int .u8 ((Gf.ex i : Nat) : Int)) := by
 unfold expV expZ
 simp [h]
theorem logV_at {i : Nat} (h : i < 256) : logV[i]? = some (.int .u8 ((Gf.lg i : Nat) : Int)) := by
 unfold logV logZ
 simp [h]
set_option maxRecDepth 100000 in
theorem pow2_pos (n : Int) (r : Nat) (w : World) (hr : r < 255) (h1 : n.tmod 255 = (r : Int)) :
  Calls Tryz.prog 159 #[.int .i64 n] w fun e w' => e = .returned (.int .u8 (Gf.ex r : Nat)) ∧ w' = w.alloc (.cells expV 247) := by
 have hc : (w.alloc (.cells expV 247)).cell? ⟨w.heap.size, r, none⟩ = some (.int .u8 (Gf.ex r : Nat)) := by
  rw [cell_of_row _ _ _ _ _ _ (heap_alloc_new w _)]; exact expV_at hr
 go_enter Tryz.func159, Tryz.ntmps159
 iterate 11 go_step
 refine wpList_table rfl rfl rfl 247 174 255 _ _ _ .u8 expZ rfl rfl rfl (by kernel_rfl) (by kernel_rfl) (by kernel_rfl) (by kernel_rfl) (by kernel_rfl) 5 3 rfl rfl rfl rfl rfl (by decide) (by simp) (by simp) ?_
 rw [show (expZ.map (Value.int .u8)).toArray = expV from rfl]
 refine wpList_frame (a' := { tmps := #[.int .i64 n, undef, .int .u8 0, .pointer (some ⟨w.heap.size, 0, none⟩), undef, .agg expV, undef, undef, undef, undef, undef, undef, undef, undef, undef], defers := [] }) (by kernel_rfl) ?_
 refine wpList_nil ?_
 go_wp2
 go_ret
 exact ⟨rfl, rfl⟩
set_option maxRecDepth 100000 in
theorem pow2_neg (n : Int) (r : Nat) (w : World) (hr : r < 255) (h1 : n.tmod 255 = (r : Int) - 255) :
  Calls Tryz.prog 159 #[.int .i64 n] w fun e w' => e = .returned (.int .u8 (Gf.ex r : Nat)) ∧ w' = w.alloc (.cells expV 247) := by
 have hc : (w.alloc (.cells expV 247)).cell? ⟨w.heap.size, r, none⟩ = some (.int .u8 (Gf.ex r : Nat)) := by
  rw [cell_of_row _ _ _ _ _ _ (heap_alloc_new w _)]; exact expV_at hr
 go_enter Tryz.func159, Tryz.ntmps159
 iterate 11 go_step
 refine wpList_table rfl rfl rfl 247 174 255 _ _ _ .u8 expZ rfl rfl rfl (by kernel_rfl) (by kernel_rfl) (by kernel_rfl) (by kernel_rfl) (by kernel_rfl) 5 3 rfl rfl rfl rfl rfl (by decide) (by simp) (by simp) ?_
 rw [show (expZ.map (Value.int .u8)).toArray = expV from rfl]
 refine wpList_frame (a' := { tmps := #[.int .i64 n, undef, .int .u8 0, .pointer (some ⟨w.heap.size, 0, none⟩), undef, .agg expV, undef, undef, undef, undef, undef, undef, undef, undef, undef], defers := [] }) (by kernel_rfl) ?_
 refine wpList_nil ?_
 go_wp2
 go_ret
 exact ⟨rfl, rfl⟩
theorem pow2_any (n : Int) (w : World) :
  Calls Tryz.prog 159 #[.int .i64 n] w fun e w' => e = .returned (.int .u8 (Gf.ex (n % 255).toNat : Nat)) ∧ Below w.heap.size w w' := by
 have hr : (n % 255).toNat < 255 := by omega
 have hb : Below w.heap.size w (w.alloc (.cells expV 247)) := (Below.refl _ _).alloc (Nat.le_refl _) _
 have ht := Int.tmod_eq_emod (a := n) (b := 255)
 by_cases h : 0 ≤ n ∨ (255 : Int) ∣ n
 ·rw [if_pos h] at ht
  refine (pow2_pos n (n % 255).toNat w hr (by omega)).mono ?_
  rintro e w' ⟨rfl, rfl⟩
  exact ⟨rfl, hb⟩
 ·rw [if_neg h] at ht
  refine (pow2_neg n (n % 255).toNat w hr (by simp at ht; omega)).mono ?_
  rintro e w' ⟨rfl, rfl⟩
  exact ⟨rfl, hb⟩
set_option maxRecDepth 100000 in
theorem log_any (r : Nat) (w : World) (hr : r < 256) :
  Calls Tryz.prog 160 #[.int .u8 (r : Int)] w fun e w' => e = .returned (.int .i64 (Gf.lg r : Nat)) ∧ Below w.heap.size w w' := by
 have hc : (w.alloc (.cells logV 248)).cell? ⟨w.heap.size, r, none⟩ = some (.int .u8 (Gf.lg r : Nat)) := by
  rw [cell_of_row _ _ _ _ _ _ (heap_alloc_new w _)]; exact logV_at hr
 have hl := Gf.lg_lt' r
 go_enter Tryz.func160, Tryz.ntmps160
 iterate 11 go_step
 refine wpList_table rfl rfl rfl 248 5 256 _ _ _ .u8 logZ rfl rfl rfl (by kernel_rfl) (by kernel_rfl) (by kernel_rfl) (by kernel_rfl) (by kernel_rfl) 4 3 rfl rfl rfl rfl rfl (by decide) (by simp) (by simp) ?_
 rw [show (logZ.map (Value.int .u8)).toArray = logV from rfl]
 refine wpList_frame (a' := { tmps := #[.int .u8 (r : Int), undef, .int .i64 0, .pointer (some ⟨w.heap.size, 0, none⟩), .agg logV, undef, undef, undef, undef], defers := [] }) (by kernel_rfl) ?_
 refine wpList_nil ?_
 go_wp2
 go_ret
 exact ⟨rfl, (Below.refl _ _).alloc (Nat.le_refl _) _⟩
theorem ret_int {k : IntKind} {a b : Int} (h : a = b) : Ending.returned (.int k a) = .returned (.int k b) := by rw [h]
theorem below3 {a b c d : World} (h1 : Below a.heap.size a b) (h2 : Below b.heap.size b c) (h3 : Below c.heap.size c d) : Below a.heap.size a d :=
 (h1.trans (h2.mono h1.size)).trans (h3.mono (Nat.le_trans h1.size h2.size))
theorem below2 {a b c : World} (h1 : Below a.heap.size a b) (h2 : Below b.heap.size b c) : Below a.heap.size a c :=
 h1.trans (h2.mono h1.size)
theorem ret_bool {a b : Bool} (h : a = b) : Ending.returned (.bool a) = .returned (.bool b) := by rw [h]
theorem xor_i64 (a b : Nat) (ha : a < 4294967296) (hb : b < 4294967296) : bits .xor .i64 (a : Int) (b : Int) = ((a ^^^ b : Nat) : Int) := by
 have hx : a ^^^ b < 2 ^ 32 := Nat.xor_lt_two_pow (by omega) (by omega)
 show IntKind.i64.wrap ((BitVec.ofInt 64 (a : Int) ^^^ BitVec.ofInt 64 (b : Int)).toNat : Int) = _
 rw [BitVec.toNat_xor, ofInt_u64 a (by omega), ofInt_u64 b (by omega), IntKind.wrap_i64]
 omega
def isB (a : Int) : Bool := decide (0 ≤ a ∧ a ≤ 255)
theorem isB_nat {a : Int} (h : isB a = true) : ∃ n : Nat, n < 256 ∧ a = (n : Int) := by
 simp [isB] at h
 exact ⟨a.toNat, by omega, by omega⟩
theorem isB_ofNat {n : Nat} (h : n < 256) : isB (n : Int) = true := by simp [isB]; omega
def powI (a n : Int) : Int := if isB a = true ∧ 0 ≤ n ∧ n ≤ 1000000 then ((Gf.gpow a.toNat n.toNat : Nat) : Int) else -1
def invI (a : Int) : Int := if 1 ≤ a ∧ a ≤ 255 then ((Gf.inv a.toNat : Nat) : Int) else -1
theorem isByte_any (a : Int) (w : World) : Calls Tryz.prog 135 #[.int .i64 a] w fun e w' => e = .returned (.bool (isB a)) ∧ w' = w := by
 go_enter Tryz.func135, Tryz.ntmps135
 go_wp2
 ·go_ret
  exact ⟨ret_bool (by simp [isB, *]), rfl⟩
 ·go_ret
  exact ⟨ret_bool (by simp [isB]; omega), rfl⟩
theorem plus_any (a b : Nat) (w : World) (ha : a < 256) (hb : b < 256) : Calls Tryz.prog 110 #[.int .u8 (a : Int), .int .u8 (b : Int)] w fun e w' => e = .returned (.int .u8 ((a ^^^ b : Nat) : Int)) ∧ w' = w := by
 have hx := u8_xor_nat a b ha hb
 go_enter Tryz.func110, Tryz.ntmps110
 go_wp2
 go_ret
 exact ⟨rfl, rfl⟩
theorem times_any (a b : Nat) (w : World) (ha : a < 256) (hb : b < 256) :
  Calls Tryz.prog 111 #[.int .u8 (a : Int), .int .u8 (b : Int)] w fun e w' => e = .returned (.int .u8 (Gf.mul a b : Nat)) ∧ Below w.heap.size w w' := by
 by_cases a0 : a = 0
 ·subst a0
  have hm := Gf.zero_mul hb
  go_enter Tryz.func111, Tryz.ntmps111
  go_wp2
  go_ret
  exact ⟨ret_int (by rw [hm]; rfl), Below.refl _ _⟩
 ·have a0' : ((a : Int) == 0) = false := by simp; omega
  by_cases b0 : b = 0
  ·subst b0
   have hm := Gf.mul_zero ha
   go_enter Tryz.func111, Tryz.ntmps111
   go_wp2
   go_ret
   exact ⟨ret_int (by rw [hm]; rfl), Below.refl _ _⟩
  ·have b0' : ((b : Int) == 0) = false := by simp; omega
   have hm : Hid (Gf.mul a b = Gf.ex ((Gf.lg a + Gf.lg b) % 255)) := Gf.mul_nz ha hb a0 b0
   have hl1 := Gf.lg_lt' a
   have hl2 := Gf.lg_lt' b
   go_enter Tryz.func111, Tryz.ntmps111
   go_wp2_with fail
   refine (log_any a _ ha).mono ?_
   rintro e w1 ⟨rfl, hb1⟩
   go_wp2_with fail
   refine (log_any b _ hb).mono ?_
   rintro e w2 ⟨rfl, hb2⟩
   go_wp2_with fail
   refine (pow2_any _ _).mono ?_
   rintro e w3 ⟨rfl, hb3⟩
   go_wp2
   go_ret
   exact ⟨ret_int (by rw [hm.out, show (((Gf.lg a : Nat) : Int) + ((Gf.lg b : Nat) : Int)) % 255 = (((Gf.lg a + Gf.lg b) % 255 : Nat) : Int) by omega, Int.toNat_natCast]), below3 hb1 hb2 hb3⟩
theorem inverse_any (a : Nat) (w : World) (ha : a < 256) :
  Calls Tryz.prog 155 #[.int .u8 (a : Int)] w fun e w' => e = .returned (.int .u8 (Gf.inv a : Nat)) ∧ Below w.heap.size w w' := by
 have hl1 := Gf.lg_lt' a
 go_enter Tryz.func155, Tryz.ntmps155
 go_wp2_with fail
 refine (log_any a _ ha).mono ?_
 rintro e w1 ⟨rfl, hb1⟩
 go_wp2_with fail
 refine (pow2_any _ _).mono ?_
 rintro e w2 ⟨rfl, hb2⟩
 go_wp2
 go_ret
 refine ⟨ret_int ?_, below2 hb1 hb2⟩
 unfold Gf.inv
 congr 2
 omega
def inB (x a b : Int) : Bool := decide (a ≤ x ∧ x ≤ b)
theorem sIn_any (x a b : Int) (w : World) : Calls Tryz.prog 83 #[.int .i64 x, .int .i64 a, .int .i64 b] w fun e w' => e = .returned (.bool (inB x a b)) ∧ w' = w := by
 go_enter Tryz.func83, Tryz.ntmps83
 go_wp2
 ·go_ret
  exact ⟨ret_bool (by simp [inB, *]), rfl⟩
 ·go_ret
  exact ⟨ret_bool (by simp [inB]; omega), rfl⟩
theorem sIs_any (a : Int) (w : World) : Calls Tryz.prog 121 #[.int .i64 a] w fun e w' => e = .returned (.bool (isB a)) ∧ w' = w := by
 go_enter Tryz.func121, Tryz.ntmps121
 go_wp2_with fail
 refine (sIn_any _ _ _ _).mono ?_
 rintro e w1 ⟨rfl, rfl⟩
 go_wp2
 go_ret
 exact ⟨ret_bool rfl, rfl⟩
theorem pea_step (k A B X : Nat) : Gf.pea (k + 1) A B X = Gf.pea k (Gf.dbl A) (B / 2) (if B % 2 = 1 then X ^^^ A else X) := rfl
theorem sMul_nat (a b : Nat) (w : World) (ha : a < 256) (hb : b < 256) :
  Calls Tryz.prog 166 #[.int .i64 (a : Int), .int .i64 (b : Int)] w fun e w' => e = .returned (.int .i64 (Gf.mul a b : Nat)) ∧ w' = w := by
 have ia := isB_ofNat ha
 have ib := isB_ofNat hb
 go_enter Tryz.func166, Tryz.ntmps166
 go_wp2_with (go_at_call 121; refine (sIs_any _ _).mono ?_; rintro e w' ⟨rfl, rfl⟩)
 go_loop [0, 1, 5] (fun p q r => ∃ A B X k : Nat, A < 256 ∧ X < 256 ∧ k ≤ 8 ∧ B < 2 ^ k ∧ Hid (Gf.pea k A B X = Gf.mul a b) ∧ p = .int .i64 A ∧ q = .int .i64 B ∧ r = .int .i64 X) (fun _ q _ => (intOf q).toNat)
 case atStart => exact ⟨a, b, 0, 8, ha, by omega, by omega, by omega, rfl, rfl, rfl, rfl⟩
 case round =>
  obtain ⟨A, B, X, k, hA, hX, hk, hB, HP, rfl, rfl, rfl⟩ := hrel
  clear ia ib
  have hB8 : B < 256 := Nat.lt_of_lt_of_le hB (Nat.pow_le_pow_right (by omega) hk)
  by_cases hz : B = 0
  ·subst hz
   go_wp2
   go_ret
   exact ⟨ret_int (by rw [← HP.out, Gf.pea_zero]), rfl⟩
  ·obtain ⟨j, rfl⟩ : ∃ j, k = j + 1 := ⟨k - 1, by
    rcases Nat.eq_zero_or_pos k with h | h
    ·subst h; simp at hB; omega
    ·omega⟩
   have hpos : 0 < (B : Int) := by omega
   have hB2 : Hid (B / 2 < 2 ^ j) := by
    have : B < 2 ^ j * 2 := by rw [← Nat.pow_succ]; exact hB
    show B / 2 < 2 ^ j
    omega
   clear hB
   have hxa : bits .xor .i64 (X : Int) (A : Int) = ((X ^^^ A : Nat) : Int) := xor_i64 X A (by omega) (by omega)
   have hxs : bits .xor .i64 (2 * (A : Int)) 285 = (((2 * A) ^^^ 285 : Nat) : Int) := by
    have := xor_i64 (2 * A) 285 (by omega) (by omega)
    simpa using this
   have hlt : Hid (X ^^^ A < 256) := Gf.xor_lt hX hA
   have hdl : Hid (Gf.dbl A < 256) := Gf.dbl_lt hA
   by_cases ho : B % 2 = 1
   ·have ho' : ((B : Int) % 2 == 1) = true := by simp; omega
    by_cases hg : 255 < 2 * A
    ·have hg' : 255 < 2 * (A : Int) := by omega
     have hd : Hid (Gf.dbl A = (2 * A) ^^^ 285) := by show Gf.dbl A = _; simp [Gf.dbl, hg]
     go_wp2
     go_round
     case rel => exact ⟨Gf.dbl A, B / 2, X ^^^ A, j, hdl.out, hlt.out, by omega, hB2.out, by have h := HP.out; rw [pea_step, if_pos ho] at h; exact h, by rw [hd.out], by go_num, rfl⟩
     case measure => simp [intOf]; omega
    ·have hg' : ¬ 255 < 2 * (A : Int) := by omega
     have hd : Hid (Gf.dbl A = 2 * A) := by show Gf.dbl A = _; simp [Gf.dbl, hg]
     go_wp2
     go_round
     case rel => exact ⟨Gf.dbl A, B / 2, X ^^^ A, j, hdl.out, hlt.out, by omega, hB2.out, by have h := HP.out; rw [pea_step, if_pos ho] at h; exact h, by rw [hd.out]; go_num, by go_num, rfl⟩
     case measure => simp [intOf]; omega
   ·have ho' : ((B : Int) % 2 == 1) = false := by simp; omega
    by_cases hg : 255 < 2 * A
    ·have hg' : 255 < 2 * (A : Int) := by omega
     have hd : Hid (Gf.dbl A = (2 * A) ^^^ 285) := by show Gf.dbl A = _; simp [Gf.dbl, hg]
     go_wp2
     go_round
     case rel => exact ⟨Gf.dbl A, B / 2, X, j, hdl.out, hX, by omega, hB2.out, by have h := HP.out; rw [pea_step, if_neg ho] at h; exact h, by rw [hd.out], by go_num, rfl⟩
     case measure => simp [intOf]; omega
    ·have hg' : ¬ 255 < 2 * (A : Int) := by omega
     have hd : Hid (Gf.dbl A = 2 * A) := by show Gf.dbl A = _; simp [Gf.dbl, hg]
     go_wp2
     go_round
     case rel => exact ⟨Gf.dbl A, B / 2, X, j, hdl.out, hX, by omega, hB2.out, by have h := HP.out; rw [pea_step, if_neg ho] at h; exact h, by rw [hd.out]; go_num, by go_num, rfl⟩
     case measure => simp [intOf]; omega
theorem sPow_nat (a n : Nat) (w : World) (ha : a < 256) (hn : n ≤ 1000000) :
  Calls Tryz.prog 165 #[.int .i64 (a : Int), .int .i64 (n : Int)] w fun e w' => e = .returned (.int .i64 (Gf.gpow a n : Nat)) ∧ w' = w := by
 have ia := isB_ofNat ha
 have ib : inB (n : Int) 0 1000000 = true := by simp [inB]; omega
 go_enter Tryz.func165, Tryz.ntmps165
 go_wp2_with (first | (go_at_call 121; refine (sIs_any _ _).mono ?_; rintro e w' ⟨rfl, rfl⟩) | (go_at_call 83; refine (sIn_any _ _ _ _).mono ?_; rintro e w' ⟨rfl, rfl⟩))
 go_loop [0, 1, 5] (fun p q r => ∃ A N X : Nat, A < 256 ∧ X < 256 ∧ N ≤ 1000000 ∧ Hid (Gf.mul X (Gf.gpow A N) = Gf.gpow a n) ∧ p = .int .i64 A ∧ q = .int .i64 N ∧ r = .int .i64 X) (fun _ q _ => (intOf q).toNat)
 case atStart => exact ⟨a, n, 1, ha, by omega, hn, Gf.one_mul (Gf.gpow_lt _ _), rfl, rfl, rfl⟩
 case round =>
  obtain ⟨A, N, X, hA, hX, hN, HP, rfl, rfl, rfl⟩ := hrel
  clear ia ib
  by_cases hz : N = 0
  ·subst hz
   go_wp2
   go_ret
   exact ⟨ret_int (by rw [← HP.out, Gf.gpow_zero, Gf.mul_one hX]), rfl⟩
  ·have hpos : 0 < (N : Int) := by omega
   have hr : Hid (Gf.mul (if N % 2 = 1 then Gf.mul X A else X) (Gf.gpow (Gf.mul A A) (N / 2)) = Gf.gpow a n) := by
    show _ = _
    rw [Gf.gpow_round hA hX (by omega)]; exact HP.out
   have h1 : Hid (Gf.mul A A < 256) := Gf.mul_lt hA hA
   have h2 : Hid (Gf.mul X A < 256) := Gf.mul_lt hX hA
   by_cases ho : N % 2 = 1
   ·have ho' : ((N : Int) % 2 == 1) = true := by simp; omega
    go_wp2_with fail
    refine (sMul_nat X A _ hX hA).mono ?_
    rintro e w1 ⟨rfl, rfl⟩
    go_wp2_with fail
    refine (sMul_nat A A _ hA hA).mono ?_
    rintro e w1 ⟨rfl, rfl⟩
    go_wp2
    go_round
    case rel => exact ⟨Gf.mul A A, N / 2, Gf.mul X A, h1.out, h2.out, by omega, by have h := hr.out; rw [if_pos ho] at h; exact h, rfl, by go_num, rfl⟩
    case measure => simp [intOf]; omega
   ·have ho' : ((N : Int) % 2 == 1) = false := by simp; omega
    go_wp2_with fail
    refine (sMul_nat A A _ hA hA).mono ?_
    rintro e w1 ⟨rfl, rfl⟩
    go_wp2
    go_round
    case rel => exact ⟨Gf.mul A A, N / 2, X, h1.out, hX, by omega, by have h := hr.out; rw [if_neg ho] at h; exact h, rfl, by go_num, rfl⟩
    case measure => simp [intOf]; omega
theorem sPow_any (a n : Int) (w : World) : Calls Tryz.prog 165 #[.int .i64 a, .int .i64 n] w fun e w' => e = .returned (.int .i64 (powI a n)) ∧ w' = w := by
 by_cases ha : isB a = true
 ·by_cases hb : inB n 0 1000000 = true
  ·obtain ⟨A, hA, rfl⟩ := isB_nat ha
   simp [inB] at hb
   obtain ⟨M, rfl⟩ := Int.eq_ofNat_of_zero_le hb.1
   refine (sPow_nat A M w hA (by omega)).mono ?_
   rintro e w' ⟨rfl, rfl⟩
   exact ⟨ret_int (by simp only [powI]; rw [if_pos ⟨ha, by omega, by omega⟩]; simp), rfl⟩
  ·have hb' : inB n 0 1000000 = false := by simpa using hb
   have hb2 : ¬ (0 ≤ n ∧ n ≤ 1000000) := by simpa [inB] using hb
   go_enter Tryz.func165, Tryz.ntmps165
   go_wp2_with (first | (go_at_call 121; refine (sIs_any _ _).mono ?_; rintro e w' ⟨rfl, rfl⟩) | (go_at_call 83; refine (sIn_any _ _ _ _).mono ?_; rintro e w' ⟨rfl, rfl⟩))
   go_ret
   exact ⟨ret_int (by simp only [powI]; rw [if_neg (fun h => hb2 h.2)]), rfl⟩
 ·have ha' : isB a = false := by simpa using ha
  go_enter Tryz.func165, Tryz.ntmps165
  go_wp2_with (first | (go_at_call 121; refine (sIs_any _ _).mono ?_; rintro e w' ⟨rfl, rfl⟩) | (go_at_call 83; refine (sIn_any _ _ _ _).mono ?_; rintro e w' ⟨rfl, rfl⟩))
  go_ret
  exact ⟨ret_int (by simp [powI, ha]), rfl⟩
theorem sInv_any (a : Int) (w : World) : Calls Tryz.prog 124 #[.int .i64 a] w fun e w' => e = .returned (.int .i64 (invI a)) ∧ w' = w := by
 by_cases h : 1 ≤ a ∧ a ≤ 255
 ·have hi : inB a 1 255 = true := by simp [inB, h]
  have hv : Hid (powI a 254 = invI a) := by
   show _ = _
   simp only [powI, invI]
   rw [if_pos ⟨by simp [isB]; omega, by omega, by omega⟩, if_pos h, show Int.toNat 254 = 254 from rfl, Gf.gpow_inv (by omega) (by omega)]
  go_enter Tryz.func124, Tryz.ntmps124
  go_wp2_with (first | (go_at_call 83; refine (sIn_any _ _ _ _).mono ?_; rintro e w' ⟨rfl, rfl⟩) | (go_at_call 165; refine (sPow_any _ _ _).mono ?_; rintro e w' ⟨rfl, rfl⟩))
  go_ret
  exact ⟨ret_int hv.out, rfl⟩
 ·have hi : inB a 1 255 = false := by simp [inB]; omega
  go_enter Tryz.func124, Tryz.ntmps124
  go_wp2_with (go_at_call 83; refine (sIn_any _ _ _ _).mono ?_; rintro e w' ⟨rfl, rfl⟩)
  go_ret
  exact ⟨ret_int (by simp only [invI]; rw [if_neg h]), rfl⟩
end Go.Proofs.YtmhcdkbgjjibeaaGreatDoor
namespace Go.Proofs.YtmhcdkbgjjibeaaGreatDoor
open Gs (U rolI)
theorem rotate_any (x : BitVec 64) (n : Int) (w : World) : Calls Tryz.prog 206 #[.int .u64 (U x), .int .i64 n] w fun e w' => e = .returned (.int .u64 (U (rolI x n))) ∧ w' = w := by
 obtain ⟨s, HS⟩ : ∃ s : Nat, Hid (s = (n % 64).toNat) := ⟨_, rfl⟩
 have hs64 : s < 64 := by have := HS.out; omega
 have ha : bits .and .u64 (IntKind.u64.wrap n) 63 = (s : Int) := by
  obtain ⟨m, hm⟩ : ∃ m : Nat, IntKind.u64.wrap n = (m : Int) := ⟨(IntKind.u64.wrap n).toNat, by rw [IntKind.wrap_u64]; omega⟩
  have hm2 := hm
  rw [IntKind.wrap_u64] at hm2
  rw [hm]
  have := bits_and_u64_nat m 63 (by omega) (by omega)
  rw [show ((63 : Nat) : Int) = 63 from rfl] at this
  rw [this, show (63 : Nat) = 2 ^ 6 - 1 from rfl, Nat.and_two_pow_sub_one_eq_mod]
  have := HS.out
  omega
 go_enter Tryz.func206, Tryz.ntmps206
 go_wp2
 go_ret
 refine ⟨ret_int ?_, rfl⟩
 rw [ Gs.U_shl, Gs.U_shr, Gs.U_or, Gs.rol_shifts _ _ hs64, HS.out]
 rfl
theorem roll_any (x : BitVec 64) (n : Int) (w : World) : Calls Tryz.prog 205 #[.int .u64 (U x), .int .i64 n] w fun e w' => e = .returned (.int .u64 (U (rolI x n))) ∧ w' = w := by
 go_enter Tryz.func205, Tryz.ntmps205
 go_wp2_with fail
 refine (rotate_any x n _).mono ?_
 rintro e w' ⟨rfl, hw⟩
 obtain rfl := hw.symm
 go_wp2
 go_ret
 exact ⟨rfl, rfl⟩
theorem tmod64 (n : Int) : n.tmod 64 = n % 64 ∨ n.tmod 64 = n % 64 - 64 ∧ n % 64 ≠ 0 ∧ n < 0 := by
 rw [Int.tmod_eq_emod]
 split
 ·omega
 ·simp only [show (64 : Int).natAbs = 64 from rfl]
  omega
theorem shl1 (x : BitVec 64) : IntKind.u64.wrap (U x * 2) = U (x <<< 1) := Gs.U_shl x 1
theorem shr63 (x : BitVec 64) : U x / (9223372036854775808 : Int) = U (x >>> 63) := Gs.U_shr x 63
theorem sRoll_any (x : BitVec 64) (n : Int) (w : World) : Calls Tryz.prog 201 #[.int .u64 (U x), .int .i64 n] w fun e w' => e = .returned (.int .u64 (U (rolI x n))) ∧ w' = w := by
 obtain ⟨r, HR⟩ : ∃ r : Nat, Hid (r = (n % 64).toNat) := ⟨_, rfl⟩
 have hr64 : r < 64 := by have := HR.out; omega
 by_cases hn : n.tmod 64 < 0
 ·have hr : n.tmod 64 + 64 = (r : Int) := by have := HR.out; have := tmod64 n; omega
  go_enter Tryz.func201, Tryz.ntmps201
  go_wp2
  go_loop [0, 6] (fun v i => ∃ k : Nat, k ≤ r ∧ i = .int .i64 k ∧ v = .int .u64 (U (Gs.rol x k))) (fun _ i => r - (intOf i).toNat)
  case atStart => exact ⟨0, Nat.zero_le _, rfl, by rw [Gs.rol_zero]⟩
  case round =>
   obtain ⟨k, hk, rfl, rfl⟩ := hrel
   by_cases hlt : k < r
   ·have hlti : (k : Int) < (r : Int) := by omega
    go_wp2
    exact ⟨⟨k + 1, by omega, by go_num, by rw [shl1, shr63, Gs.U_or, Gs.rol_one]⟩, by simp [intOf]; omega⟩
   ·have e : k = r := by omega
    subst e
    go_wp2
    go_ret
    have e2 : rolI x n = Gs.rol x k := by unfold rolI; rw [← HR.out]
    exact ⟨by rw [e2]; rfl, rfl⟩
 ·have hr : n.tmod 64 = (r : Int) := by have := HR.out; have := tmod64 n; omega
  go_enter Tryz.func201, Tryz.ntmps201
  go_wp2
  go_loop [0, 6] (fun v i => ∃ k : Nat, k ≤ r ∧ i = .int .i64 k ∧ v = .int .u64 (U (Gs.rol x k))) (fun _ i => r - (intOf i).toNat)
  case atStart => exact ⟨0, Nat.zero_le _, rfl, by rw [Gs.rol_zero]⟩
  case round =>
   obtain ⟨k, hk, rfl, rfl⟩ := hrel
   by_cases hlt : k < r
   ·have hlti : (k : Int) < (r : Int) := by omega
    go_wp2
    exact ⟨⟨k + 1, by omega, by go_num, by rw [shl1, shr63, Gs.U_or, Gs.rol_one]⟩, by simp [intOf]; omega⟩
   ·have e : k = r := by omega
    subst e
    go_wp2
    go_ret
    have e2 : rolI x n = Gs.rol x k := by unfold rolI; rw [← HR.out]
    exact ⟨by rw [e2]; rfl, rfl⟩
end Go.Proofs.YtmhcdkbgjjibeaaGreatDoor
namespace Go.Proofs.YtmhcdkbgjjibeaaGreatDoor
def IntsAt (w : World) (a : Option Addr) (n : Nat) (zs : List Int) : Prop :=
 zs.length = n ∧ ∀ i, i < n → ∃ b off, a = some ⟨b, off, none⟩ ∧ w.cell? ⟨b, off + i, none⟩ = some (.int .i64 (zs.getD i 0))
theorem IntsAt.below {w w' : World} {a : Option Addr} {n : Nat} {zs : List Int} (h : IntsAt w a n zs) (hb : Below w.heap.size w w') : IntsAt w' a n zs := by
 refine ⟨h.1, fun i hi => ?_⟩
 obtain ⟨b, off, e, hc⟩ := h.2 i hi
 exact ⟨b, off, e, (hb.cell (p := ⟨b, off + i, none⟩) (block_lt_of_cell hc)).trans hc⟩
theorem IntsAt.some {w : World} {a : Option Addr} {n : Nat} {zs : List Int} (h : IntsAt w a n zs) (hn : 0 < n) : ∃ b off, a = some ⟨b, off, none⟩ ∧ ∀ i, i < n → w.cell? ⟨b, off + i, none⟩ = .some (.int .i64 (zs.getD i 0)) := by
 obtain ⟨b, off, e, _⟩ := h.2 0 hn
 refine ⟨b, off, e, fun i hi => ?_⟩
 obtain ⟨b', off', e', hc⟩ := h.2 i hi
 rw [e] at e'
 simp at e'
 obtain ⟨rfl, rfl⟩ := e'
 exact hc
theorem IsRow.ints {w : World} {a : Option Addr} {len cap : Nat} {zs : List Int} (h : IsRow .i64 w a len cap zs) : len ≤ cap ∧ IntsAt w a len (zs.take len) ∧ ∀ n ∈ zs.take len, (Lit.int .i64 n).wf = true := by
 rcases h with ⟨rfl, rfl, rfl, rfl⟩ | ⟨x, rfl, hl, hm, hz, hcell, hwz⟩
 ·exact ⟨Nat.le_refl _, ⟨rfl, fun i hi => absurd hi (by omega)⟩, by simp⟩
 ·refine ⟨hl, ⟨by rw [List.length_take]; omega, fun i hi => ?_⟩, fun n hn => hwz n (List.mem_of_mem_take hn)⟩
  obtain ⟨b, off, spot⟩ := x
  have hc := hcell i (by omega)
  have hspot : spot = none := by simpa [Addr.add] using World.cell?_spot (hcell 0 (by omega))
  subst hspot
  refine ⟨b, off, rfl, ?_⟩
  have e : (zs.take len).getD i 0 = zs.getD i 0 := by simp [hi]
  rw [e]
  have ea : (⟨b, off, none⟩ : Addr).add i = ⟨b, off + i, none⟩ := by unfold Addr.add; split <;> simp_all
  rw [← ea]
  exact hc
theorem ownsRow.ints {w : World} {B E g n cap : Nat} {zs : List Int} (h : w.ownsRow B E 1 (.slice (some ⟨g, 0, none⟩) n cap) n (zs.map (Value.int .i64))) : IntsAt w (some ⟨g, 0, none⟩) n zs := by
 have hl : zs.length = n := by simpa using h.1
 refine ⟨hl, fun i hi => ⟨g, 0, rfl, ?_⟩⟩
 rw [Nat.zero_add, h.cellAt i (by omega)]
 simp [hl, hi]
theorem ownsRow_below {w w' : World} {B e size n : Nat} {v : Value} {xs : List Value} (h : w.ownsRow B e size v n xs) (hb : Below w.heap.size w w') : w'.ownsRow B e size v n xs := by
 refine ⟨h.1, ?_⟩
 rcases h.2 with h' | ⟨g, cap, cur, h1, h2, h3, h4⟩
 ·exact .inl h'
 ·refine .inr ⟨g, cap, cur, h1, h2, ?_, h4⟩
  rw [hb.block g (Array.getElem?_eq_some_iff.1 h3).1]
  exact h3
theorem take_snoc (xs : List Int) (k : Nat) (h : k < xs.length) : xs.take (k + 1) = xs.take k ++ [xs.getD k 0] := by
 rw [List.take_succ_eq_append_getElem h]
 simp [h]
theorem Tryz.infoByte : (Tryz.prog.info? 5).map (fun i => (i.zero, i.size, i.bytes)) = some (some (.int .u8 0), 1, 1) := by kernel_rfl
theorem Tryz.infoInt : (Tryz.prog.info? 3).map (fun i => (i.zero, i.size, i.bytes)) = some (some (.int .i64 0), 1, 8) := by kernel_rfl
theorem copied_set (d : IntKind) (zs : List Int) (n k : Nat) (hn : zs.length = n) (hk : k < n) :
  ((zs.take k ++ List.replicate (n - k) 0).map (Value.int d)).set k (.int d (zs.getD k 0)) = (zs.take (k + 1) ++ List.replicate (n - (k + 1)) 0).map (Value.int d) := by
 apply List.ext_getElem?
 intro j
 simp only [List.getElem?_set, List.getElem?_map, List.getElem?_append, List.length_take, List.length_map, List.length_append, List.length_replicate, List.getElem?_take, List.getElem?_replicate]
 by_cases h1 : k = j
 ·subst h1
  simp [hn, hk, show min k n = k by omega, show min (k + 1) n = k + 1 by omega, show k < k + (n - k) by omega]
 ·by_cases h2 : j < k
  ·simp [h1, h2, hn, show j < min k n by omega, show j < min (k + 1) n by omega, show j < k + 1 by omega]
  ·by_cases h3 : j < n
   ·simp [h1, hn, show ¬ j < min k n by omega, show ¬ j < min (k + 1) n by omega, show j - min k n < n - k by omega, show j - min (k + 1) n < n - (k + 1) by omega]
   ·simp [h1, hn, show ¬ j < min k n by omega, show ¬ j < min (k + 1) n by omega, show ¬ j - min k n < n - k by omega, show ¬ j - min (k + 1) n < n - (k + 1) by omega]
theorem toIntS_any (a : Option Addr) (n cap : Nat) (zs : List Int) (w : World) (h : IntsAt w a n zs) (hn : n ≤ 1048576) :
  Calls Tryz.prog 20 #[.slice a n cap] w fun e w' => e = .returned (.slice (some ⟨w.heap.size, 0, none⟩) n n) ∧ w'.ownsRow w.heap.size 3 1 (.slice (some ⟨w.heap.size, 0, none⟩) n n) n (zs.map (Value.int .i64)) ∧ Below w.heap.size w w' := by
 obtain ⟨i0, hi, hz0, hz1, hz2⟩ := info_parts Tryz.infoInt
 obtain ⟨hlen, hcells⟩ := h
 have HL : Hid (zs.length = n) := hlen
 clear hlen
 go_enter Tryz.func20, Tryz.ntmps20
 go_wp2_with (at_make; refine wpList_make_full _ rfl _ _ 23 rfl w.heap.size 3 i0 (.int .i64 0) 1 Tryz.underlying23 hi hz0 hz1 .i64 .i64 _ _ n rfl rfl rfl rfl (by rw [hz2]; omega) (by unfold maxLen; omega) (Nat.le_refl _) ?_; intro w1 hown hgrow)
 have hb1 : Below w.heap.size w w1 := (Below.refl _ _).grown hgrow (Nat.le_refl _) (by simp)
 have ho1 : w1.ownsRow w.heap.size 3 1 (.slice (some ⟨w.heap.size, 0, none⟩) n n) n ((zs.take 0 ++ List.replicate (n - 0) 0).map (Value.int .i64)) := by
  simpa [Value.cells, toList_madeCells_one] using hown
 clear hown hgrow
 go_loopw [4] (fun i wr => ∃ k : Nat, k ≤ n ∧ i = .int .i64 k ∧ wr.ownsRow w.heap.size 3 1 (.slice (some ⟨w.heap.size, 0, none⟩) n n) n ((zs.take k ++ List.replicate (n - k) 0).map (Value.int .i64)) ∧ Below w.heap.size w wr) (fun i _ => n - (intOf i).toNat)
 case atStart => exact ⟨0, Nat.zero_le _, rfl, ho1, hb1⟩
 case round =>
  obtain ⟨k, hk, rfl, hown, hbel⟩ := hrel
  clear ho1 hb1
  by_cases hlt : k < n
  ·obtain ⟨b, off, rfl, hc⟩ := hcells k hlt
   have hcx : wr.cell? ⟨b, off + k, none⟩ = some (.int .i64 (zs.getD k 0)) := (hbel.cell (p := ⟨b, off + k, none⟩) (block_lt_of_cell hc)).trans hc
   obtain ⟨old, hold⟩ : ∃ v, wr.cell? ⟨w.heap.size, k, none⟩ = some v := by
    rw [hown.cellAt k (by omega)]
    exact ⟨_, List.getElem?_eq_getElem (by rw [hown.1]; omega)⟩
   have hfr := hown.frozenAt k
   have hst := hown.stored k (.int .i64 (zs.getD k 0))
   rw [copied_set .i64 zs n k HL.out hlt] at hst
   have hne : Below w.heap.size w (wr.setCell ⟨w.heap.size, k, none⟩ (.int .i64 (zs.getD k 0))) := hbel.setCell (Nat.le_refl _) _
   have HO : Hid _ := hst.1
   clear hst hown hcells hc
   go_wp2
   go_roundw
   case rel => exact ⟨k + 1, by omega, by go_num, HO.out, hne⟩
   case measure => simp [intOf]; omega
  ·have e : k = n := by omega
   subst e
   go_wp2
   go_ret
   refine ⟨rfl, ?_, hbel⟩
   have e2 : zs.take k ++ List.replicate (k - k) 0 = zs := by rw [List.take_of_length_le (by rw [HL.out]; omega)]; simp
   rw [e2] at hown
   exact hown
theorem eqIntS_same (a b : Option Addr) (n ca cb : Nat) (zs : List Int) (w : World) (ha : IntsAt w a n zs) (hb : IntsAt w b n zs) (hn : n ≤ 1048576) :
  Calls Tryz.prog 28 #[.slice a n ca, .slice b n cb] w fun e w' => e = .returned (.bool true) ∧ Below w.heap.size w w' := by
 go_enter Tryz.func28, Tryz.ntmps28
 go_wp2
 go_loopw [5] (fun i wr => ∃ k : Nat, k ≤ n ∧ i = .int .i64 k ∧ Below w.heap.size w wr) (fun i _ => n - (intOf i).toNat)
 case atStart => exact ⟨0, Nat.zero_le _, rfl, Below.refl _ _⟩
 case round =>
  obtain ⟨k, hk, rfl, hbel⟩ := hrel
  have ha' := ha.below hbel
  have hb' := hb.below hbel
  clear ha hb
  by_cases hlt : k < n
  ·obtain ⟨ba, oa, rfl, hca⟩ := ha'.2 k hlt
   obtain ⟨bb, ob, rfl, hcb⟩ := hb'.2 k hlt
   clear ha' hb'
   obtain ⟨x, HX⟩ : ∃ x, x = zs.getD k 0 := ⟨_, rfl⟩
   rw [← HX] at hca hcb
   clear HX
   go_wp2
   go_quiet (fail)
   go_wp2
   go_roundw
   case rel => exact ⟨k + 1, by omega, by go_num, below_drewN hbel _⟩
   case measure => simp [intOf]; omega
  ·go_wp2
   go_ret
   exact ⟨rfl, hbel⟩
theorem grownBy_trans {a b c : World} {row : Option Nat} (h : a.grownBy b row) (k : b.grownBy c row) : a.grownBy c row :=
 ⟨k.os.trans h.os, k.tape.trans h.tape, k.output.trans h.output, Nat.le_trans h.size k.size, fun j hj hn => (k.block j (Nat.lt_of_lt_of_le hj h.size) hn).trans (h.block j hj hn)⟩
theorem grownBy_drewN {w w' : World} {row : Option Nat} (h : w.grownBy w' row) (m : Nat) : w.grownBy (w'.drewN m) row := ⟨h.os, h.tape, h.output, h.size, h.block⟩
end Go.Proofs.YtmhcdkbgjjibeaaGreatDoor
namespace Go.Proofs.YtmhcdkbgjjibeaaGreatDoor
open Gs (U rolI V4 mx)
abbrev A4 (v : V4) : Value := .agg #[.int .u64 (U v.a), .int .u64 (U v.b), .int .u64 (U v.c), .int .u64 (U v.d)]
theorem belowDrewN {B : Nat} {a w : World} (h : Below B a w) (n : Nat) : Below B a (w.drewN n) := ⟨h.os, h.tape, h.output, h.size, h.block⟩
theorem mix_any (v : V4) (w : World) : Calls Tryz.prog 204 #[A4 v] w fun e w' => e = .returned (A4 (mx v)) ∧ Below w.heap.size w w' := by
 obtain ⟨a, b, c, d⟩ := v
 have hadd := Gs.U_add
 have hxor := Gs.U_xor
 go_enter Tryz.func204, Tryz.ntmps204
 go_wp2_with fail
 go_quiet (fail)
 go_wp2_with (go_at_call 205; refine (roll_any _ _ _).mono ?_; rintro e w' ⟨rfl, hw⟩; obtain rfl := hw.symm)
 refine bodyPost_ret (v := A4 (mx ⟨a, b, c, d⟩)) (by simp [results, Tryz.results204, go_sem, mx]) rfl ⟨rfl, ?_⟩
 refine Below.setCell (Below.setCell (Below.setCell (Below.setCell ?_ (by simp) _) (by simp) _) (by simp) _) (by simp) _
 exact belowDrewN (((Below.refl _ _).alloc (Nat.le_refl _) _).alloc (by simp) _) nq
theorem Tryz.info4 : (Tryz.prog.info? 259).map (·.size) = some 4 := by kernel_rfl
theorem Tryz.mixed : Tryz.prog.follows .mixedOrders = true := by kernel_rfl
abbrev C4 (v : V4) : Array Value := #[.int .u64 (U v.a), .int .u64 (U v.b), .int .u64 (U v.c), .int .u64 (U v.d)]
structure Own4 (w0 w : World) (g : Nat) (v : V4) : Prop where
 row : Row w g 259 (C4 v)
 res : ∃ z, Row w (g + 1) 259 (C4 z)
 bel : Below g w0 w
theorem Own4.set0 {w0 w : World} {g : Nat} {a b c d : BitVec 64} (h : Own4 w0 w g ⟨a, b, c, d⟩) (x : BitVec 64) : Own4 w0 (w.setCell ⟨g, 0, none⟩ (.int .u64 (U x))) g ⟨x, b, c, d⟩ :=
 ⟨h.row.set 0 _, by obtain ⟨z, hz⟩ := h.res; exact ⟨z, hz.other _ _ (by omega)⟩, h.bel.setCell (Nat.le_refl _) _⟩
theorem Own4.set1 {w0 w : World} {g : Nat} {a b c d : BitVec 64} (h : Own4 w0 w g ⟨a, b, c, d⟩) (x : BitVec 64) : Own4 w0 (w.setCell ⟨g, 1, none⟩ (.int .u64 (U x))) g ⟨a, x, c, d⟩ :=
 ⟨h.row.set 1 _, by obtain ⟨z, hz⟩ := h.res; exact ⟨z, hz.other _ _ (by omega)⟩, h.bel.setCell (Nat.le_refl _) _⟩
theorem Own4.set2 {w0 w : World} {g : Nat} {a b c d : BitVec 64} (h : Own4 w0 w g ⟨a, b, c, d⟩) (x : BitVec 64) : Own4 w0 (w.setCell ⟨g, 2, none⟩ (.int .u64 (U x))) g ⟨a, b, x, d⟩ :=
 ⟨h.row.set 2 _, by obtain ⟨z, hz⟩ := h.res; exact ⟨z, hz.other _ _ (by omega)⟩, h.bel.setCell (Nat.le_refl _) _⟩
theorem Own4.set3 {w0 w : World} {g : Nat} {a b c d : BitVec 64} (h : Own4 w0 w g ⟨a, b, c, d⟩) (x : BitVec 64) : Own4 w0 (w.setCell ⟨g, 3, none⟩ (.int .u64 (U x))) g ⟨a, b, c, x⟩ :=
 ⟨h.row.set 3 _, by obtain ⟨z, hz⟩ := h.res; exact ⟨z, hz.other _ _ (by omega)⟩, h.bel.setCell (Nat.le_refl _) _⟩
theorem Own4.drew {w0 w : World} {g : Nat} {v : V4} (h : Own4 w0 w g v) : Own4 w0 w.drew g v := ⟨h.row, h.res, h.bel.drew⟩
theorem Own4.cells {w0 w : World} {g : Nat} {a b c d : BitVec 64} (h : Own4 w0 w g ⟨a, b, c, d⟩) :
  w.cell? ⟨g, 0, none⟩ = some (.int .u64 (U a)) ∧ w.cell? ⟨g, 1, none⟩ = some (.int .u64 (U b)) ∧ w.cell? ⟨g, 2, none⟩ = some (.int .u64 (U c)) ∧ w.cell? ⟨g, 3, none⟩ = some (.int .u64 (U d)) ∧ w.frozen? ⟨g, 0, none⟩ = false ∧ w.frozen? ⟨g, 1, none⟩ = false ∧ w.frozen? ⟨g, 2, none⟩ = false ∧ w.frozen? ⟨g, 3, none⟩ = false :=
 ⟨h.row.cell 0, h.row.cell 1, h.row.cell 2, h.row.cell 3, h.row.free 0, h.row.free 1, h.row.free 2, h.row.free 3⟩
theorem sMix_any (v : V4) (w : World) : Calls Tryz.prog 195 #[A4 v] w fun e w' => e = .returned (A4 (mx v)) ∧ Below w.heap.size w w' := by
 obtain ⟨a, b, c, d⟩ := v
 have hadd := Gs.U_add
 have hxor := Gs.U_xor
 obtain ⟨w1, HW1⟩ : ∃ w1, Hid (w1 = (w.alloc (.cells (C4 ⟨a + b, b, c, d⟩) 259)).alloc (.cells #[.int .u64 0, .int .u64 0, .int .u64 0, .int .u64 0] 259)) := ⟨_, rfl⟩
 have K1 : Hid (Own4 w w1 w.heap.size ⟨a + b, b, c, d⟩) := by
  rw [HW1.out]
  refine ⟨(Row.new w _ _).alloc _, ⟨⟨0, 0, 0, 0⟩, ?_⟩, ((Below.refl _ _).alloc (Nat.le_refl _) _).alloc (by simp) _⟩
  have := Row.new (w.alloc (.cells (C4 ⟨a + b, b, c, d⟩) 259)) #[.int .u64 0, .int .u64 0, .int .u64 0, .int .u64 0] 259
  rw [show (w.alloc (.cells (C4 ⟨a + b, b, c, d⟩) 259)).heap.size = w.heap.size + 1 by simp] at this
  exact this
 go_enter Tryz.func195, Tryz.ntmps195
 go_wp2_with fail
 rw [← HW1.out]
 obtain ⟨w2, HW2⟩ : ∃ w2, Hid (w2 = (((w1.drew.setCell ⟨w.heap.size, 1, none⟩ (.int .u64 (U ((rolI b 13 ^^^ (a + b)))))).setCell ⟨w.heap.size, 0, none⟩ (.int .u64 (U (rolI (a + b) 32)))).setCell ⟨w.heap.size, 2, none⟩ (.int .u64 (U (c + d))))) := ⟨_, rfl⟩
 have K2 : Hid (Own4 w w2 w.heap.size ⟨rolI (a + b) 32, (rolI b 13 ^^^ (a + b)), c + d, d⟩) := by rw [HW2.out]; exact (((K1.out.drew.set1 ((rolI b 13 ^^^ (a + b)))).set0 (rolI (a + b) 32)).set2 (c + d))
 obtain ⟨x1, HX1⟩ : ∃ x, Hid (x = w1.drew) := ⟨_, rfl⟩
 have J1 : Hid (Own4 w x1 w.heap.size ⟨a + b, b, c, d⟩) := by rw [HX1.out]; exact K1.out.drew
 obtain ⟨c0, c1, c2, c3, f0, f1, f2, f3⟩ := K1.out.cells
 go_still_tail 7, Tryz.mixed
 still_call (sRoll_any b 13 _)
 repeat still_step
 refine wpStill_nil ?_
 rw [fold_drew, ← HX1.out]
 clear c0 c1 c2 c3 f0 f1 f2 f3
 obtain ⟨w2, HW2⟩ : ∃ w2, Hid (w2 = (((x1.setCell ⟨w.heap.size, 1, none⟩ (.int .u64 (U ((rolI b 13 ^^^ (a + b)))))).setCell ⟨w.heap.size, 0, none⟩ (.int .u64 (U (rolI (a + b) 32)))).setCell ⟨w.heap.size, 2, none⟩ (.int .u64 (U (c + d))))) := ⟨_, rfl⟩
 have K2 : Hid (Own4 w w2 w.heap.size ⟨rolI (a + b) 32, (rolI b 13 ^^^ (a + b)), c + d, d⟩) := by rw [HW2.out]; exact (((J1.out.set1 ((rolI b 13 ^^^ (a + b)))).set0 (rolI (a + b) 32)).set2 (c + d))
 obtain ⟨c0, c1, c2, c3, f0, f1, f2, f3⟩ := J1.out.cells
 go_wp2_with (go_at_call 201; refine (sRoll_any _ _ _).mono ?_; rintro e w' ⟨rfl, hw⟩; obtain rfl := hw.symm)
 clear c0 c1 c2 c3 f0 f1 f2 f3
 rw [← HW2.out]
 obtain ⟨x2, HX2⟩ : ∃ x, Hid (x = w2.drew) := ⟨_, rfl⟩
 have J2 : Hid (Own4 w x2 w.heap.size ⟨rolI (a + b) 32, (rolI b 13 ^^^ (a + b)), c + d, d⟩) := by rw [HX2.out]; exact K2.out.drew
 obtain ⟨c0, c1, c2, c3, f0, f1, f2, f3⟩ := K2.out.cells
 go_still_tail 7, Tryz.mixed
 still_call (sRoll_any d 16 _)
 repeat still_step
 refine wpStill_nil ?_
 rw [fold_drew, ← HX2.out]
 clear c0 c1 c2 c3 f0 f1 f2 f3
 obtain ⟨w3, HW3⟩ : ∃ w3, Hid (w3 = ((x2.setCell ⟨w.heap.size, 3, none⟩ (.int .u64 (U ((rolI d 16 ^^^ (c + d)))))).setCell ⟨w.heap.size, 0, none⟩ (.int .u64 (U ((rolI (a + b) 32 + (rolI d 16 ^^^ (c + d)))))))) := ⟨_, rfl⟩
 have K3 : Hid (Own4 w w3 w.heap.size ⟨(rolI (a + b) 32 + (rolI d 16 ^^^ (c + d))), (rolI b 13 ^^^ (a + b)), c + d, (rolI d 16 ^^^ (c + d))⟩) := by rw [HW3.out]; exact ((J2.out.set3 ((rolI d 16 ^^^ (c + d)))).set0 ((rolI (a + b) 32 + (rolI d 16 ^^^ (c + d)))))
 obtain ⟨c0, c1, c2, c3, f0, f1, f2, f3⟩ := J2.out.cells
 go_wp2_with (go_at_call 201; refine (sRoll_any _ _ _).mono ?_; rintro e w' ⟨rfl, hw⟩; obtain rfl := hw.symm)
 clear c0 c1 c2 c3 f0 f1 f2 f3
 rw [← HW3.out]
 obtain ⟨x3, HX3⟩ : ∃ x, Hid (x = w3.drew) := ⟨_, rfl⟩
 have J3 : Hid (Own4 w x3 w.heap.size ⟨(rolI (a + b) 32 + (rolI d 16 ^^^ (c + d))), (rolI b 13 ^^^ (a + b)), c + d, (rolI d 16 ^^^ (c + d))⟩) := by rw [HX3.out]; exact K3.out.drew
 obtain ⟨c0, c1, c2, c3, f0, f1, f2, f3⟩ := K3.out.cells
 go_still_tail 7, Tryz.mixed
 still_call (sRoll_any (rolI d 16 ^^^ (c + d)) 21 _)
 repeat still_step
 refine wpStill_nil ?_
 rw [fold_drew, ← HX3.out]
 clear c0 c1 c2 c3 f0 f1 f2 f3
 obtain ⟨w4, HW4⟩ : ∃ w4, Hid (w4 = ((x3.setCell ⟨w.heap.size, 3, none⟩ (.int .u64 (U ((rolI (rolI d 16 ^^^ (c + d)) 21 ^^^ (rolI (a + b) 32 + (rolI d 16 ^^^ (c + d)))))))).setCell ⟨w.heap.size, 2, none⟩ (.int .u64 (U (((c + d) + (rolI b 13 ^^^ (a + b)))))))) := ⟨_, rfl⟩
 have K4 : Hid (Own4 w w4 w.heap.size ⟨(rolI (a + b) 32 + (rolI d 16 ^^^ (c + d))), (rolI b 13 ^^^ (a + b)), ((c + d) + (rolI b 13 ^^^ (a + b))), (rolI (rolI d 16 ^^^ (c + d)) 21 ^^^ (rolI (a + b) 32 + (rolI d 16 ^^^ (c + d))))⟩) := by rw [HW4.out]; exact ((J3.out.set3 ((rolI (rolI d 16 ^^^ (c + d)) 21 ^^^ (rolI (a + b) 32 + (rolI d 16 ^^^ (c + d)))))).set2 (((c + d) + (rolI b 13 ^^^ (a + b)))))
 obtain ⟨c0, c1, c2, c3, f0, f1, f2, f3⟩ := J3.out.cells
 go_wp2_with (go_at_call 201; refine (sRoll_any _ _ _).mono ?_; rintro e w' ⟨rfl, hw⟩; obtain rfl := hw.symm)
 clear c0 c1 c2 c3 f0 f1 f2 f3
 rw [← HW4.out]
 obtain ⟨x4, HX4⟩ : ∃ x, Hid (x = w4.drew) := ⟨_, rfl⟩
 have J4 : Hid (Own4 w x4 w.heap.size ⟨(rolI (a + b) 32 + (rolI d 16 ^^^ (c + d))), (rolI b 13 ^^^ (a + b)), ((c + d) + (rolI b 13 ^^^ (a + b))), (rolI (rolI d 16 ^^^ (c + d)) 21 ^^^ (rolI (a + b) 32 + (rolI d 16 ^^^ (c + d))))⟩) := by rw [HX4.out]; exact K4.out.drew
 obtain ⟨c0, c1, c2, c3, f0, f1, f2, f3⟩ := K4.out.cells
 go_still_tail 7, Tryz.mixed
 still_call (sRoll_any (rolI b 13 ^^^ (a + b)) 17 _)
 repeat still_step
 refine wpStill_nil ?_
 rw [fold_drew, ← HX4.out]
 clear c0 c1 c2 c3 f0 f1 f2 f3
 obtain ⟨c0, c1, c2, c3, f0, f1, f2, f3⟩ := J4.out.cells
 obtain ⟨w5, HW5⟩ : ∃ w5, Hid (w5 = ((x4.setCell ⟨w.heap.size, 1, none⟩ (.int .u64 (U ((rolI (rolI b 13 ^^^ (a + b)) 17 ^^^ ((c + d) + (rolI b 13 ^^^ (a + b)))))))).setCell ⟨w.heap.size, 2, none⟩ (.int .u64 (U (rolI ((c + d) + (rolI b 13 ^^^ (a + b))) 32))))) := ⟨_, rfl⟩
 have K5 : Hid (Own4 w w5 w.heap.size ⟨(rolI (a + b) 32 + (rolI d 16 ^^^ (c + d))), (rolI (rolI b 13 ^^^ (a + b)) 17 ^^^ ((c + d) + (rolI b 13 ^^^ (a + b)))), rolI ((c + d) + (rolI b 13 ^^^ (a + b))) 32, (rolI (rolI d 16 ^^^ (c + d)) 21 ^^^ (rolI (a + b) 32 + (rolI d 16 ^^^ (c + d))))⟩) := by rw [HW5.out]; exact (J4.out.set1 _).set2 _
 have R5 : Hid (Row w5 w.heap.size 259 (C4 ⟨(rolI (a + b) 32 + (rolI d 16 ^^^ (c + d))), (rolI (rolI b 13 ^^^ (a + b)) 17 ^^^ ((c + d) + (rolI b 13 ^^^ (a + b)))), rolI ((c + d) + (rolI b 13 ^^^ (a + b))) 32, (rolI (rolI d 16 ^^^ (c + d)) 21 ^^^ (rolI (a + b) 32 + (rolI d 16 ^^^ (c + d))))⟩)) := K5.out.row
 obtain ⟨z, hz⟩ := K5.out.res
 have Z5 : Hid (Row w5 (w.heap.size + 1) 259 (C4 z)) := hz
 clear hz
 go_wp2_with fail
 refine (sRoll_any _ _ _).mono ?_
 rintro e w' ⟨rfl, hw⟩
 obtain rfl := hw.symm
 have ZR : Hid (Row ((((w5.setCell ⟨w.heap.size + 1, 0, none⟩ (.int .u64 (U (rolI (a + b) 32 + (rolI d 16 ^^^ (c + d)))))).setCell ⟨w.heap.size + 1, 1, none⟩ (.int .u64 (U (rolI (rolI b 13 ^^^ (a + b)) 17 ^^^ ((c + d) + (rolI b 13 ^^^ (a + b))))))).setCell ⟨w.heap.size + 1, 2, none⟩ (.int .u64 (U (rolI ((c + d) + (rolI b 13 ^^^ (a + b))) 32)))).setCell ⟨w.heap.size + 1, 3, none⟩ (.int .u64 (U (rolI (rolI d 16 ^^^ (c + d)) 21 ^^^ (rolI (a + b) 32 + (rolI d 16 ^^^ (c + d))))))) (w.heap.size + 1) 259 (C4 (mx ⟨a, b, c, d⟩))) := (((Z5.out.set 0 _).set 1 _).set 2 _).set 3 _
 have q0 := Z5.out.cell 0
 have q1 := Z5.out.cell 1
 have q2 := Z5.out.cell 2
 have q3 := Z5.out.cell 3
 have g0 := Z5.out.free 0
 have g1 := Z5.out.free 1
 have g2 := Z5.out.free 2
 have g3 := Z5.out.free 3
 simp at q0 q1 q2 q3
 go_wp2_with (rw [← HW5.out]; refine wpList_load_row (by rfl) 259 _ (by rfl) w.heap.size (by rfl) 259 _ (0, 0) _ R5.out Tryz.underlying259 (by rfl) Tryz.info4 ?_; clear c0 c1 c2 c3 f0 f1 f2 f3)
 clear q0 q1 q2 q3 g0 g1 g2 g3
 refine bodyPost_ret (v := A4 (mx ⟨a, b, c, d⟩)) (results_cell_row Tryz.results195 _ _ (w.heap.size + 1) 259 _ (0, 0) _ (by simp) ZR.out Tryz.underlying259 (by rfl) Tryz.info4) rfl ⟨rfl, ?_⟩
 exact Below.setCell (Below.setCell (Below.setCell (Below.setCell K5.out.bel (by simp) _) (by simp) _) (by simp) _) (by simp) _
end Go.Proofs.YtmhcdkbgjjibeaaGreatDoor
namespace Go.Proofs.YtmhcdkbgjjibeaaGreatDoor
theorem ret_str {a b : ByteArray} (h : a = b) : Ending.returned (.string a) = .returned (.string b) := by rw [h]
theorem u8_lt (c : UInt8) : c.toNat < 256 := c.toNat_lt
def scaleL (s : ByteArray) (A : Nat) : List Int := s.data.toList.map fun c => ((Gf.mul c.toNat A : Nat) : Int)
def scaleS (s : ByteArray) (a : Int) : ByteArray := if isB a = true then strOfNums (scaleL s a.toNat) else ByteArray.empty
theorem scaleL_len (s : ByteArray) (A : Nat) : (scaleL s A).length = s.size := by simp [scaleL]
theorem scaleL_at (s : ByteArray) (A k : Nat) (h : k < s.size) : (scaleL s A).getD k 0 = ((Gf.mul s[k].toNat A : Nat) : Int) := by
 have h' : k < s.data.toList.length := by simpa using h
 simp only [scaleL, List.getD, List.getElem?_map, List.getElem?_eq_getElem h', Option.map_some, Option.getD_some]
 rfl
theorem sScale_nat (s : ByteArray) (A : Nat) (w : World) (hs : s.size ≤ 1048576) (hA : A < 256) :
  Calls Tryz.prog 125 #[.string s, .int .i64 (A : Int)] w fun e w' => e = .returned (.string (strOfNums (scaleL s A))) ∧ Below w.heap.size w w' := by
 obtain ⟨i0, hi, hz0, hz1, hz2⟩ := info_parts Tryz.infoByte
 have ia := isB_ofNat hA
 obtain ⟨xs, HX⟩ : ∃ xs, Hid (xs = scaleL s A) := ⟨_, rfl⟩
 obtain ⟨n, hn⟩ : ∃ n, s.size = n := ⟨_, rfl⟩
 have HL : Hid (xs.length = n) := by show _ = _; rw [HX.out, scaleL_len, hn]
 go_enter Tryz.func125, Tryz.ntmps125
 go_wp2_with fail
 refine (sIs_any _ _).mono ?_
 rintro e w' ⟨rfl, hw⟩
 obtain rfl := hw.symm
 go_wp2
 clear hw ia
 have ho1 : (w.alloc (.cells #[] 5)).ownsRow w.heap.size 5 1 (.slice (some ⟨w.heap.size, 0, none⟩) 0 0) 0 ((xs.take 0).map (Value.int .u8)) :=
  World.ownsRow_lit w #[] 0 (Nat.le_refl _) (by unfold maxLen; omega) rfl
 go_loopw [5, 6] (fun v i wr => ∃ k : Nat, k ≤ n ∧ i = .int .i64 k ∧ wr.ownsRow w.heap.size 5 1 v k ((xs.take k).map (Value.int .u8)) ∧ Hid (v ≠ .slice none 0 0) ∧ Below w.heap.size w wr) (fun _ i _ => n - (intOf i).toNat)
 case atStart => exact ⟨0, Nat.zero_le _, rfl, ho1, by simp [Hid], (Below.refl _ _).alloc (Nat.le_refl _) _⟩
 case round =>
  obtain ⟨k, hk, rfl, hown, HV, hbel⟩ := hrel
  clear ho1
  by_cases hlt : k < n
  ·have hks : k < s.size := by omega
   have hml := Gf.mul_lt (u8_lt s[k]) hA
   have HE : Hid (xs.take (k + 1) = xs.take k ++ [((Gf.mul s[k].toNat A : Nat) : Int)]) := by
    show _ = _
    rw [take_snoc xs k (by rw [HL.out]; exact hlt), HX.out, scaleL_at s A k hks]
   have hcl := u8_lt s[k]
   go_wp2_with fail
   refine (sMul_nat _ A _ hcl hA).mono ?_
   rintro e w1 ⟨rfl, hw1⟩
   obtain rfl := hw1.symm
   go_wp2_with (at_builtin; refine wpList_append_own _ rfl _ _ 129 rfl w.heap.size 5 i0 (.int .u8 0) 1 1 Tryz.underlying129 hi hz0 hz1 hz2 rfl (by decide) _ _ _ rfl (hown.alloc _) ⟨wr.heap.size, 0, none⟩ 1 1 [.int .u8 ((Gf.mul s[k].toNat A : Nat) : Int)] rfl rfl ?c1 ?c2 ?c3 ?c4 ?c5 ?_)
   case c1 =>
    intro j u hj
    match j, hj with
    | 0, hj => simp at hj; subst hj; simp [Addr.add]
   case c2 => intro u hu; simp at hu; subst hu; rfl
   case c3 => unfold maxLen; omega
   case c4 => omega
   case c5 => have := hbel.size; simp; omega
   ·intro v' w1 hown' hgrow hnil
    have HV' : Hid (v' ≠ .slice none 0 0) := hnil
    have HO : Hid (w1.ownsRow w.heap.size 5 1 v' (k + 1) ((xs.take (k + 1)).map (Value.int .u8))) := by
     rw [HE.out, List.map_append, List.map_take]
     exact hown'
    have hb' : Below w.heap.size w w1 := (hbel.alloc hbel.size _).grown hgrow (by have := hbel.size; simp; omega) (fun j hj => (hown.lt j hj).1)
    clear hown' hgrow hnil hown
    go_wp2
    go_roundw
    case rel => exact ⟨k + 1, by omega, by go_num, HO.out, HV'.out, hb'⟩
    case measure => simp [intOf]; omega
  ·have e : k = n := by omega
   subst e
   rw [List.take_of_length_le (by rw [HL.out]; omega)] at hown
   obtain ⟨g, cap, rfl⟩ : ∃ g cap, u5 = .slice (some ⟨g, 0, none⟩) k cap := by
    rcases hown.2 with h | ⟨g, cap, cur, h, _⟩
    ·exact absurd h.1 HV.out
    ·exact ⟨g, cap, h⟩
   have hcv := run_convert_bytes_arg (P := Tryz.prog) wr 129 5 Tryz.underlying129 Tryz.underlying5 g 0 k cap xs HL.out (fun i hi => by
    rw [Nat.zero_add, hown.cellAt i (by omega)]
    simp [HL.out, hi]) 9 Tryz.underlying9
   go_wp2
   go_ret
   exact ⟨ret_str (by rw [HX.out]), hbel⟩
theorem sScale_any (s : ByteArray) (a : Int) (w : World) (hs : s.size ≤ 1048576) :
  Calls Tryz.prog 125 #[.string s, .int .i64 a] w fun e w' => e = .returned (.string (scaleS s a)) ∧ Below w.heap.size w w' := by
 by_cases ha : isB a = true
 ·obtain ⟨A, hA, rfl⟩ := isB_nat ha
  refine (sScale_nat s A w hs hA).mono ?_
  rintro e w' ⟨rfl, hb⟩
  exact ⟨ret_str (by simp [scaleS, ha]), hb⟩
 ·have ha' : isB a = false := by simpa using ha
  go_enter Tryz.func125, Tryz.ntmps125
  go_wp2_with (go_at_call 121; refine (sIs_any _ _).mono ?_; rintro e w' ⟨rfl, rfl⟩)
  go_ret
  exact ⟨ret_str (by simp [scaleS, ha]; rfl), Below.refl _ _⟩
theorem Tryz.infoElem : (Tryz.prog.info? 174).map (fun i => (i.zero, i.size, i.bytes)) = some (some (.int .u8 0), 1, 1) := by kernel_rfl
def eI (f : Nat → Nat) (n : Nat) : List Int := (List.range n).map fun i => ((f i : Nat) : Int)
theorem eI_len (f : Nat → Nat) (n : Nat) : (eI f n).length = n := by simp [eI]
theorem eI_get (f : Nat → Nat) (n i : Nat) (h : i < n) : (eI f n)[i]? = some ((f i : Nat) : Int) := by simp [eI, h]
theorem eI_getD (f : Nat → Nat) (n i : Nat) (h : i < n) : (eI f n).getD i 0 = ((f i : Nat) : Int) := by simp [List.getD, eI_get f n i h]
theorem eI_congr {f g : Nat → Nat} {n : Nat} (h : ∀ i, i < n → f i = g i) : eI f n = eI g n := by
 unfold eI
 apply List.map_congr_left
 intro i hi
 rw [h i (List.mem_range.1 hi)]
theorem eI_ext {zs : List Int} {f : Nat → Nat} {n : Nat} (hl : zs.length = n) (h : ∀ i, i < n → zs.getD i 0 = ((f i : Nat) : Int)) : zs = eI f n := by
 apply List.ext_getElem?
 intro i
 by_cases hi : i < n
 ·have h1 := h i hi
  rw [eI_get f n i hi]
  have h2 : i < zs.length := by omega
  rw [List.getElem?_eq_getElem h2]
  simp [List.getD, List.getElem?_eq_getElem h2] at h1
  rw [h1]
 ·rw [List.getElem?_eq_none (by omega), List.getElem?_eq_none (by rw [eI_len]; omega)]
theorem eI_set (f : Nat → Nat) (n k v : Nat) (d : IntKind) (h : k < n) : ((eI f n).map (Value.int d)).set k (.int d (v : Int)) = (eI (fun i => if i = k then v else f i) n).map (Value.int d) := by
 apply List.ext_getElem?
 intro i
 rw [List.getElem?_set]
 by_cases hi : i < n
 ·by_cases e : k = i
  ·subst e
   simp [eI, h]
  ·simp [eI, hi, e, Ne.symm e]
 ·by_cases e : k = i
  ·omega
  ·rw [if_neg e, List.getElem?_eq_none (by simp [eI_len]; omega), List.getElem?_eq_none (by simp [eI_len]; omega)]
theorem eI_const {f : Nat → Nat} (n v : Nat) (h : ∀ i, i < n → f i = v) : eI f n = List.replicate n (v : Int) := by
 symm
 apply eI_ext
 ·simp
 ·intro i hi
  rw [h i hi]
  simp [List.getD, hi]
def coP (zs : List Int) (i : Nat) : Nat := (zs.getD i 0).toNat
def Els (w : World) (a : Option Addr) (n cap : Nat) (f : Nat → Nat) : Prop :=
 n ≤ cap ∧ ((a = none ∧ n = 0 ∧ cap = 0) ∨ ∃ b, a = some ⟨b, 0, none⟩ ∧ b < w.heap.size ∧ ∀ i, i < n → w.cell? ⟨b, i, none⟩ = some (.int .u8 ((f i : Nat) : Int)))
theorem Els.nil (w : World) (f : Nat → Nat) : Els w none 0 0 f := ⟨Nat.le_refl _, .inl ⟨rfl, rfl, rfl⟩⟩
def OwnU (w : World) (B g n cap : Nat) (f : Nat → Nat) : Prop := w.ownsRow B 174 1 (.slice (some ⟨g, 0, none⟩) n cap) n ((eI f n).map (Value.int .u8))
theorem OwnU.els {w : World} {B g n cap : Nat} {f : Nat → Nat} (h : OwnU w B g n cap f) : Els w (some ⟨g, 0, none⟩) n cap f := by
 have hc : n ≤ cap := by
  rcases h.2 with h' | ⟨g', cap', cur, e, _, _, hn, _⟩
  ·cases h'.1
  ·cases e; exact hn
 refine ⟨hc, .inr ⟨g, rfl, (World.ownsRow.lt h g rfl).2, fun i hi => ?_⟩⟩
 rw [World.ownsRow.cellAt h i (by omega)]
 simp [eI, hi]
theorem OwnU.lt {w : World} {B g n cap : Nat} {f : Nat → Nat} (h : OwnU w B g n cap f) : B ≤ g ∧ g < w.heap.size := World.ownsRow.lt h g rfl
theorem OwnU.congr {w : World} {B g n cap : Nat} {f h : Nat → Nat} (ho : OwnU w B g n cap f) (e : ∀ i, i < n → f i = h i) : OwnU w B g n cap h := by
 unfold OwnU at *
 rw [← eI_congr e]
 exact ho
theorem OwnU.set {w : World} {B g n cap k v : Nat} {f : Nat → Nat} (h : OwnU w B g n cap f) (hk : k < n) :
  OwnU (w.setCell ⟨g, k, none⟩ (.int .u8 (v : Int))) B g n cap (fun i => if i = k then v else f i) ∧ w.grownBy (w.setCell ⟨g, k, none⟩ (.int .u8 (v : Int))) (some g) := by
 have hs := World.ownsRow.stored h k (.int .u8 (v : Int))
 rw [eI_set f n k v .u8 hk] at hs
 exact ⟨hs.1, ⟨rfl, rfl, rfl, by simp, fun j _ hj => heap_setCell_other w ⟨g, k, none⟩ j _ (fun e => hj (by simp [e]))⟩⟩
theorem readE_yes (a : Option Addr) (n cap : Nat) (zs : List Int) (w : World) (h : IntsAt w a n zs) (hn : n ≤ 1048576) (hz : ∀ i, i < n → isB (zs.getD i 0) = true) :
  Calls Tryz.prog 178 #[.slice a n cap] w fun e w' => e = .returned (.tuple #[.slice (some ⟨w.heap.size, 0, none⟩) n n, .bool true]) ∧ OwnU w' w.heap.size w.heap.size n n (coP zs) ∧ Below w.heap.size w w' := by
 obtain ⟨i0, hi, hz0, hz1, hz2⟩ := info_parts Tryz.infoElem
 obtain ⟨hlen, hcells⟩ := h
 clear hlen
 go_enter Tryz.func178, Tryz.ntmps178
 go_wp2_with (at_make; refine wpList_make_full _ rfl _ _ 220 rfl w.heap.size 174 i0 (.int .u8 0) 1 Tryz.underlying220 hi hz0 hz1 .i64 .i64 _ _ n rfl rfl rfl rfl (by rw [hz2]; omega) (by unfold maxLen; omega) (Nat.le_refl _) ?_; intro w1 hown hgrow)
 have hb1 : Below w.heap.size w w1 := (Below.refl _ _).grown hgrow (Nat.le_refl _) (by simp)
 have ho1 : OwnU w1 w.heap.size w.heap.size n n (fun i => if i < 0 then coP zs i else 0) := by
  unfold OwnU
  rw [eI_const n 0 (fun i _ => if_neg (by omega))]
  simpa [Value.cells, toList_madeCells_one] using hown
 clear hown hgrow
 go_loopw [12] (fun i wr => ∃ k : Nat, k ≤ n ∧ i = .int .i64 k ∧ OwnU wr w.heap.size w.heap.size n n (fun i => if i < k then coP zs i else 0) ∧ Below w.heap.size w wr) (fun i _ => n - (intOf i).toNat)
 case atStart => exact ⟨0, Nat.zero_le _, rfl, ho1, hb1⟩
 case round =>
  obtain ⟨k, hk, rfl, hown, hbel⟩ := hrel
  clear ho1 hb1
  by_cases hlt : k < n
  ·obtain ⟨b, off, rfl, hc⟩ := hcells k hlt
   have hzk := hz k hlt
   have hcx : wr.cell? ⟨b, off + k, none⟩ = some (.int .i64 (zs.getD k 0)) := (hbel.cell (p := ⟨b, off + k, none⟩) (block_lt_of_cell hc)).trans hc
   obtain ⟨X, hX, hx⟩ := isB_nat hzk
   have HX : Hid (coP zs k = X) := by show _ = _; unfold coP; rw [hx]; simp
   rw [hx] at hcx hzk
   have hold := (OwnU.els hown).2
   obtain ⟨old, hold⟩ : ∃ v, wr.cell? ⟨w.heap.size, k, none⟩ = some v := by
    rw [World.ownsRow.cellAt hown k (by omega)]
    exact ⟨_, List.getElem?_eq_getElem (by rw [hown.1]; omega)⟩
   have hfr := World.ownsRow.frozenAt hown k
   have hst := hown.set (k := k) (v := X) hlt
   have hne : Below w.heap.size w (wr.setCell ⟨w.heap.size, k, none⟩ (.int .u8 (X : Int))) := hbel.setCell (Nat.le_refl _) _
   have HO : Hid _ := hst.1
   clear hst hown hcells hc hz hx
   go_wp2_with (go_at_call 135; refine (isByte_any _ _).mono ?_; rintro e w' ⟨rfl, hw⟩; obtain rfl := hw.symm)
   go_roundw
   case rel => exact ⟨k + 1, by omega, by go_num, OwnU.congr HO.out (fun i hi => by
    by_cases e : i = k
    ·subst e; rw [if_pos rfl, if_pos (by omega), HX.out]
    ·rw [if_neg e]
     by_cases h2 : i < k
     ·rw [if_pos h2, if_pos (by omega)]
     ·rw [if_neg h2, if_neg (by omega)]), hne⟩
   case measure => simp [intOf]; omega
  ·have e : k = n := by omega
   subst e
   go_wp2
   go_ret2
   exact ⟨rfl, hown.congr (fun i hi => by rw [if_pos hi]), hbel⟩
theorem readE_no (a : Option Addr) (n cap : Nat) (zs : List Int) (w : World) (h : IntsAt w a n zs) (hn : n ≤ 1048576) (hz : ∃ i, i < n ∧ isB (zs.getD i 0) = false) :
  Calls Tryz.prog 178 #[.slice a n cap] w fun e w' => e = .returned (.tuple #[.slice none 0 0, .bool false]) ∧ Below w.heap.size w w' := by
 obtain ⟨i0, hi, hz0, hz1, hz2⟩ := info_parts Tryz.infoElem
 obtain ⟨hlen, hcells⟩ := h
 clear hlen
 go_enter Tryz.func178, Tryz.ntmps178
 go_wp2_with (at_make; refine wpList_make_full _ rfl _ _ 220 rfl w.heap.size 174 i0 (.int .u8 0) 1 Tryz.underlying220 hi hz0 hz1 .i64 .i64 _ _ n rfl rfl rfl rfl (by rw [hz2]; omega) (by unfold maxLen; omega) (Nat.le_refl _) ?_; intro w1 hown hgrow)
 have hb1 : Below w.heap.size w w1 := (Below.refl _ _).grown hgrow (Nat.le_refl _) (by simp)
 have ho1 : OwnU w1 w.heap.size w.heap.size n n (fun _ => 0) := by
  unfold OwnU
  rw [eI_const n 0 (fun i _ => rfl)]
  simpa [Value.cells, toList_madeCells_one] using hown
 clear hown hgrow
 obtain ⟨q, hq, hzq⟩ := hz
 go_loopw [12] (fun i wr => ∃ k f, k ≤ q ∧ i = .int .i64 ((k : Nat) : Int) ∧ OwnU wr w.heap.size w.heap.size n n f ∧ Below w.heap.size w wr) (fun i _ => n - (intOf i).toNat)
 case atStart => exact ⟨0, _, Nat.zero_le _, rfl, ho1, hb1⟩
 case round =>
  obtain ⟨k, f, hk, rfl, hown, hbel⟩ := hrel
  clear ho1 hb1
  have hlt : k < n := by omega
  have hlti : (k : Int) < (n : Int) := by omega
  obtain ⟨b, off, rfl, hc⟩ := hcells k hlt
  have hcx : wr.cell? ⟨b, off + k, none⟩ = some (.int .i64 (zs.getD k 0)) := (hbel.cell (p := ⟨b, off + k, none⟩) (block_lt_of_cell hc)).trans hc
  have hzq' : k = q → isB (zs.getD k 0) = false := fun e => by rw [e]; exact hzq
  clear hzq
  generalize zs.getD k 0 = x at hcx hzq'
  clear hc
  by_cases hzk : isB x = true
  ·obtain ⟨X, hX, hx⟩ := isB_nat hzk
   have hne : k ≠ q := by
    intro e
    have := hzq' e
    rw [hzk] at this
    cases this
   rw [hx] at hcx hzk
   obtain ⟨old, hold⟩ : ∃ v, wr.cell? ⟨w.heap.size, k, none⟩ = some v := by
    rw [World.ownsRow.cellAt hown k (by omega)]
    exact ⟨_, List.getElem?_eq_getElem (by rw [hown.1]; omega)⟩
   have hfr := World.ownsRow.frozenAt hown k
   have hst := hown.set (k := k) (v := X) hlt
   have hbn : Below w.heap.size w (wr.setCell ⟨w.heap.size, k, none⟩ (.int .u8 (X : Int))) := hbel.setCell (Nat.le_refl _) _
   have HO : Hid _ := hst.1
   clear hst hown hcells hx hzq'
   go_wp2_with (go_at_call 135; refine (isByte_any _ _).mono ?_; rintro e w' ⟨rfl, hw⟩; obtain rfl := hw.symm)
   go_roundw
   case rel => exact ⟨k + 1, _, by omega, by go_num, HO.out, hbn⟩
   case measure => simp [intOf]; omega
  ·have hzk' : isB x = false := by simpa using hzk
   clear hcells hzk hzq'
   go_wp2_with (go_at_call 135; refine (isByte_any _ _).mono ?_; rintro e w' ⟨rfl, hw⟩; obtain rfl := hw.symm)
   go_ret2
   exact ⟨rfl, hbel⟩
theorem below_of_drew {w w1 : World} (h : Below w.drew.heap.size w.drew w1) : Below w.heap.size w w1 := ⟨h.os, h.tape, h.output, h.size, h.block⟩
theorem own_shape {w : World} {B e s : Nat} {a : Option Addr} {n cap n' : Nat} {xs : List Value} (h : w.ownsRow B e s (.slice a n cap) n' xs) :
  (a = none ∧ n = 0 ∧ cap = 0) ∨ ∃ g cur, a = some ⟨g, 0, none⟩ ∧ B ≤ g ∧ w.heap[g]? = some (.cells cur e (0, 0)) ∧ n ≤ cap := by
 rcases h.2 with ⟨h', _⟩ | ⟨g, cap', cur, h', hb, hg, hn, _⟩
 ·cases h'; exact .inl ⟨rfl, rfl, rfl⟩
 ·cases h'; exact .inr ⟨g, cur, rfl, hb, hg, hn⟩
theorem own_kept {w w' : World} {B e s n : Nat} {a : Option Addr} {l c b : Nat} {xs : List Value} (h : w.ownsRow B e s (.slice a l c) n xs) (hg : w.grownBy w' (some b)) (hn : ∀ x, a = some x → x.block ≠ b) : w'.ownsRow B e s (.slice a l c) n xs := by
 refine World.ownsRow.kept h hg ?_
 cases a with
 | none => exact .inl rfl
 | some x => exact .inr (by simp [Value.ownBlock]; exact hn x rfl)
theorem grown_set (w : World) (g j : Nat) (v : Value) : w.grownBy (w.setCell ⟨g, j, none⟩ v) (some g) :=
 ⟨rfl, rfl, rfl, by simp, fun i _ hi => heap_setCell_other w ⟨g, j, none⟩ i _ (fun e => hi (by simp [e]))⟩
def tot (L : Nat → Nat) : Nat → Nat
 | 0 => 0
 | n + 1 => tot L n + L n
theorem tot_le (L : Nat → Nat) {i n : Nat} (h : i < n) : tot L i + L i ≤ tot L n := by
 induction n with
 | zero => omega
 | succ n ih =>
  by_cases e : i = n
  ·subst e; exact Nat.le_refl _
  ·have := ih (by omega)
   show _ ≤ tot L n + L n
   omega
theorem own_base {w : World} {B B' e s n : Nat} {v : Value} {xs : List Value} (h : w.ownsRow B e s v n xs) (hB : B' ≤ B) : w.ownsRow B' e s v n xs := by
 refine ⟨h.1, ?_⟩
 rcases h.2 with h' | ⟨g, cap, cur, h1, h2, h3⟩
 ·exact .inl h'
 ·exact .inr ⟨g, cap, cur, h1, by omega, h3⟩
def szF (L : Nat → Nat) (n l : Nat) : Int := if n + tot L n ≤ l then ((l - (n + tot L n) : Nat) : Int) else -1
end Go.Proofs.YtmhcdkbgjjibeaaGreatDoor
namespace Go.Proofs.YtmhcdkbgjjibeaaGreatDoor
open Gs (U rolI V4 mx inn key all4 fin)
abbrev H6 (L n : Nat) (v : V4) : Array Value := #[.int .u64 (L : Int), .int .i64 (n : Int), .int .u64 (U v.a), .int .u64 (U v.b), .int .u64 (U v.c), .int .u64 (U v.d)]
theorem keyed_any (a b : BitVec 64) (w : World) : Calls Tryz.prog 196 #[.int .u64 (U a), .int .u64 (U b)] w fun e w' => e = .returned (.pointer (some ⟨w.heap.size, 0, none⟩)) ∧ w' = w.alloc (.cells (H6 0 0 (key a b)) 269) := by
 have h1 : bits .xor .u64 (U a) 8317987319222330741 = U (a ^^^ 8317987319222330741#64) := Gs.U_xor a 8317987319222330741#64
 have h2 : bits .xor .u64 (U b) 7237128888997146477 = U (b ^^^ 7237128888997146477#64) := Gs.U_xor b 7237128888997146477#64
 have h3 : bits .xor .u64 (U a) 7816392313619706465 = U (a ^^^ 7816392313619706465#64) := Gs.U_xor a 7816392313619706465#64
 have h4 : bits .xor .u64 (U b) 8387220255154660723 = U (b ^^^ 8387220255154660723#64) := Gs.U_xor b 8387220255154660723#64
 go_enter Tryz.func196, Tryz.ntmps196
 go_wp2
 go_ret
 exact ⟨rfl, rfl⟩
theorem put_or (L x k : Nat) (hL : L < 18446744073709551616) (hx : x < 256) (hk : k < 8) : bits .or .u64 (L : Int) (IntKind.u64.wrap ((x : Int) * 2 ^ (8 * k))) = ((L ||| x * 2 ^ (8 * k) : Nat) : Int) := by
 have hp : x * 2 ^ (8 * k) < 18446744073709551616 := by
  have h1 : (2 : Nat) ^ (8 * k) ≤ 2 ^ 56 := Nat.pow_le_pow_right (by omega) (by omega)
  have h2 : x * 2 ^ (8 * k) ≤ 255 * 2 ^ 56 := Nat.mul_le_mul (by omega) h1
  omega
 have e : IntKind.u64.wrap ((x : Int) * 2 ^ (8 * k)) = ((x * 2 ^ (8 * k) : Nat) : Int) := by
  have := Gs.wrap_nat (x * 2 ^ (8 * k))
  rw [Nat.mod_eq_of_lt hp] at this
  rw [← this]
  simp
 rw [e, bits_or_u64_nat _ _ hL hp]
theorem put_any (g L n x : Nat) (v : V4) (w : World) (h : Row w g 269 (H6 L n v)) (hn : n ≤ 4194304) (hL : L < 18446744073709551616) (hx : x < 256) :
  Calls Tryz.prog 197 #[.pointer (some ⟨g, 0, none⟩), .int .u8 (x : Int)] w fun e w' => e = .returned (.bool (decide ((n + 1) % 8 = 0))) ∧ Row w' g 269 (H6 (L ||| x * 2 ^ (8 * (n % 8))) (n + 1) v) ∧ Below g w w' := by
 have c0 := h.cell 0
 have c1 := h.cell 1
 have f0 := h.free 0
 have f1 := h.free 1
 simp at c0 c1
 obtain ⟨k, HK⟩ : ∃ k, Hid (k = n % 8) := ⟨_, rfl⟩
 have hk8 : k < 8 := by have := HK.out; omega
 have hm0 : (n : Int) % 8 = (k : Int) := by have := HK.out; omega
 have hm : (n : Int).tmod 8 = (k : Int) := by rw [Int.tmod_eq_emod_of_nonneg (by omega)]; exact hm0
 have hsh := put_or L x k hL hx hk8
 have hw8 : IntKind.u64.wrap (x : Int) = (x : Int) := by rw [IntKind.wrap_u64]; omega
 have h88 : IntKind.i64.wrap (8 * (k : Int)) = ((8 * k : Nat) : Int) := by rw [IntKind.wrap_i64]; omega
 go_enter Tryz.func197, Tryz.ntmps197
 go_wp2_with fail
 go_still_tail 16, Tryz.mixed
 rw [fold_drew]
 obtain ⟨w1, HW1⟩ : ∃ x, Hid (x = w.drew) := ⟨_, rfl⟩
 rw [← HW1.out]
 have K1 : Hid (Row w1 g 269 (H6 L n v)) := by show Row _ _ _ _; rw [HW1.out]; exact h.drew
 have B1 : Hid (Below g w w1) := by show Below _ _ _; rw [HW1.out]; exact (Below.refl _ _).drew
 clear c0 c1 f0 f1
 have c0 := K1.out.cell 0
 have c1 := K1.out.cell 1
 have f0 := K1.out.free 0
 have f1 := K1.out.free 1
 simp at c0 c1
 go_wp2
 go_ret
 refine ⟨ret_bool ?_, ?_, (B1.out.setCell (Nat.le_refl _) _).setCell (Nat.le_refl _) _⟩
 ·rw [Bool.eq_iff_iff]
  simp
  omega
 ·rw [← HK.out]
  exact (K1.out.set 0 _).set 1 _
theorem take_any (g L n : Nat) (v : V4) (w : World) (h : Row w g 269 (H6 L n v)) :
  Calls Tryz.prog 199 #[.pointer (some ⟨g, 0, none⟩)] w fun e w' => e = .returned (.int .u64 (L : Int)) ∧ Row w' g 269 (H6 0 n v) ∧ Below g w w' := by
 have c0 := h.cell 0
 have f0 := h.free 0
 simp at c0
 have K : Hid (Row w g 269 (H6 L n v)) := h
 clear h
 go_enter Tryz.func199, Tryz.ntmps199
 go_wp2
 go_ret
 exact ⟨rfl, K.out.set 0 _, Below.setCell (Below.refl g _) (p := ⟨g, 0, none⟩) (Nat.le_refl _) _⟩
theorem last_any (g L n : Nat) (v : V4) (w : World) (h : Row w g 269 (H6 L n v)) (hn : n ≤ 4194304) (hL : L < 18446744073709551616) :
  Calls Tryz.prog 203 #[.pointer (some ⟨g, 0, none⟩)] w fun e w' => e = .returned (.int .u64 (U (BitVec.ofNat 64 L ||| (BitVec.ofNat 64 n <<< 56)))) ∧ Row w' g 269 (H6 L n v) ∧ Below g w w' := by
 have c0 := h.cell 0
 have c1 := h.cell 1
 simp at c0 c1
 have K : Hid (Row w g 269 (H6 L n v)) := h
 clear h
 have hw8 : IntKind.u64.wrap (n : Int) = (n : Int) := by rw [IntKind.wrap_u64]; omega
 have hor : bits .or .u64 (L : Int) (IntKind.u64.wrap ((n : Int) * 72057594037927936)) = U (BitVec.ofNat 64 L ||| (BitVec.ofNat 64 n <<< 56)) := by
  rw [Gs.U_nat (n := n) (by omega), show (72057594037927936 : Int) = 2 ^ 56 by decide, Gs.U_shl, Gs.U_nat hL, Gs.U_or]
 go_enter Tryz.func203, Tryz.ntmps203
 go_wp2_with fail
 go_quiet (fail)
 go_wp2
 go_ret
 exact ⟨rfl, K.out, belowDrewN (Below.refl _ _) _⟩
def mxs (v : V4) : Nat → V4
 | 0 => v
 | k + 1 => mx (mxs v k)
theorem mixes_any (g L n r : Nat) (v : V4) (w : World) (h : Row w g 269 (H6 L n v)) (hr : r ≤ 4) :
  Calls Tryz.prog 202 #[.pointer (some ⟨g, 0, none⟩), .int .i64 (r : Int)] w fun e w' => e = .returned (.tuple #[]) ∧ Row w' g 269 (H6 L n (mxs v r)) ∧ Below g w w' := by
 go_enter Tryz.func202, Tryz.ntmps202
 go_wp2
 go_loopw [5] (fun i wr => ∃ k : Nat, k ≤ r ∧ i = .int .i64 k ∧ Row wr g 269 (H6 L n (mxs v k)) ∧ Below g w wr) (fun i _ => r - (intOf i).toNat)
 case atStart => exact ⟨0, Nat.zero_le _, rfl, h, Below.refl _ _⟩
 case round =>
  obtain ⟨k, hk, rfl, hrow, hb⟩ := hrel
  clear h
  by_cases hlt : k < r
  ·have hlti : (k : Int) < (r : Int) := by omega
   obtain ⟨a, b, c, d, HV⟩ : ∃ a b c d, Hid (mxs v k = ⟨a, b, c, d⟩) := ⟨_, _, _, _, rfl⟩
   rw [HV.out] at hrow
   have c2 := hrow.cell 2
   have c3 := hrow.cell 3
   have c4 := hrow.cell 4
   have c5 := hrow.cell 5
   simp at c2 c3 c4 c5
   have K : Hid (Row wr g 269 (H6 L n ⟨a, b, c, d⟩)) := hrow
   clear hrow
   have hM := mix_any ⟨a, b, c, d⟩ wr
   have HS : Hid (mxs v (k + 1) = mx ⟨a, b, c, d⟩) := by show _ = _; rw [mxs, HV.out]
   generalize mx ⟨a, b, c, d⟩ = m at hM HS
   obtain ⟨p, q, s, t⟩ := m
   have KM : Hid _ := hM
   clear hM
   go_wp2_with fail
   refine Calls.mono KM.out ?_
   rintro e w2 ⟨rfl, hb2⟩
   have hgl := K.out.lt
   have K2 : Hid (Row w2 g 269 (H6 L n ⟨a, b, c, d⟩)) := K.out.below hb2 hgl
   have HB : Hid (Below g w w2) := hb.trans (hb2.mono (by omega))
   have KN : Hid (Row ((((w2.setCell ⟨g, 2, none⟩ (.int .u64 (U p))).setCell ⟨g, 3, none⟩ (.int .u64 (U q))).setCell ⟨g, 4, none⟩ (.int .u64 (U s))).setCell ⟨g, 5, none⟩ (.int .u64 (U t))) g 269 (H6 L n (mxs v (k + 1)))) := by
    show Row _ _ _ _
    rw [HS.out]
    exact (((K2.out.set 2 _).set 3 _).set 4 _).set 5 _
   have BN : Hid (Below g w ((((w2.setCell ⟨g, 2, none⟩ (.int .u64 (U p))).setCell ⟨g, 3, none⟩ (.int .u64 (U q))).setCell ⟨g, 4, none⟩ (.int .u64 (U s))).setCell ⟨g, 5, none⟩ (.int .u64 (U t)))) := Below.setCell (Below.setCell (Below.setCell (Below.setCell HB.out (by simp) _) (by simp) _) (by simp) _) (by simp) _
   clear c2 c3 c4 c5
   have c2 := K2.out.cell 2
   have c3 := K2.out.cell 3
   have c4 := K2.out.cell 4
   have c5 := K2.out.cell 5
   have f2 := K2.out.free 2
   have f3 := K2.out.free 3
   have f4 := K2.out.free 4
   have f5 := K2.out.free 5
   simp at c2 c3 c4 c5
   go_wp2
   go_roundw
   case rel => exact ⟨k + 1, by omega, by go_num, KN.out, BN.out⟩
   case measure => simp [intOf]; omega
  ·obtain rfl : k = r := by omega
   have K : Hid (Row wr g 269 (H6 L n (mxs v k))) := hrow
   clear hrow
   go_wp2
   go_end0
   exact ⟨rfl, K.out, hb⟩
theorem add_any (g L n : Nat) (v : V4) (x : BitVec 64) (w : World) (h : Row w g 269 (H6 L n v)) :
  Calls Tryz.prog 198 #[.pointer (some ⟨g, 0, none⟩), .int .u64 (U x)] w fun e w' => e = .returned (.tuple #[]) ∧ Row w' g 269 (H6 L n (inn v x)) ∧ Below g w w' := by
 obtain ⟨a, b, c, d⟩ := v
 have hxor := Gs.U_xor
 have c5 := h.cell 5
 have f5 := h.free 5
 simp at c5
 have K0 : Hid (Row w g 269 (H6 L n ⟨a, b, c, d⟩)) := h
 clear h
 go_enter Tryz.func198, Tryz.ntmps198
 go_wp2_with fail
 go_still_tail 10, Tryz.mixed
 rw [fold_drew]
 obtain ⟨w1, HW1⟩ : ∃ x, Hid (x = w.drew) := ⟨_, rfl⟩
 rw [← HW1.out]
 have K1 : Hid (Row w1 g 269 (H6 L n ⟨a, b, c, d⟩)) := by show Row _ _ _ _; rw [HW1.out]; exact K0.out.drew
 have B1 : Hid (Below g w w1) := by show Below _ _ _; rw [HW1.out]; exact (Below.refl _ _).drew
 clear c5 f5
 have c5 := K1.out.cell 5
 have f5 := K1.out.free 5
 simp at c5
 obtain ⟨w2, HW2⟩ : ∃ w2, Hid (w2 = w1.setCell ⟨g, 5, none⟩ (.int .u64 (U (d ^^^ x)))) := ⟨_, rfl⟩
 have K2 : Hid (Row w2 g 269 (H6 L n ⟨a, b, c, d ^^^ x⟩)) := by show Row _ _ _ _; rw [HW2.out]; exact K1.out.set 5 _
 have B2 : Hid (Below g w w2) := by show Below _ _ _; rw [HW2.out]; exact Below.setCell B1.out (by simp) _
 go_wp2_with fail
 rw [← HW2.out]
 have hm := mixes_any g L n 2 ⟨a, b, c, d ^^^ x⟩ w2 K2.out (by omega)
 refine Calls.mono hm ?_
 rintro e w3 ⟨rfl, h3, hb3⟩
 clear hm c5 f5
 have HI : Hid (inn ⟨a, b, c, d⟩ x = ⟨(mxs ⟨a, b, c, d ^^^ x⟩ 2).a ^^^ x, (mxs ⟨a, b, c, d ^^^ x⟩ 2).b, (mxs ⟨a, b, c, d ^^^ x⟩ 2).c, (mxs ⟨a, b, c, d ^^^ x⟩ 2).d⟩) := rfl
 generalize mxs ⟨a, b, c, d ^^^ x⟩ 2 = m at h3 HI
 obtain ⟨p, q, s, t⟩ := m
 have K3 : Hid (Row w3 g 269 (H6 L n ⟨p, q, s, t⟩)) := h3
 have B3 : Hid (Below g w w3) := B2.out.trans hb3
 clear h3 hb3
 have c2 := K3.out.cell 2
 have f2 := K3.out.free 2
 simp at c2
 go_wp2_with fail
 go_still_tail 10, Tryz.mixed
 rw [fold_drew]
 obtain ⟨w4, HW4⟩ : ∃ x, Hid (x = w3.drew) := ⟨_, rfl⟩
 rw [← HW4.out]
 have K4 : Hid (Row w4 g 269 (H6 L n ⟨p, q, s, t⟩)) := by show Row _ _ _ _; rw [HW4.out]; exact K3.out.drew
 have B4 : Hid (Below g w w4) := by show Below _ _ _; rw [HW4.out]; exact B3.out.drew
 clear c2 f2
 have c2 := K4.out.cell 2
 have f2 := K4.out.free 2
 simp at c2
 go_wp2
 go_end0
 refine ⟨rfl, ?_, Below.setCell B4.out (by simp) _⟩
 rw [HI.out]
 exact K4.out.set 2 _
end Go.Proofs.YtmhcdkbgjjibeaaGreatDoor
namespace Go.Proofs.YtmhcdkbgjjibeaaGreatDoor
def addL (s t : ByteArray) : List Int := List.zipWith (fun (c d : UInt8) => ((c.toNat ^^^ d.toNat : Nat) : Int)) s.data.toList t.data.toList
def addS (s t : ByteArray) : ByteArray := if s.size = t.size then strOfNums (addL s t) else ByteArray.empty
theorem addL_len (s t : ByteArray) (h : s.size = t.size) : (addL s t).length = s.size := by
 have h' : s.data.toList.length = t.data.toList.length := by simpa using h
 simp [addL] at *
 omega
theorem addL_at (s t : ByteArray) (k : Nat) (h : k < s.size) (h2 : k < t.size) : (addL s t).getD k 0 = ((s[k].toNat ^^^ t[k].toNat : Nat) : Int) := by
 have h' : k < s.data.toList.length := by simpa using h
 have h'' : k < t.data.toList.length := by simpa using h2
 simp only [addL, List.getD, List.getElem?_zipWith, List.getElem?_eq_getElem h', List.getElem?_eq_getElem h'', Option.getD_some]
 rfl
theorem sAddT_same (s t : ByteArray) (w : World) (hs : s.size ≤ 1048576) (ht : s.size = t.size) :
  Calls Tryz.prog 126 #[.string s, .string t] w fun e w' => e = .returned (.string (strOfNums (addL s t))) ∧ Below w.heap.size w w' := by
 obtain ⟨i0, hi, hz0, hz1, hz2⟩ := info_parts Tryz.infoByte
 obtain ⟨xs, HX⟩ : ∃ xs, Hid (xs = addL s t) := ⟨_, rfl⟩
 obtain ⟨n, hn⟩ : ∃ n, s.size = n := ⟨_, rfl⟩
 have hn2 : t.size = n := by omega
 have HL : Hid (xs.length = n) := by show _ = _; rw [HX.out, addL_len s t ht, hn]
 clear ht
 go_enter Tryz.func126, Tryz.ntmps126
 go_wp2
 have ho1 : (w.alloc (.cells #[] 5)).ownsRow w.heap.size 5 1 (.slice (some ⟨w.heap.size, 0, none⟩) 0 0) 0 ((xs.take 0).map (Value.int .u8)) :=
  World.ownsRow_lit w #[] 0 (Nat.le_refl _) (by unfold maxLen; omega) rfl
 go_loopw [5, 6] (fun v i wr => ∃ k g cap : Nat, k ≤ n ∧ i = .int .i64 k ∧ v = .slice (some ⟨g, 0, none⟩) k cap ∧ wr.ownsRow w.heap.size 5 1 (.slice (some ⟨g, 0, none⟩) k cap) k ((xs.take k).map (Value.int .u8)) ∧ Below w.heap.size w wr) (fun _ i _ => n - (intOf i).toNat)
 case atStart => exact ⟨0, _, _, Nat.zero_le _, rfl, rfl, ho1, (Below.refl _ _).alloc (Nat.le_refl _) _⟩
 case round =>
  obtain ⟨k, g, cap, hk, rfl, rfl, hown, hbel⟩ := hrel
  clear ho1
  by_cases hlt : k < n
  ·have hks : k < s.size := by omega
   have hkt : k < t.size := by omega
   have hlti : (k : Int) < (n : Int) := by omega
   have hxr : bits .xor .u8 (s[k].toNat : Int) (t[k].toNat : Int) = ((s[k].toNat ^^^ t[k].toNat : Nat) : Int) := u8_xor_nat _ _ (u8_lt _) (u8_lt _)
   have HE : Hid (xs.take (k + 1) = xs.take k ++ [((s[k].toNat ^^^ t[k].toNat : Nat) : Int)]) := by
    show _ = _
    rw [take_snoc xs k (by rw [HL.out]; exact hlt), HX.out, addL_at s t k hks hkt]
   have hsz := hbel.size
   go_wp2_with fail
   go_region_held3 (fun _ => True) (trivial) ((refine step_append_lies _ (by rfl) _ _ _ (by rfl) w.heap.size 5 i0 _ 1 1 Tryz.underlying129 hi hz0 hz1 hz2 rfl (by omega) (.slice (some ⟨g, 0, none⟩) k cap) k _ (by rfl) ((hown.alloc _).drew) ⟨wr.heap.size, 0, none⟩ 1 1 [.int .u8 ((s[k].toNat ^^^ t[k].toNat : Nat) : Int)] (by rfl) (by rfl) (World.news_of_block (cs := #[.int .u8 ((s[k].toNat ^^^ t[k].toNat : Nat) : Int)]) (t := 5) (fr := (0, 0)) (heap_alloc_new wr _)) (by simp [Value.oneCell']) (by omega) (by unfold maxLen; omega) (by omega) (by simp; omega) (wr.heap.size + 1) (by simp) ?_; intro gg cap2 w1 hown1 hgrow hat hltg))
   all_goals
    have HO : Hid (w1.ownsRow w.heap.size 5 1 (.slice (some ⟨gg, 0, none⟩) (k + 1) cap2) (k + 1) ((xs.take (k + 1)).map (Value.int .u8))) := by
     rw [HE.out, List.map_append]
     first | exact hown1 | (rw [List.map_take]; exact hown1)
    have hb' : Below w.heap.size w w1 := ((hbel.alloc hsz _).drew).grown hgrow (by simp; omega) (fun j hj => (hown.lt j hj).1)
    clear hown1 hgrow hown hat hltg
    go_wp2
    go_roundw
    case rel => exact ⟨k + 1, gg, cap2, by omega, by go_num, rfl, HO.out, hb'⟩
    case measure => simp [intOf]; omega
  ·have e : k = n := by omega
   subst e
   rw [List.take_of_length_le (by rw [HL.out]; omega)] at hown
   have hcv := run_convert_bytes_arg (P := Tryz.prog) wr 129 5 Tryz.underlying129 Tryz.underlying5 g 0 k cap xs HL.out (fun i hi => by
    rw [Nat.zero_add, hown.cellAt i (by omega)]
    simp [HL.out, hi]) 9 Tryz.underlying9
   go_wp2
   go_ret
   exact ⟨ret_str (by rw [HX.out]), hbel⟩
theorem sAddT_any (s t : ByteArray) (w : World) (hs : s.size ≤ 1048576) :
  Calls Tryz.prog 126 #[.string s, .string t] w fun e w' => e = .returned (.string (addS s t)) ∧ Below w.heap.size w w' := by
 by_cases ha : s.size = t.size
 ·refine (sAddT_same s t w hs ha).mono ?_
  rintro e w' ⟨rfl, hb⟩
  exact ⟨ret_str (by simp [addS, ha]), hb⟩
 ·have ha' : ((s.size : Int) != (t.size : Int)) = true := by simp; omega
  go_enter Tryz.func126, Tryz.ntmps126
  go_wp2
  go_ret
  exact ⟨ret_str (by simp [addS, ha]; rfl), Below.refl _ _⟩
theorem wpList_append_all {P : Program} (w : World) {ops : Array Oper} {rest : List Oper} {o : Oper} {a : Act} {Q : Exit → Act → World → Prop} (hgd : o.guard = none) (s x : Operand) (t : TypeId)
  (ho : o.op = .call { callee := .builtin .append, args := #[s, x], argTypes := #[t, t] })
  (base : Nat) (e : TypeId) (i : TypeInfo) (z : Value) (size bytes : Nat) (ht : P.underlying t = some (.slice e)) (hi : P.info? e = some i) (hz : i.zero = some z)
  (hsize : i.size = size) (hby : i.bytes = bytes) (hzs : z.cells.size = size) (hsz : 0 < size)
  (g0 n cap0 : Nat) (xs : List Value) (hs : a.eval s = .slice (some ⟨g0, 0, none⟩) n cap0) (hown : w.ownsRow base e size (.slice (some ⟨g0, 0, none⟩) n cap0) n xs)
  (ad : Addr) (m c : Nat) (news : List Value) (hx : a.eval x = .slice (some ad) m c) (hl : news.length = m * size) (hnews : ∀ j u, news[j]? = some u → w.cell? (ad.add j) = some u) (h1 : ∀ u ∈ news, u.oneCell' = true)
  (h63 : n + m ≤ maxLen) (hbytes : (n + m) * bytes ≤ 140737488355328) (hbase : base ≤ w.heap.size)
  (h : ∀ g cap w', w'.ownsRow base e size (.slice (some ⟨g, 0, none⟩) (n + m) cap) (n + m) (xs ++ news) → w.grownBy w' (some g0) → wpList P ops Q rest (a.put o.dst (.slice (some ⟨g, 0, none⟩) (n + m) cap)) w') :
  wpList P ops Q (o :: rest) a w := by
 refine wpList_append_own w hgd s x t ho base e i z size bytes ht hi hz hsize hby hzs hsz _ n xs hs hown ad m c news hx hl hnews h1 h63 hbytes hbase fun v' w' h2 h3 h4 => ?_
 have hne : v' ≠ .slice none 0 0 := fun e => by have := h4.1 e; cases this.1
 rcases h2.2 with ⟨e, _⟩ | ⟨g, cap, cur, e, _⟩
 ·exact absurd e hne
 ·subst e
  exact h g cap w' h2 h3
theorem step_append_row {P : Program} (w : World) {ops : Array Oper} {o : Oper} {a : Act} {K : Act → World → Prop} {Q : Exit → Act → World → Prop} {E : Prop} (hgd : o.guard = none) (s x : Operand) (t : TypeId)
  (ho : o.op = .call { callee := .builtin .append, args := #[s, x], argTypes := #[t, t] })
  (base : Nat) (e : TypeId) (i : TypeInfo) (z : Value) (size bytes : Nat) (ht : P.underlying t = some (.slice e)) (hi : P.info? e = some i) (hz : i.zero = some z)
  (hsize : i.size = size) (hby : i.bytes = bytes) (hzs : z.cells.size = size) (hsz : 0 < size)
  (g0 n cap0 : Nat) (xs : List Value) (hs : a.eval s = .slice (some ⟨g0, 0, none⟩) n cap0) (hown : w.ownsRow base e size (.slice (some ⟨g0, 0, none⟩) n cap0) n xs)
  (ad : Addr) (m c : Nat) (news : List Value) (hx : a.eval x = .slice (some ad) m c) (hl : news.length = m * size) (hnews : ∀ j u, news[j]? = some u → w.cell? (ad.add j) = some u) (h1 : ∀ u ∈ news, u.oneCell' = true)
  (h63 : n + m ≤ maxLen) (hbytes : (n + m) * bytes ≤ 140737488355328) (hbase : base ≤ w.heap.size)
  (h : ∀ g cap w', w'.ownsRow base e size (.slice (some ⟨g, 0, none⟩) (n + m) cap) (n + m) (xs ++ news) → w.grownBy w' (some g0) → K (a.put o.dst (.slice (some ⟨g, 0, none⟩) (n + m) cap)) w') :
  if Region.wanted o (yielded ops a.tmps) = true then Oper.wp P o a w K Q else E := by
 have hw : Region.wanted o (yielded ops a.tmps) = true := by simp [Region.wanted, hgd]
 rw [if_pos hw]
 refine wp_append_own w s x t ho base e i z size bytes ht hi hz hsize hby hzs hsz _ n xs hs hown ad m c news hx hl hnews h1 h63 hbytes hbase fun v' w' h2 h3 h4 => ?_
 have hne : v' ≠ .slice none 0 0 := fun e => by have := h4.1 e; cases this.1
 rcases h2.2 with ⟨e, _⟩ | ⟨g, cap, cur, e, _⟩
 ·exact absurd e hne
 ·subst e
  exact h g cap w' h2 h3
theorem Tryz.infoStr : (Tryz.prog.info? 9).map (fun i => (i.zero, i.size, i.bytes)) = some (some (.string ByteArray.empty), 1, 16) := by kernel_rfl
def TxtAt (w : World) (a : Option Addr) (n : Nat) (S : Nat → ByteArray) : Prop := ∀ i, i < n → ∃ b off, a = some ⟨b, off, none⟩ ∧ w.cell? ⟨b, off + i, none⟩ = some (.string (S i))
theorem TxtAt.below {w w' : World} {a : Option Addr} {n : Nat} {S : Nat → ByteArray} (h : TxtAt w a n S) (hb : Below w.heap.size w w') : TxtAt w' a n S := fun i hi => by
 obtain ⟨b, off, e, hc⟩ := h i hi
 exact ⟨b, off, e, (hb.cell (p := ⟨b, off + i, none⟩) (block_lt_of_cell hc)).trans hc⟩
theorem TxtAt.some {w : World} {a : Option Addr} {n : Nat} {S : Nat → ByteArray} (h : TxtAt w a n S) (hn : 0 < n) : ∃ b off, a = some ⟨b, off, none⟩ ∧ ∀ i, i < n → w.cell? ⟨b, off + i, none⟩ = .some (.string (S i)) := by
 obtain ⟨b, off, e, _⟩ := h 0 hn
 refine ⟨b, off, e, fun i hi => ?_⟩
 obtain ⟨b', off', e', hc⟩ := h i hi
 rw [e] at e'
 simp at e'
 obtain ⟨rfl, rfl⟩ := e'
 exact hc
def sL (S : Nat → ByteArray) (n : Nat) : List Value := (List.range n).map fun i => Value.string (S i)
theorem sL_len (S : Nat → ByteArray) (n : Nat) : (sL S n).length = n := by simp [sL]
theorem sL_get (S : Nat → ByteArray) (n i : Nat) (h : i < n) : (sL S n)[i]? = some (Value.string (S i)) := by simp [sL, h]
theorem sL_congr {S S' : Nat → ByteArray} {n : Nat} (h : ∀ i, i < n → S i = S' i) : sL S n = sL S' n := by
 unfold sL
 apply List.map_congr_left
 intro i hi
 rw [h i (List.mem_range.1 hi)]
theorem sL_snoc (S : Nat → ByteArray) (n : Nat) : sL S (n + 1) = sL S n ++ [Value.string (S n)] := by
 unfold sL
 rw [List.range_succ, List.map_append]
 rfl
theorem sL_set (S : Nat → ByteArray) (n k : Nat) (s : ByteArray) (h : k < n) : (sL S n).set k (.string s) = sL (fun i => if i = k then s else S i) n := by
 apply List.ext_getElem?
 intro i
 rw [List.getElem?_set]
 by_cases hi : i < n
 ·by_cases e : k = i
  ·subst e; simp [sL, h]
  ·simp [sL, hi, e, Ne.symm e]
 ·by_cases e : k = i
  ·omega
  ·rw [if_neg e, List.getElem?_eq_none (by rw [sL_len]; omega), List.getElem?_eq_none (by rw [sL_len]; omega)]
theorem sL_empty (n : Nat) : sL (fun _ => ByteArray.empty) n = List.replicate n (Value.string ByteArray.empty) := by
 apply List.ext_getElem?
 intro i
 by_cases hi : i < n
 ·rw [sL_get _ _ _ hi]; simp [hi]
 ·rw [List.getElem?_eq_none (by rw [sL_len]; omega), List.getElem?_eq_none (by simp; omega)]
def OwnT (w : World) (B : Nat) (a : Option Addr) (n cap : Nat) (S : Nat → ByteArray) : Prop := w.ownsRow B 9 1 (.slice a n cap) n (sL S n)
theorem OwnT.at {w : World} {B : Nat} {a : Option Addr} {n cap : Nat} {S : Nat → ByteArray} (h : OwnT w B a n cap S) : TxtAt w a n S := by
 intro i hi
 rcases own_shape h with ⟨rfl, rfl, rfl⟩ | ⟨g, cur, rfl, _⟩
 ·omega
 ·exact ⟨g, 0, rfl, by rw [Nat.zero_add, h.cellAt i (by omega), sL_get _ _ _ hi]⟩
theorem OwnT.below {w w' : World} {B : Nat} {a : Option Addr} {n cap : Nat} {S : Nat → ByteArray} (h : OwnT w B a n cap S) (hb : Below w.heap.size w w') : OwnT w' B a n cap S := ownsRow_below h hb
theorem OwnT.congr {w : World} {B : Nat} {a : Option Addr} {n cap : Nat} {S S' : Nat → ByteArray} (h : OwnT w B a n cap S) (e : ∀ i, i < n → S i = S' i) : OwnT w B a n cap S' := by
 unfold OwnT at *
 rw [← sL_congr e]
 exact h
theorem OwnT.base {w : World} {B B' : Nat} {a : Option Addr} {n cap : Nat} {S : Nat → ByteArray} (h : OwnT w B a n cap S) (hB : B' ≤ B) : OwnT w B' a n cap S := own_base h hB
theorem OwnT.nil (w : World) (B : Nat) (S : Nat → ByteArray) : OwnT w B none 0 0 S := World.ownsRow_nil w B _ _
theorem litT (w : World) (S : Nat → ByteArray) : OwnT (w.alloc (.cells #[] 9)) w.heap.size (some ⟨w.heap.size, 0, none⟩) 0 0 S :=
 World.ownsRow_lit w #[] 0 (Nat.le_refl _) (by unfold maxLen; omega) rfl
def ResT (w w' : World) (v : Value) (n : Nat) (S : Nat → ByteArray) : Prop := ∃ a cap, v = .slice a n cap ∧ OwnT w' w.heap.size a n cap S
theorem ResT.none (w w' : World) (S : Nat → ByteArray) : ResT w w' (.slice none 0 0) 0 S := ⟨_, _, rfl, OwnT.nil _ _ _⟩
theorem ResT.congr {w w' : World} {v : Value} {n : Nat} {S S' : Nat → ByteArray} (h : ResT w w' v n S) (e : ∀ i, i < n → S i = S' i) : ResT w w' v n S' := by
 obtain ⟨a, cap, rfl, ho⟩ := h
 exact ⟨a, cap, rfl, ho.congr e⟩
theorem ba_beq (s : ByteArray) : (s.toList == s.toList) = true := by simp
theorem ba_ne {s u : ByteArray} (h : s ≠ u) : (s.toList == u.toList) = false := by
 rw [ByteArray.toList_eq, ByteArray.toList_eq]
 simp only [beq_eq_false_iff_ne, ne_eq]
 intro e
 exact h (ByteArray.ext (Array.toList_inj.1 e))
theorem eqT_same (a b : Option Addr) (n ca cb : Nat) (S : Nat → ByteArray) (w : World) (ha : TxtAt w a n S) (hb : TxtAt w b n S) (hn : n ≤ 1048576) :
  Calls Tryz.prog 53 #[.slice a n ca, .slice b n cb] w fun e w' => e = .returned (.bool true) ∧ Below w.heap.size w w' := by
 go_enter Tryz.func53, Tryz.ntmps53
 go_wp2
 go_loopw [5] (fun i wr => ∃ k : Nat, k ≤ n ∧ i = .int .i64 k ∧ Below w.heap.size w wr) (fun i _ => n - (intOf i).toNat)
 case atStart => exact ⟨0, Nat.zero_le _, rfl, Below.refl _ _⟩
 case round =>
  obtain ⟨k, hk, rfl, hbel⟩ := hrel
  have ha' := ha.below hbel
  have hb' := hb.below hbel
  clear ha hb
  by_cases hlt : k < n
  ·obtain ⟨ba, oa, rfl, hca⟩ := ha' k hlt
   obtain ⟨bb, ob, rfl, hcb⟩ := hb' k hlt
   have hlti : (k : Int) < (n : Int) := by omega
   clear ha' hb'
   generalize S k = s at hca hcb
   have hbq := ba_beq s
   go_wp2
   go_quiet (fail)
   go_wp2
   go_roundw
   case rel => exact ⟨k + 1, by omega, by go_num, below_drewN hbel _⟩
   case measure => simp [intOf]; omega
  ·go_wp2
   go_ret
   exact ⟨rfl, hbel⟩
theorem toT_any (a : Option Addr) (n cap : Nat) (S : Nat → ByteArray) (w : World) (h : TxtAt w a n S) (hn : n ≤ 1048576) :
  Calls Tryz.prog 41 #[.slice a n cap] w fun e w' => e = .returned (.slice (some ⟨w.heap.size, 0, none⟩) n n) ∧ OwnT w' w.heap.size (some ⟨w.heap.size, 0, none⟩) n n S ∧ Below w.heap.size w w' := by
 obtain ⟨i0, hi, hz0, hz1, hz2⟩ := info_parts Tryz.infoStr
 have KH : Hid (TxtAt w a n S) := h
 clear h
 go_enter Tryz.func41, Tryz.ntmps41
 go_wp2_with (at_make; refine wpList_make_full _ rfl _ _ 46 rfl w.heap.size 9 i0 (.string ByteArray.empty) 1 Tryz.underlying46 hi hz0 hz1 .i64 .i64 _ _ n rfl rfl rfl rfl (by rw [hz2]; omega) (by unfold maxLen; omega) (Nat.le_refl _) ?_; intro w1 hown hgrow)
 have hb1 : Below w.heap.size w w1 := (Below.refl _ _).grown hgrow (Nat.le_refl _) (by simp)
 have ho1 : OwnT w1 w.heap.size (some ⟨w.heap.size, 0, none⟩) n n (fun i => if i < 0 then S i else ByteArray.empty) := by
  have e : sL (fun i => if i < 0 then S i else ByteArray.empty) n = List.replicate n (Value.string ByteArray.empty) := by rw [← sL_empty]; exact sL_congr (fun i _ => by simp)
  unfold OwnT
  rw [e]
  simpa [Value.cells, toList_madeCells_one] using hown
 clear hown hgrow
 go_loopw [4] (fun i wr => ∃ k : Nat, k ≤ n ∧ i = .int .i64 k ∧ OwnT wr w.heap.size (some ⟨w.heap.size, 0, none⟩) n n (fun i => if i < k then S i else ByteArray.empty) ∧ Below w.heap.size w wr) (fun i _ => n - (intOf i).toNat)
 case atStart => exact ⟨0, Nat.zero_le _, rfl, ho1, hb1⟩
 case round =>
  obtain ⟨k, hk, rfl, hown, hbel⟩ := hrel
  clear ho1 hb1
  by_cases hlt : k < n
  ·obtain ⟨b, off, rfl, hc⟩ := KH.out.below hbel k hlt
   have hlti : (k : Int) < (n : Int) := by omega
   obtain ⟨old, hold⟩ : ∃ v, wr.cell? ⟨w.heap.size, k, none⟩ = some v := by
    rw [World.ownsRow.cellAt hown k (by omega)]
    exact ⟨_, sL_get _ _ _ hlt⟩
   have hfr := World.ownsRow.frozenAt hown k
   have hst := World.ownsRow.stored hown k (.string (S k))
   rw [sL_set _ _ _ _ hlt] at hst
   have HO : Hid (OwnT (wr.setCell ⟨w.heap.size, k, none⟩ (.string (S k))) w.heap.size (some ⟨w.heap.size, 0, none⟩) n n (fun i => if i < k + 1 then S i else ByteArray.empty)) := OwnT.congr hst.1 (fun i _ => by
    by_cases e : i = k
    ·simp [e]
    ·by_cases e2 : i < k
     ·simp [e, e2, show i < k + 1 by omega]
     ·simp [e, e2, show ¬ i < k + 1 by omega])
   have hne : Below w.heap.size w (wr.setCell ⟨w.heap.size, k, none⟩ (.string (S k))) := hbel.setCell (Nat.le_refl _) _
   clear hst hown
   go_wp2
   go_roundw
   case rel => exact ⟨k + 1, by omega, by go_num, HO.out, hne⟩
   case measure => simp [intOf]; omega
  ·obtain rfl : k = n := by omega
   have HO : Hid (OwnT wr w.heap.size (some ⟨w.heap.size, 0, none⟩) k k S) := hown.congr (fun i hi => if_pos hi)
   clear hown
   go_wp2
   go_ret
   exact ⟨rfl, HO.out, hbel⟩
theorem szT_any (a : Option Addr) (n cap : Nat) (S : Nat → ByteArray) (l : Nat) (w : World) (h : TxtAt w a n S) (hl : l ≤ 1048576) (hn : n ≤ maxLen) (hL : ∀ i, i < n → (S i).size ≤ maxLen) :
  Calls Tryz.prog 33 #[.slice a n cap, .int .i64 (l : Int)] w fun e w' => e = .returned (.int .i64 (szF (fun i => (S i).size) n l)) ∧ w' = w := by
 unfold maxLen at hn hL
 by_cases h1 : n ≤ l
 ·obtain ⟨d, hd⟩ : ∃ d, l - n = d := ⟨_, rfl⟩
  have hw : IntKind.i64.wrap ((l : Int) - (n : Int)) = (d : Int) := by rw [IntKind.wrap_i64]; omega
  have h0 : ¬ ((d : Int) < 0) := by omega
  have KL : Hid _ := hL
  have KH : Hid (TxtAt w a n S) := h
  clear hL h
  go_enter Tryz.func33, Tryz.ntmps33
  go_wp2
  go_loop [1, 5] (fun p i => ∃ c q : Nat, c ≤ n ∧ q ≤ 1048576 ∧ Hid (tot (fun i => (S i).size) c + q = d) ∧ p = .int .i64 (q : Int) ∧ i = .int .i64 (c : Int)) (fun _ i => n - (intOf i).toNat)
  case atStart => exact ⟨0, d, Nat.zero_le _, by omega, by show 0 + d = d; omega, rfl, rfl⟩
  case round =>
   obtain ⟨c, q, hc, hq, HT, rfl, rfl⟩ := hrel
   clear hw h0
   by_cases hlt : c < n
   ·obtain ⟨b, off, rfl, hcell⟩ := KH.out c hlt
    have hLc := KL.out c hlt
    have hti := tot_le (fun i => (S i).size) hlt
    have hlti : (c : Int) < (n : Int) := by omega
    have HT' := HT.out
    obtain ⟨s, hs⟩ : ∃ s, S c = s := ⟨_, rfl⟩
    have hti' : tot (fun i => (S i).size) c + s.size ≤ tot (fun i => (S i).size) n := by rw [← hs]; exact hti
    have KTS : Hid (tot (fun i => (S i).size) (c + 1) = tot (fun i => (S i).size) c + s.size) := by rw [← hs]; rfl
    rw [hs] at hcell hLc
    obtain ⟨lc, hlc⟩ : ∃ lc, s.size = lc := ⟨_, rfl⟩
    rw [hlc] at hLc hti' KTS
    clear hti hs
    by_cases h2 : lc ≤ q
    ·obtain ⟨q', hq'⟩ : ∃ q', q - lc = q' := ⟨_, rfl⟩
     have hw2 : IntKind.i64.wrap ((q : Int) - (lc : Int)) = (q' : Int) := by rw [IntKind.wrap_i64]; omega
     have h3 : ¬ ((q' : Int) < 0) := by omega
     have HT2 : Hid (tot (fun i => (S i).size) (c + 1) + q' = d) := by show _ = _; rw [KTS.out]; omega
     have hq2 : q' ≤ 1048576 := by omega
     clear HT HT' hti' KTS
     go_wp2
     go_round
     case rel => exact ⟨c + 1, q', by omega, hq2, HT2, rfl, by go_num⟩
     case measure => simp [intOf] <;> omega
    ·have hw2 : IntKind.i64.wrap ((q : Int) - (lc : Int)) = (q : Int) - (lc : Int) := by rw [IntKind.wrap_i64]; omega
     have h3 : (q : Int) - (lc : Int) < 0 := by omega
     have HR : Hid (szF (fun i => (S i).size) n l = -1) := by
      show _ = _
      unfold szF
      rw [if_neg (by omega)]
     clear HT HT' hti' KTS
     go_wp2
     go_ret
     exact ⟨ret_int HR.out.symm, rfl⟩
   ·obtain rfl : c = n := by omega
    have HR : Hid (szF (fun i => (S i).size) c l = (q : Int)) := by
     have := HT.out
     show _ = _
     unfold szF
     rw [if_pos (by omega)]
     omega
    clear KH
    go_wp2
    go_ret
    exact ⟨ret_int HR.out.symm, rfl⟩
 ·have h0 : (l : Int) - (n : Int) < 0 := by omega
  have hw : IntKind.i64.wrap ((l : Int) - (n : Int)) = (l : Int) - (n : Int) := by rw [IntKind.wrap_i64]; omega
  have HR : Hid (szF (fun i => (S i).size) n l = -1) := by show _ = _; unfold szF; rw [if_neg (by omega)]
  clear h hL
  go_enter Tryz.func33, Tryz.ntmps33
  go_wp2
  go_ret
  exact ⟨ret_int HR.out.symm, rfl⟩
def tat (s : ByteArray) (k : Nat) : Nat := (s.data.toList.getD k 0).toNat
theorem tat_lt (s : ByteArray) (k : Nat) : tat s k < 256 := u8_lt _
theorem tat_in (s : ByteArray) (k : Nat) (h : k < s.size) : tat s k = s[k].toNat := by
 have h' : k < s.data.toList.length := by simpa using h
 simp only [tat, List.getD, List.getElem?_eq_getElem h', Option.getD_some]
 rfl
theorem tat_out (s : ByteArray) (k : Nat) (h : ¬ k < s.size) : tat s k = 0 := by
 have h' : s.data.toList.length ≤ k := by simp at h ⊢; exact h
 simp [tat, List.getD, List.getElem?_eq_none h']
theorem str_ext {s u : ByteArray} (h : s.size = u.size) (he : ∀ k, tat s k = tat u k) : s = u := by
 apply ByteArray.ext
 apply Array.toList_inj.1
 apply List.ext_getElem?
 intro k
 by_cases hk : k < s.size
 ·have h1 : k < s.data.toList.length := by simpa using hk
  have h2 : k < u.data.toList.length := by rw [h] at hk; simpa using hk
  have e := he k
  simp only [tat, List.getD, List.getElem?_eq_getElem h1, List.getElem?_eq_getElem h2, Option.getD_some] at e
  rw [List.getElem?_eq_getElem h1, List.getElem?_eq_getElem h2, UInt8.toNat_inj.1 e]
 ·have h1 : s.data.toList.length ≤ k := by simp at hk ⊢; exact hk
  have h2 : u.data.toList.length ≤ k := by rw [h] at hk; simp at hk ⊢; exact hk
  rw [List.getElem?_eq_none h1, List.getElem?_eq_none h2]
theorem tat_str (xs : List Int) (k : Nat) : tat (strOfNums xs) k = (xs.getD k 0).toNat % 256 := by
 simp only [tat, strOfNums_data, List.getD, List.getElem?_map]
 cases xs[k]? with
 | none => rfl
 | some v => simp
theorem addS_size {x y : ByteArray} (h : x.size = y.size) : (addS x y).size = x.size := by
 simp only [addS]
 rw [if_pos h, strOfNums_size, addL_len x y h]
theorem tat_add {x y : ByteArray} (h : x.size = y.size) (k : Nat) : tat (addS x y) k = tat x k ^^^ tat y k := by
 by_cases hk : k < x.size
 ·have hk2 : k < y.size := by omega
  simp only [addS]
  rw [if_pos h, tat_str, addL_at x y k hk hk2, Int.toNat_natCast, tat_in x k hk, tat_in y k hk2]
  exact Nat.mod_eq_of_lt (Gf.xor_lt (u8_lt _) (u8_lt _))
 ·rw [tat_out x k hk, tat_out y k (by omega), tat_out _ k (by rw [addS_size h]; exact hk)]
  rfl
theorem scaleS_size {s : ByteArray} {a : Int} (h : isB a = true) : (scaleS s a).size = s.size := by
 simp only [scaleS]
 rw [if_pos h, strOfNums_size, scaleL_len]
theorem tat_scale (s : ByteArray) {A : Nat} (hA : A < 256) (k : Nat) : tat (scaleS s (A : Int)) k = Gf.mul (tat s k) A := by
 have h := isB_ofNat hA
 by_cases hk : k < s.size
 ·simp only [scaleS]
  rw [if_pos h, tat_str, Int.toNat_natCast, scaleL_at s A k hk, Int.toNat_natCast, tat_in s k hk]
  exact Nat.mod_eq_of_lt (Gf.mul_lt (u8_lt _) hA)
 ·rw [tat_out s k hk, tat_out _ k (by rw [scaleS_size h]; exact hk), Gf.zero_mul hA]
def ErrT (w : World) : Prop := w.cell? ⟨0, 0, none⟩ = some (.iface 191 (.agg #[.pointer (some ⟨1, 117, none⟩)]))
theorem ErrT.below {w w' : World} (h : ErrT w) (hb : Below w.heap.size w w') : ErrT w' := (hb.cell (p := ⟨0, 0, none⟩) (block_lt_of_cell h)).trans h
theorem ErrT.lt {w : World} (h : ErrT w) : 0 < w.heap.size := block_lt_of_cell h
abbrev failC (c : Int) : List PanicEntry := [{ v := .iface 119 (.int .i64 c), recovered := false }]
theorem need_ok (c : Int) (w : World) : Calls Tryz.prog 48 #[.bool true, .int .i64 c] w fun e w' => e = .returned (.tuple #[]) ∧ w' = w := by
 go_enter Tryz.func48, Tryz.ntmps48
 go_wp2
 go_end0
 exact ⟨rfl, rfl⟩
theorem need_no (c : Int) (w : World) : Calls Tryz.prog 48 #[.bool false, .int .i64 c] w fun e w' => e = .panicked (failC c) ∧ w' = w := by
 go_enter Tryz.func48, Tryz.ntmps48
 go_wp2
 simp [bodyPost]
theorem caught_nil (w : World) : Calls Tryz.prog 43 #[.nilIface] w fun e w' => e = .returned (.int .i64 0) ∧ w' = w := by
 go_enter Tryz.func43, Tryz.ntmps43
 go_wp2
 go_ret
 exact ⟨rfl, rfl⟩
theorem caught_fail (c : Int) (w : World) (h : ErrT w) : Calls Tryz.prog 43 #[.iface 119 (.int .i64 c)] w fun e w' => e = .returned (.int .i64 c) ∧ Below w.heap.size w w' := by
 have ta := fun xT : TypeId => run_typeAssert_hasB (P := Tryz.prog) (t := 119) (asserted := 117) Tryz.underlying117 (by kernel_rfl) (.int .i64 c) xT w
 obtain ⟨w0, HW0⟩ : ∃ x, Hid (x = w.alloc (.cells #[.int .i64 0] 119)) := ⟨_, rfl⟩
 obtain ⟨B, HB⟩ : ∃ x, Hid (x = w.heap.size) := ⟨_, rfl⟩
 have c0 : w0.cell? ⟨B, 0, none⟩ = some (.int .i64 0) := by rw [HW0.out, HB.out]; simp
 have f0 : w0.frozen? ⟨B, 0, none⟩ = false := by rw [HW0.out, HB.out]; simp
 have b0 : Below w.heap.size w w0 := by rw [HW0.out]; exact (Below.refl _ _).alloc (Nat.le_refl _) _
 have KA : Hid _ := as_hit c ⟨B, 0, none⟩ (.int .i64 0) w0 (h.below b0) c0 f0
 have KB : Hid (Below w.heap.size w w0) := b0
 have lB : B < w0.heap.size := block_lt_of_cell c0
 have hBw : w.heap.size ≤ B := by rw [HB.out]; exact Nat.le_refl _
 clear h f0 b0
 go_enter Tryz.func43, Tryz.ntmps43
 go_wp2_with fail
 rw [← HW0.out, ← HB.out]
 refine Calls.mono KA.out ?_
 rintro e w' ⟨rfl, W, bW, rfl⟩
 have c1 : (W.setCell ⟨B, 0, none⟩ (.int .i64 c)).cell? ⟨B, 0, none⟩ = some (.int .i64 c) := World.cell?_setCell_same _ _ _ ((bW.cell (p := ⟨B, 0, none⟩) lB).trans c0)
 have HF : Hid (Below w.heap.size w (W.setCell ⟨B, 0, none⟩ (.int .i64 c))) := (KB.out.trans (bW.mono KB.out.size)).setCell hBw _
 generalize W.setCell ⟨B, 0, none⟩ (.int .i64 c) = w2 at c1 HF
 clear bW c0
 go_wp2
 go_ret
 exact ⟨rfl, HF.out⟩
theorem catchR_panicking (p : Addr) (old : Value) (c : Int) (older : List PanicEntry) (w : World) (h : ErrT w) (hc : w.cell? p = some old) (hz : w.frozen? p = false) :
  CallsD Tryz.prog 42 #[.pointer (some p)] (.panicking ({ v := .iface 119 (.int .i64 c), recovered := false } :: older)) w fun e u' w' =>
   e = .returned (.tuple #[]) ∧ u' = .panicking ({ v := .iface 119 (.int .i64 c), recovered := true } :: older) ∧ ∃ W, Below w.heap.size w W ∧ w' = W.setCell p (.int .i64 c) := by
 refine callsD_of_wpS Tryz.func42 rfl fun c₀ cs hu => ?_
 apply wpS_region
 simp [wpOpsS, go_sem, recoverD, hu, Tryz.ntmps42]
 have lp := block_lt_of_cell hc
 refine Calls.mono (caught_fail c w h) ?_
 rintro e w' ⟨rfl, hb⟩
 have hc' := (hb.cell (p := p) lp).trans hc
 have hz' := (World.frozen?_of_block (a := p) (hb.block _ lp)).trans hz
 simp [go_sem, hc', hz', bodyPostS, results, Tryz.results42, storeCells, Addr.add]
 exact ⟨w', hb, rfl⟩
theorem catchR_idle (p : Addr) (old : Value) (w : World) (hc : w.cell? p = some old) (hz : w.frozen? p = false) :
  CallsD Tryz.prog 42 #[.pointer (some p)] .returning w fun e u' w' => e = .returned (.tuple #[]) ∧ u' = .returning ∧ w' = w.setCell p (.int .i64 0) := by
 refine callsD_of_wpS Tryz.func42 rfl fun c₀ cs hu => ?_
 apply wpS_region
 simp [wpOpsS, go_sem, recoverD, hu, Tryz.ntmps42]
 refine Calls.mono (caught_nil w) ?_
 rintro e w' ⟨rfl, rfl⟩
 simp [go_sem, hc, hz, bodyPostS, results, Tryz.results42, storeCells, Addr.add]
 cases c₀
 simp_all
end Go.Proofs.YtmhcdkbgjjibeaaGreatDoor
