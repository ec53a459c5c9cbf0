import Derived.Test.YtodnodekheaacaaGreatDoorChecked
import Derived.Test.YtodnodekheaacaaGreatDoorI2
import Derived.Test.YtodnodekheaacaaGreatDoorI4
import Derived.Outline
import Derived.WalkSpells
import Derived.WalkLawsBesides
import Derived.Laws.BitsAllLaws
import Derived.Test.YtodnodekheaacaaGreatDoorI3
import Derived.Test.YtodnodekheaacaaGreatDoorRows
import Derived.Test.YtodnodekheaacaaGreatDoorI1
import Derived.Laws.Shifts
import Derived.Laws.OwnMore
import Derived.OwnWalk
import Derived.Deep.QuietTactic
import Derived.BigQuiet
import Derived.Deep.RegionHeld3
import Derived.Test.YtodnodekheaacaaGreatDoorI5
import Derived.StillTailTactics
import Derived.Laws.BytesArg
import Derived.Deep.AppendLies
set_option maxHeartbeats 8000000
set_option maxRecDepth 2000
open Go.ChangeShapes Go.WideShapes Go.ChangeAt Go.RowKit
namespace Go.Proofs.YtodnodekheaacaaGreatDoor
def expZ : List Int := (List.range 255).map fun i => ((Gf.ex i : Nat) : Int)
def logZ : List Int := (List.range 256).map fun i => ((Gf.lg i : Nat) : Int)
def expV : Array Value := (expZ.map (Value.int .u8)).toArray
def logV : Array Value := (logZ.map (Value.int .u8)).toArray
theorem expV_at {i : Nat} (h : i < 255) : expV[i]? = some (.int .u8 ((Gf.ex i : Nat) : Int)) := by
 unfold expV expZ
 simp [h]
theorem logV_at {i : Nat} (h : i < 256) : logV[i]? = some (.int .u8 ((Gf.lg i : Nat) : Int)) := by
 unfold logV logZ
 simp [h]
set_option maxRecDepth 100000 in
theorem pow2_pos (n : Int) (r : Nat) (w : World) (hr : r < 255) (h1 : n.tmod 255 = (r : Int)) :
  Calls Tryz.prog 102 #[.int .i64 n] w fun e w' => e = .returned (.int .u8 (Gf.ex r : Nat)) ∧ w' = w.alloc (.cells expV 192) := by
 have hc : (w.alloc (.cells expV 192)).cell? ⟨w.heap.size, r, none⟩ = some (.int .u8 (Gf.ex r : Nat)) := by
  rw [cell_of_row _ _ _ _ _ _ (heap_alloc_new w _)]; exact expV_at hr
 go_enter Tryz.func102, Tryz.ntmps102
 iterate 11 go_step
 refine wpList_table rfl rfl rfl 192 104 255 _ _ _ .u8 expZ rfl rfl rfl (by kernel_rfl) (by kernel_rfl) (by kernel_rfl) (by kernel_rfl) (by kernel_rfl) 5 3 rfl rfl rfl rfl rfl (by decide) (by simp) (by simp) ?_
 rw [show (expZ.map (Value.int .u8)).toArray = expV from rfl]
 refine wpList_frame (a' := { tmps := #[.int .i64 n, undef, .int .u8 0, .pointer (some ⟨w.heap.size, 0, none⟩), undef, .agg expV, undef, undef, undef, undef, undef, undef, undef, undef, undef], defers := [] }) (by kernel_rfl) ?_
 refine wpList_nil ?_
 go_wp2
 go_ret
 exact ⟨rfl, rfl⟩
set_option maxRecDepth 100000 in
theorem pow2_neg (n : Int) (r : Nat) (w : World) (hr : r < 255) (h1 : n.tmod 255 = (r : Int) - 255) :
  Calls Tryz.prog 102 #[.int .i64 n] w fun e w' => e = .returned (.int .u8 (Gf.ex r : Nat)) ∧ w' = w.alloc (.cells expV 192) := by
 have hc : (w.alloc (.cells expV 192)).cell? ⟨w.heap.size, r, none⟩ = some (.int .u8 (Gf.ex r : Nat)) := by
  rw [cell_of_row _ _ _ _ _ _ (heap_alloc_new w _)]; exact expV_at hr
 go_enter Tryz.func102, Tryz.ntmps102
 iterate 11 go_step
 refine wpList_table rfl rfl rfl 192 104 255 _ _ _ .u8 expZ rfl rfl rfl (by kernel_rfl) (by kernel_rfl) (by kernel_rfl) (by kernel_rfl) (by kernel_rfl) 5 3 rfl rfl rfl rfl rfl (by decide) (by simp) (by simp) ?_
 rw [show (expZ.map (Value.int .u8)).toArray = expV from rfl]
 refine wpList_frame (a' := { tmps := #[.int .i64 n, undef, .int .u8 0, .pointer (some ⟨w.heap.size, 0, none⟩), undef, .agg expV, undef, undef, undef, undef, undef, undef, undef, undef, undef], defers := [] }) (by kernel_rfl) ?_
 refine wpList_nil ?_
 go_wp2
 go_ret
 exact ⟨rfl, rfl⟩
theorem pow2_any (n : Int) (w : World) :
  Calls Tryz.prog 102 #[.int .i64 n] w fun e w' => e = .returned (.int .u8 (Gf.ex (n % 255).toNat : Nat)) ∧ Below w.heap.size w w' := by
 have hr : (n % 255).toNat < 255 := by omega
 have hb : Below w.heap.size w (w.alloc (.cells expV 192)) := (Below.refl _ _).alloc (Nat.le_refl _) _
 have ht := Int.tmod_eq_emod (a := n) (b := 255)
 by_cases h : 0 ≤ n ∨ (255 : Int) ∣ n
 ·rw [if_pos h] at ht
  refine (pow2_pos n (n % 255).toNat w hr (by omega)).mono ?_
  rintro e w' ⟨rfl, rfl⟩
  exact ⟨rfl, hb⟩
 ·rw [if_neg h] at ht
  refine (pow2_neg n (n % 255).toNat w hr (by simp at ht; omega)).mono ?_
  rintro e w' ⟨rfl, rfl⟩
  exact ⟨rfl, hb⟩
set_option maxRecDepth 100000 in
theorem log_any (r : Nat) (w : World) (hr : r < 256) :
  Calls Tryz.prog 103 #[.int .u8 (r : Int)] w fun e w' => e = .returned (.int .i64 (Gf.lg r : Nat)) ∧ Below w.heap.size w w' := by
 have hc : (w.alloc (.cells logV 193)).cell? ⟨w.heap.size, r, none⟩ = some (.int .u8 (Gf.lg r : Nat)) := by
  rw [cell_of_row _ _ _ _ _ _ (heap_alloc_new w _)]; exact logV_at hr
 have hl := Gf.lg_lt' r
 go_enter Tryz.func103, Tryz.ntmps103
 iterate 11 go_step
 refine wpList_table rfl rfl rfl 193 5 256 _ _ _ .u8 logZ rfl rfl rfl (by kernel_rfl) (by kernel_rfl) (by kernel_rfl) (by kernel_rfl) (by kernel_rfl) 4 3 rfl rfl rfl rfl rfl (by decide) (by simp) (by simp) ?_
 rw [show (logZ.map (Value.int .u8)).toArray = logV from rfl]
 refine wpList_frame (a' := { tmps := #[.int .u8 (r : Int), undef, .int .i64 0, .pointer (some ⟨w.heap.size, 0, none⟩), .agg logV, undef, undef, undef, undef], defers := [] }) (by kernel_rfl) ?_
 refine wpList_nil ?_
 go_wp2
 go_ret
 exact ⟨rfl, (Below.refl _ _).alloc (Nat.le_refl _) _⟩
theorem ret_int {k : IntKind} {a b : Int} (h : a = b) : Ending.returned (.int k a) = .returned (.int k b) := by rw [h]
theorem below3 {a b c d : World} (h1 : Below a.heap.size a b) (h2 : Below b.heap.size b c) (h3 : Below c.heap.size c d) : Below a.heap.size a d :=
 (h1.trans (h2.mono h1.size)).trans (h3.mono (Nat.le_trans h1.size h2.size))
theorem below2 {a b c : World} (h1 : Below a.heap.size a b) (h2 : Below b.heap.size b c) : Below a.heap.size a c :=
 h1.trans (h2.mono h1.size)
theorem ret_bool {a b : Bool} (h : a = b) : Ending.returned (.bool a) = .returned (.bool b) := by rw [h]
theorem xor_i64 (a b : Nat) (ha : a < 4294967296) (hb : b < 4294967296) : bits .xor .i64 (a : Int) (b : Int) = ((a ^^^ b : Nat) : Int) := by
 have hx : a ^^^ b < 2 ^ 32 := Nat.xor_lt_two_pow (by omega) (by omega)
 show IntKind.i64.wrap ((BitVec.ofInt 64 (a : Int) ^^^ BitVec.ofInt 64 (b : Int)).toNat : Int) = _
 rw [BitVec.toNat_xor, ofInt_u64 a (by omega), ofInt_u64 b (by omega), IntKind.wrap_i64]
 omega
def isB (a : Int) : Bool := decide (0 ≤ a ∧ a ≤ 255)
theorem isB_nat {a : Int} (h : isB a = true) : ∃ n : Nat, n < 256 ∧ a = (n : Int) := by
 simp [isB] at h
 exact ⟨a.toNat, by omega, by omega⟩
theorem isB_ofNat {n : Nat} (h : n < 256) : isB (n : Int) = true := by simp [isB]; omega
def powI (a n : Int) : Int := if isB a = true ∧ 0 ≤ n ∧ n ≤ 1000000 then ((Gf.gpow a.toNat n.toNat : Nat) : Int) else -1
def invI (a : Int) : Int := if 1 ≤ a ∧ a ≤ 255 then ((Gf.inv a.toNat : Nat) : Int) else -1
theorem isByte_any (a : Int) (w : World) : Calls Tryz.prog 116 #[.int .i64 a] w fun e w' => e = .returned (.bool (isB a)) ∧ w' = w := by
 go_enter Tryz.func116, Tryz.ntmps116
 go_wp2
 ·go_ret
  exact ⟨ret_bool (by simp [isB, *]), rfl⟩
 ·go_ret
  exact ⟨ret_bool (by simp [isB]; omega), rfl⟩
theorem plus_any (a b : Nat) (w : World) (ha : a < 256) (hb : b < 256) : Calls Tryz.prog 68 #[.int .u8 (a : Int), .int .u8 (b : Int)] w fun e w' => e = .returned (.int .u8 ((a ^^^ b : Nat) : Int)) ∧ w' = w := by
 have hx := u8_xor_nat a b ha hb
 go_enter Tryz.func68, Tryz.ntmps68
 go_wp2
 go_ret
 exact ⟨rfl, rfl⟩
theorem times_any (a b : Nat) (w : World) (ha : a < 256) (hb : b < 256) :
  Calls Tryz.prog 70 #[.int .u8 (a : Int), .int .u8 (b : Int)] w fun e w' => e = .returned (.int .u8 (Gf.mul a b : Nat)) ∧ Below w.heap.size w w' := by
 by_cases a0 : a = 0
 ·subst a0
  have hm := Gf.zero_mul hb
  go_enter Tryz.func70, Tryz.ntmps70
  go_wp2
  go_ret
  exact ⟨ret_int (by rw [hm]; rfl), Below.refl _ _⟩
 ·have a0' : ((a : Int) == 0) = false := by simp; omega
  by_cases b0 : b = 0
  ·subst b0
   have hm := Gf.mul_zero ha
   go_enter Tryz.func70, Tryz.ntmps70
   go_wp2
   go_ret
   exact ⟨ret_int (by rw [hm]; rfl), Below.refl _ _⟩
  ·have b0' : ((b : Int) == 0) = false := by simp; omega
   have hm : Hid (Gf.mul a b = Gf.ex ((Gf.lg a + Gf.lg b) % 255)) := Gf.mul_nz ha hb a0 b0
   have hl1 := Gf.lg_lt' a
   have hl2 := Gf.lg_lt' b
   go_enter Tryz.func70, Tryz.ntmps70
   go_wp2_with fail
   refine (log_any a _ ha).mono ?_
   rintro e w1 ⟨rfl, hb1⟩
   go_wp2_with fail
   refine (log_any b _ hb).mono ?_
   rintro e w2 ⟨rfl, hb2⟩
   go_wp2_with fail
   refine (pow2_any _ _).mono ?_
   rintro e w3 ⟨rfl, hb3⟩
   go_wp2
   go_ret
   exact ⟨ret_int (by rw [hm.out, show (((Gf.lg a : Nat) : Int) + ((Gf.lg b : Nat) : Int)) % 255 = (((Gf.lg a + Gf.lg b) % 255 : Nat) : Int) by omega, Int.toNat_natCast]), below3 hb1 hb2 hb3⟩
theorem inverse_any (a : Nat) (w : World) (ha : a < 256) :
  Calls Tryz.prog 69 #[.int .u8 (a : Int)] w fun e w' => e = .returned (.int .u8 (Gf.inv a : Nat)) ∧ Below w.heap.size w w' := by
 have hl1 := Gf.lg_lt' a
 go_enter Tryz.func69, Tryz.ntmps69
 go_wp2_with fail
 refine (log_any a _ ha).mono ?_
 rintro e w1 ⟨rfl, hb1⟩
 go_wp2_with fail
 refine (pow2_any _ _).mono ?_
 rintro e w2 ⟨rfl, hb2⟩
 go_wp2
 go_ret
 refine ⟨ret_int ?_, below2 hb1 hb2⟩
 unfold Gf.inv
 congr 2
 omega
def inB (x a b : Int) : Bool := decide (a ≤ x ∧ x ≤ b)
theorem sIn_any (x a b : Int) (w : World) : Calls Tryz.prog 41 #[.int .i64 x, .int .i64 a, .int .i64 b] w fun e w' => e = .returned (.bool (inB x a b)) ∧ w' = w := by
 go_enter Tryz.func41, Tryz.ntmps41
 go_wp2
 ·go_ret
  exact ⟨ret_bool (by simp [inB, *]), rfl⟩
 ·go_ret
  exact ⟨ret_bool (by simp [inB]; omega), rfl⟩
theorem sIs_any (a : Int) (w : World) : Calls Tryz.prog 76 #[.int .i64 a] w fun e w' => e = .returned (.bool (isB a)) ∧ w' = w := by
 go_enter Tryz.func76, Tryz.ntmps76
 go_wp2_with fail
 refine (sIn_any _ _ _ _).mono ?_
 rintro e w1 ⟨rfl, rfl⟩
 go_wp2
 go_ret
 exact ⟨ret_bool rfl, rfl⟩
theorem pea_step (k A B X : Nat) : Gf.pea (k + 1) A B X = Gf.pea k (Gf.dbl A) (B / 2) (if B % 2 = 1 then X ^^^ A else X) := rfl
theorem sMul_nat (a b : Nat) (w : World) (ha : a < 256) (hb : b < 256) :
  Calls Tryz.prog 151 #[.int .i64 (a : Int), .int .i64 (b : Int)] w fun e w' => e = .returned (.int .i64 (Gf.mul a b : Nat)) ∧ w' = w := by
 have ia := isB_ofNat ha
 have ib := isB_ofNat hb
 go_enter Tryz.func151, Tryz.ntmps151
 go_wp2_with (go_at_call 76; refine (sIs_any _ _).mono ?_; rintro e w' ⟨rfl, rfl⟩)
 go_loop [0, 1, 5] (fun p q r => ∃ A B X k : Nat, A < 256 ∧ X < 256 ∧ k ≤ 8 ∧ B < 2 ^ k ∧ Hid (Gf.pea k A B X = Gf.mul a b) ∧ p = .int .i64 A ∧ q = .int .i64 B ∧ r = .int .i64 X) (fun _ q _ => (intOf q).toNat)
 case atStart => exact ⟨a, b, 0, 8, ha, by omega, by omega, by omega, rfl, rfl, rfl, rfl⟩
 case round =>
  obtain ⟨A, B, X, k, hA, hX, hk, hB, HP, rfl, rfl, rfl⟩ := hrel
  clear ia ib
  have hB8 : B < 256 := Nat.lt_of_lt_of_le hB (Nat.pow_le_pow_right (by omega) hk)
  by_cases hz : B = 0
  ·subst hz
   go_wp2
   go_ret
   exact ⟨ret_int (by rw [← HP.out, Gf.pea_zero]), rfl⟩
  ·obtain ⟨j, rfl⟩ : ∃ j, k = j + 1 := ⟨k - 1, by
    rcases Nat.eq_zero_or_pos k with h | h
    ·subst h; simp at hB; omega
    ·omega⟩
   have hpos : 0 < (B : Int) := by omega
   have hB2 : Hid (B / 2 < 2 ^ j) := by
    have : B < 2 ^ j * 2 := by rw [← Nat.pow_succ]; exact hB
    show B / 2 < 2 ^ j
    omega
   clear hB
   have hxa : bits .xor .i64 (X : Int) (A : Int) = ((X ^^^ A : Nat) : Int) := xor_i64 X A (by omega) (by omega)
   have hxs : bits .xor .i64 (2 * (A : Int)) 285 = (((2 * A) ^^^ 285 : Nat) : Int) := by
    have := xor_i64 (2 * A) 285 (by omega) (by omega)
    simpa using this
   have hlt : Hid (X ^^^ A < 256) := Gf.xor_lt hX hA
   have hdl : Hid (Gf.dbl A < 256) := Gf.dbl_lt hA
   by_cases ho : B % 2 = 1
   ·have ho' : ((B : Int) % 2 == 1) = true := by simp; omega
    by_cases hg : 255 < 2 * A
    ·have hg' : 255 < 2 * (A : Int) := by omega
     have hd : Hid (Gf.dbl A = (2 * A) ^^^ 285) := by show Gf.dbl A = _; simp [Gf.dbl, hg]
     go_wp2
     go_round
     case rel => exact ⟨Gf.dbl A, B / 2, X ^^^ A, j, hdl.out, hlt.out, by omega, hB2.out, by have h := HP.out; rw [pea_step, if_pos ho] at h; exact h, by rw [hd.out], by go_num, rfl⟩
     case measure => simp [intOf]; omega
    ·have hg' : ¬ 255 < 2 * (A : Int) := by omega
     have hd : Hid (Gf.dbl A = 2 * A) := by show Gf.dbl A = _; simp [Gf.dbl, hg]
     go_wp2
     go_round
     case rel => exact ⟨Gf.dbl A, B / 2, X ^^^ A, j, hdl.out, hlt.out, by omega, hB2.out, by have h := HP.out; rw [pea_step, if_pos ho] at h; exact h, by rw [hd.out]; go_num, by go_num, rfl⟩
     case measure => simp [intOf]; omega
   ·have ho' : ((B : Int) % 2 == 1) = false := by simp; omega
    by_cases hg : 255 < 2 * A
    ·have hg' : 255 < 2 * (A : Int) := by omega
     have hd : Hid (Gf.dbl A = (2 * A) ^^^ 285) := by show Gf.dbl A = _; simp [Gf.dbl, hg]
     go_wp2
     go_round
     case rel => exact ⟨Gf.dbl A, B / 2, X, j, hdl.out, hX, by omega, hB2.out, by have h := HP.out; rw [pea_step, if_neg ho] at h; exact h, by rw [hd.out], by go_num, rfl⟩
     case measure => simp [intOf]; omega
    ·have hg' : ¬ 255 < 2 * (A : Int) := by omega
     have hd : Hid (Gf.dbl A = 2 * A) := by show Gf.dbl A = _; simp [Gf.dbl, hg]
     go_wp2
     go_round
     case rel => exact ⟨Gf.dbl A, B / 2, X, j, hdl.out, hX, by omega, hB2.out, by have h := HP.out; rw [pea_step, if_neg ho] at h; exact h, by rw [hd.out]; go_num, by go_num, rfl⟩
     case measure => simp [intOf]; omega
theorem sPow_nat (a n : Nat) (w : World) (ha : a < 256) (hn : n ≤ 1000000) :
  Calls Tryz.prog 150 #[.int .i64 (a : Int), .int .i64 (n : Int)] w fun e w' => e = .returned (.int .i64 (Gf.gpow a n : Nat)) ∧ w' = w := by
 have ia := isB_ofNat ha
 have ib : inB (n : Int) 0 1000000 = true := by simp [inB]; omega
 go_enter Tryz.func150, Tryz.ntmps150
 go_wp2_with (first | (go_at_call 76; refine (sIs_any _ _).mono ?_; rintro e w' ⟨rfl, rfl⟩) | (go_at_call 41; refine (sIn_any _ _ _ _).mono ?_; rintro e w' ⟨rfl, rfl⟩))
 go_loop [0, 1, 5] (fun p q r => ∃ A N X : Nat, A < 256 ∧ X < 256 ∧ N ≤ 1000000 ∧ Hid (Gf.mul X (Gf.gpow A N) = Gf.gpow a n) ∧ p = .int .i64 A ∧ q = .int .i64 N ∧ r = .int .i64 X) (fun _ q _ => (intOf q).toNat)
 case atStart => exact ⟨a, n, 1, ha, by omega, hn, Gf.one_mul (Gf.gpow_lt _ _), rfl, rfl, rfl⟩
 case round =>
  obtain ⟨A, N, X, hA, hX, hN, HP, rfl, rfl, rfl⟩ := hrel
  clear ia ib
  by_cases hz : N = 0
  ·subst hz
   go_wp2
   go_ret
   exact ⟨ret_int (by rw [← HP.out, Gf.gpow_zero, Gf.mul_one hX]), rfl⟩
  ·have hpos : 0 < (N : Int) := by omega
   have hr : Hid (Gf.mul (if N % 2 = 1 then Gf.mul X A else X) (Gf.gpow (Gf.mul A A) (N / 2)) = Gf.gpow a n) := by
    show _ = _
    rw [Gf.gpow_round hA hX (by omega)]; exact HP.out
   have h1 : Hid (Gf.mul A A < 256) := Gf.mul_lt hA hA
   have h2 : Hid (Gf.mul X A < 256) := Gf.mul_lt hX hA
   by_cases ho : N % 2 = 1
   ·have ho' : ((N : Int) % 2 == 1) = true := by simp; omega
    go_wp2_with fail
    refine (sMul_nat X A _ hX hA).mono ?_
    rintro e w1 ⟨rfl, rfl⟩
    go_wp2_with fail
    refine (sMul_nat A A _ hA hA).mono ?_
    rintro e w1 ⟨rfl, rfl⟩
    go_wp2
    go_round
    case rel => exact ⟨Gf.mul A A, N / 2, Gf.mul X A, h1.out, h2.out, by omega, by have h := hr.out; rw [if_pos ho] at h; exact h, rfl, by go_num, rfl⟩
    case measure => simp [intOf]; omega
   ·have ho' : ((N : Int) % 2 == 1) = false := by simp; omega
    go_wp2_with fail
    refine (sMul_nat A A _ hA hA).mono ?_
    rintro e w1 ⟨rfl, rfl⟩
    go_wp2
    go_round
    case rel => exact ⟨Gf.mul A A, N / 2, X, h1.out, hX, by omega, by have h := hr.out; rw [if_neg ho] at h; exact h, rfl, by go_num, rfl⟩
    case measure => simp [intOf]; omega
theorem sPow_any (a n : Int) (w : World) : Calls Tryz.prog 150 #[.int .i64 a, .int .i64 n] w fun e w' => e = .returned (.int .i64 (powI a n)) ∧ w' = w := by
 by_cases ha : isB a = true
 ·by_cases hb : inB n 0 1000000 = true
  ·obtain ⟨A, hA, rfl⟩ := isB_nat ha
   simp [inB] at hb
   obtain ⟨M, rfl⟩ := Int.eq_ofNat_of_zero_le hb.1
   refine (sPow_nat A M w hA (by omega)).mono ?_
   rintro e w' ⟨rfl, rfl⟩
   exact ⟨ret_int (by simp only [powI]; rw [if_pos ⟨ha, by omega, by omega⟩]; simp), rfl⟩
  ·have hb' : inB n 0 1000000 = false := by simpa using hb
   have hb2 : ¬ (0 ≤ n ∧ n ≤ 1000000) := by simpa [inB] using hb
   go_enter Tryz.func150, Tryz.ntmps150
   go_wp2_with (first | (go_at_call 76; refine (sIs_any _ _).mono ?_; rintro e w' ⟨rfl, rfl⟩) | (go_at_call 41; refine (sIn_any _ _ _ _).mono ?_; rintro e w' ⟨rfl, rfl⟩))
   go_ret
   exact ⟨ret_int (by simp only [powI]; rw [if_neg (fun h => hb2 h.2)]), rfl⟩
 ·have ha' : isB a = false := by simpa using ha
  go_enter Tryz.func150, Tryz.ntmps150
  go_wp2_with (first | (go_at_call 76; refine (sIs_any _ _).mono ?_; rintro e w' ⟨rfl, rfl⟩) | (go_at_call 41; refine (sIn_any _ _ _ _).mono ?_; rintro e w' ⟨rfl, rfl⟩))
  go_ret
  exact ⟨ret_int (by simp [powI, ha]), rfl⟩
theorem sInv_any (a : Int) (w : World) : Calls Tryz.prog 119 #[.int .i64 a] w fun e w' => e = .returned (.int .i64 (invI a)) ∧ w' = w := by
 by_cases h : 1 ≤ a ∧ a ≤ 255
 ·have hi : inB a 1 255 = true := by simp [inB, h]
  have hv : Hid (powI a 254 = invI a) := by
   show _ = _
   simp only [powI, invI]
   rw [if_pos ⟨by simp [isB]; omega, by omega, by omega⟩, if_pos h, show Int.toNat 254 = 254 from rfl, Gf.gpow_inv (by omega) (by omega)]
  go_enter Tryz.func119, Tryz.ntmps119
  go_wp2_with (first | (go_at_call 41; refine (sIn_any _ _ _ _).mono ?_; rintro e w' ⟨rfl, rfl⟩) | (go_at_call 150; refine (sPow_any _ _ _).mono ?_; rintro e w' ⟨rfl, rfl⟩))
  go_ret
  exact ⟨ret_int hv.out, rfl⟩
 ·have hi : inB a 1 255 = false := by simp [inB]; omega
  go_enter Tryz.func119, Tryz.ntmps119
  go_wp2_with (go_at_call 41; refine (sIn_any _ _ _ _).mono ?_; rintro e w' ⟨rfl, rfl⟩)
  go_ret
  exact ⟨ret_int (by simp only [invI]; rw [if_neg h]), rfl⟩
end Go.Proofs.YtodnodekheaacaaGreatDoor
namespace Go.Proofs.YtodnodekheaacaaGreatDoor
open Gs (U rolI)
theorem rotate_any (x : BitVec 64) (n : Int) (w : World) : Calls Tryz.prog 182 #[.int .u64 (U x), .int .i64 n] w fun e w' => e = .returned (.int .u64 (U (rolI x n))) ∧ w' = w := by
 obtain ⟨s, HS⟩ : ∃ s : Nat, Hid (s = (n % 64).toNat) := ⟨_, rfl⟩
 have hs64 : s < 64 := by have := HS.out; omega
 have ha : bits .and .u64 (IntKind.u64.wrap n) 63 = (s : Int) := by
  obtain ⟨m, hm⟩ : ∃ m : Nat, IntKind.u64.wrap n = (m : Int) := ⟨(IntKind.u64.wrap n).toNat, by rw [IntKind.wrap_u64]; omega⟩
  have hm2 := hm
  rw [IntKind.wrap_u64] at hm2
  rw [hm]
  have := bits_and_u64_nat m 63 (by omega) (by omega)
  rw [show ((63 : Nat) : Int) = 63 from rfl] at this
  rw [this, show (63 : Nat) = 2 ^ 6 - 1 from rfl, Nat.and_two_pow_sub_one_eq_mod]
  have := HS.out
  omega
 go_enter Tryz.func182, Tryz.ntmps182
 go_wp2
 go_ret
 refine ⟨ret_int ?_, rfl⟩
 rw [ Gs.U_shl, Gs.U_shr, Gs.U_or, Gs.rol_shifts _ _ hs64, HS.out]
 rfl
theorem roll_any (x : BitVec 64) (n : Int) (w : World) : Calls Tryz.prog 181 #[.int .u64 (U x), .int .i64 n] w fun e w' => e = .returned (.int .u64 (U (rolI x n))) ∧ w' = w := by
 go_enter Tryz.func181, Tryz.ntmps181
 go_wp2_with fail
 refine (rotate_any x n _).mono ?_
 rintro e w' ⟨rfl, hw⟩
 obtain rfl := hw.symm
 go_wp2
 go_ret
 exact ⟨rfl, rfl⟩
theorem tmod64 (n : Int) : n.tmod 64 = n % 64 ∨ n.tmod 64 = n % 64 - 64 ∧ n % 64 ≠ 0 ∧ n < 0 := by
 rw [Int.tmod_eq_emod]
 split
 ·omega
 ·simp only [show (64 : Int).natAbs = 64 from rfl]
  omega
theorem shl1 (x : BitVec 64) : IntKind.u64.wrap (U x * 2) = U (x <<< 1) := Gs.U_shl x 1
theorem shr63 (x : BitVec 64) : U x / (9223372036854775808 : Int) = U (x >>> 63) := Gs.U_shr x 63
theorem sRoll_any (x : BitVec 64) (n : Int) (w : World) : Calls Tryz.prog 172 #[.int .u64 (U x), .int .i64 n] w fun e w' => e = .returned (.int .u64 (U (rolI x n))) ∧ w' = w := by
 obtain ⟨r, HR⟩ : ∃ r : Nat, Hid (r = (n % 64).toNat) := ⟨_, rfl⟩
 have hr64 : r < 64 := by have := HR.out; omega
 by_cases hn : n.tmod 64 < 0
 ·have hr : n.tmod 64 + 64 = (r : Int) := by have := HR.out; have := tmod64 n; omega
  go_enter Tryz.func172, Tryz.ntmps172
  go_wp2
  go_loop [0, 6] (fun v i => ∃ k : Nat, k ≤ r ∧ i = .int .i64 k ∧ v = .int .u64 (U (Gs.rol x k))) (fun _ i => r - (intOf i).toNat)
  case atStart => exact ⟨0, Nat.zero_le _, rfl, by rw [Gs.rol_zero]⟩
  case round =>
   obtain ⟨k, hk, rfl, rfl⟩ := hrel
   by_cases hlt : k < r
   ·have hlti : (k : Int) < (r : Int) := by omega
    go_wp2
    exact ⟨⟨k + 1, by omega, by go_num, by rw [shl1, shr63, Gs.U_or, Gs.rol_one]⟩, by simp [intOf]; omega⟩
   ·have e : k = r := by omega
    subst e
    go_wp2
    go_ret
    have e2 : rolI x n = Gs.rol x k := by unfold rolI; rw [← HR.out]
    exact ⟨by rw [e2]; rfl, rfl⟩
 ·have hr : n.tmod 64 = (r : Int) := by have := HR.out; have := tmod64 n; omega
  go_enter Tryz.func172, Tryz.ntmps172
  go_wp2
  go_loop [0, 6] (fun v i => ∃ k : Nat, k ≤ r ∧ i = .int .i64 k ∧ v = .int .u64 (U (Gs.rol x k))) (fun _ i => r - (intOf i).toNat)
  case atStart => exact ⟨0, Nat.zero_le _, rfl, by rw [Gs.rol_zero]⟩
  case round =>
   obtain ⟨k, hk, rfl, rfl⟩ := hrel
   by_cases hlt : k < r
   ·have hlti : (k : Int) < (r : Int) := by omega
    go_wp2
    exact ⟨⟨k + 1, by omega, by go_num, by rw [shl1, shr63, Gs.U_or, Gs.rol_one]⟩, by simp [intOf]; omega⟩
   ·have e : k = r := by omega
    subst e
    go_wp2
    go_ret
    have e2 : rolI x n = Gs.rol x k := by unfold rolI; rw [← HR.out]
    exact ⟨by rw [e2]; rfl, rfl⟩
end Go.Proofs.YtodnodekheaacaaGreatDoor
namespace Go.Proofs.YtodnodekheaacaaGreatDoor
def IntsAt (w : World) (a : Option Addr) (n : Nat) (zs : List Int) : Prop :=
 zs.length = n ∧ ∀ i, i < n → ∃ b off, a = some ⟨b, off, none⟩ ∧ w.cell? ⟨b, off + i, none⟩ = some (.int .i64 (zs.getD i 0))
theorem IntsAt.below {w w' : World} {a : Option Addr} {n : Nat} {zs : List Int} (h : IntsAt w a n zs) (hb : Below w.heap.size w w') : IntsAt w' a n zs := by
 refine ⟨h.1, fun i hi => ?_⟩
 obtain ⟨b, off, e, hc⟩ := h.2 i hi
 exact ⟨b, off, e, (hb.cell (p := ⟨b, off + i, none⟩) (block_lt_of_cell hc)).trans hc⟩
theorem IntsAt.some {w : World} {a : Option Addr} {n : Nat} {zs : List Int} (h : IntsAt w a n zs) (hn : 0 < n) : ∃ b off, a = some ⟨b, off, none⟩ ∧ ∀ i, i < n → w.cell? ⟨b, off + i, none⟩ = .some (.int .i64 (zs.getD i 0)) := by
 obtain ⟨b, off, e, _⟩ := h.2 0 hn
 refine ⟨b, off, e, fun i hi => ?_⟩
 obtain ⟨b', off', e', hc⟩ := h.2 i hi
 rw [e] at e'
 simp at e'
 obtain ⟨rfl, rfl⟩ := e'
 exact hc
theorem ownsRow.ints {w : World} {B E g n cap : Nat} {zs : List Int} (h : w.ownsRow B E 1 (.slice (some ⟨g, 0, none⟩) n cap) n (zs.map (Value.int .i64))) : IntsAt w (some ⟨g, 0, none⟩) n zs := by
 have hl : zs.length = n := by simpa using h.1
 refine ⟨hl, fun i hi => ⟨g, 0, rfl, ?_⟩⟩
 rw [Nat.zero_add, h.cellAt i (by omega)]
 simp [hl, hi]
theorem ownsRow_below {w w' : World} {B e size n : Nat} {v : Value} {xs : List Value} (h : w.ownsRow B e size v n xs) (hb : Below w.heap.size w w') : w'.ownsRow B e size v n xs := by
 refine ⟨h.1, ?_⟩
 rcases h.2 with h' | ⟨g, cap, cur, h1, h2, h3, h4⟩
 ·exact .inl h'
 ·refine .inr ⟨g, cap, cur, h1, h2, ?_, h4⟩
  rw [hb.block g (Array.getElem?_eq_some_iff.1 h3).1]
  exact h3
theorem take_snoc (xs : List Int) (k : Nat) (h : k < xs.length) : xs.take (k + 1) = xs.take k ++ [xs.getD k 0] := by
 rw [List.take_succ_eq_append_getElem h]
 simp [h]
theorem Tryz.infoByte : (Tryz.prog.info? 5).map (fun i => (i.zero, i.size, i.bytes)) = some (some (.int .u8 0), 1, 1) := by kernel_rfl
theorem Tryz.infoInt : (Tryz.prog.info? 3).map (fun i => (i.zero, i.size, i.bytes)) = some (some (.int .i64 0), 1, 8) := by kernel_rfl
theorem copied_set (d : IntKind) (zs : List Int) (n k : Nat) (hn : zs.length = n) (hk : k < n) :
  ((zs.take k ++ List.replicate (n - k) 0).map (Value.int d)).set k (.int d (zs.getD k 0)) = (zs.take (k + 1) ++ List.replicate (n - (k + 1)) 0).map (Value.int d) := by
 apply List.ext_getElem?
 intro j
 simp only [List.getElem?_set, List.getElem?_map, List.getElem?_append, List.length_take, List.length_map, List.length_append, List.length_replicate, List.getElem?_take, List.getElem?_replicate]
 by_cases h1 : k = j
 ·subst h1
  simp [hn, hk, show min k n = k by omega, show min (k + 1) n = k + 1 by omega, show k < k + (n - k) by omega]
 ·by_cases h2 : j < k
  ·simp [h1, h2, hn, show j < min k n by omega, show j < min (k + 1) n by omega, show j < k + 1 by omega]
  ·by_cases h3 : j < n
   ·simp [h1, hn, show ¬ j < min k n by omega, show ¬ j < min (k + 1) n by omega, show j - min k n < n - k by omega, show j - min (k + 1) n < n - (k + 1) by omega]
   ·simp [h1, hn, show ¬ j < min k n by omega, show ¬ j < min (k + 1) n by omega, show ¬ j - min k n < n - k by omega, show ¬ j - min (k + 1) n < n - (k + 1) by omega]
theorem and255 (n : Int) : bits .and .i64 n 255 = n % 256 := by
 show IntKind.i64.wrap ((BitVec.ofInt 64 n &&& BitVec.ofInt 64 255).toNat : Int) = _
 have h1 : (BitVec.ofInt 64 255) = BitVec.ofNat 64 255 := by decide
 have h2 : (BitVec.ofInt 64 n).toNat = (n % 18446744073709551616).toNat := by simp
 rw [BitVec.toNat_and, h1, h2, BitVec.toNat_ofNat, show (255 % 2 ^ 64 : Nat) = 2 ^ 8 - 1 from rfl, Nat.and_two_pow_sub_one_eq_mod, IntKind.wrap_i64]
 omega
theorem grownBy_trans {a b c : World} {row : Option Nat} (h : a.grownBy b row) (k : b.grownBy c row) : a.grownBy c row :=
 ⟨k.os.trans h.os, k.tape.trans h.tape, k.output.trans h.output, Nat.le_trans h.size k.size, fun j hj hn => (k.block j (Nat.lt_of_lt_of_le hj h.size) hn).trans (h.block j hj hn)⟩
theorem grownBy_below {a b : World} {g : Nat} (h : Below a.heap.size a b) : a.grownBy b (some g) :=
 ⟨h.os, h.tape, h.output, h.size, fun j hj _ => h.block j hj⟩
def BytesAt (w : World) (a : Option Addr) (n g : Nat) : Prop :=
 ∀ j, j < n → ∃ b off x, a = some ⟨b, off, none⟩ ∧ b ≠ g ∧ w.cell? ⟨b, off + j, none⟩ = some (.int .u8 x) ∧ 0 ≤ x ∧ x ≤ 255
theorem BytesAt.grown {w w' : World} {a : Option Addr} {n g : Nat} (h : BytesAt w a n g) (hg : w.grownBy w' (some g)) : BytesAt w' a n g := by
 intro j hj
 obtain ⟨b, off, x, e, hb, hc, hx⟩ := h j hj
 exact ⟨b, off, x, e, hb, hg.cell hc (by simpa using hb), hx⟩
def Cur (w : World) (g : Nat) (a : Option Addr) (n cap : Nat) : Prop :=
 n ≤ 1048576 ∧ (∃ (i : Nat) (h : Int), i ≤ n ∧ w.heap[g]? = some (.cells #[.slice a n cap, .int .i64 i, .int .i64 h] 80 (0, 0))) ∧ BytesAt w a n g
theorem Cur.kept {w w' : World} {g n cap : Nat} {a : Option Addr} {row : Option Nat} (h : Cur w g a n cap) (hg : w.grownBy w' row) (hr : row ≠ some g) (hb : ∀ b off, a = some ⟨b, off, none⟩ → row ≠ some b) : Cur w' g a n cap := by
 obtain ⟨hn, ⟨i, hh, hi, hblk⟩, hby⟩ := h
 refine ⟨hn, ⟨i, hh, hi, ?_⟩, ?_⟩
 ·rw [hg.block g (Array.getElem?_eq_some_iff.1 hblk).1 (Ne.symm hr)]; exact hblk
 ·intro j hj
  obtain ⟨b, off, x, e, hbg, hc, hx⟩ := hby j hj
  exact ⟨b, off, x, e, hbg, hg.cell hc (Ne.symm (hb b off e)), hx⟩
theorem cur_cells {w : World} {g : Nat} {x y z : Value} {ty : TypeId} (h : w.heap[g]? = some (.cells #[x, y, z] ty (0, 0))) :
  w.cell? ⟨g, 0, none⟩ = some x ∧ w.cell? ⟨g, 1, none⟩ = some y ∧ w.cell? ⟨g, 2, none⟩ = some z ∧ w.frozen? ⟨g, 1, none⟩ = false ∧ w.frozen? ⟨g, 2, none⟩ = false := by
 refine ⟨?_, ?_, ?_, ?_, ?_⟩ <;> first | (rw [cell_of_row w g _ _ ty _ h]; rfl) | exact frozen_of_row w g _ _ ty h
theorem cur_set2 {w : World} {g : Nat} {x y z v : Value} {ty : TypeId} (h : w.heap[g]? = some (.cells #[x, y, z] ty (0, 0))) :
  (w.setCell ⟨g, 2, none⟩ v).heap[g]? = some (.cells #[x, y, v] ty (0, 0)) ∧ w.grownBy (w.setCell ⟨g, 2, none⟩ v) (some g) :=
 ⟨by rw [heap_setCell_same w g 2 _ ty v h]; rfl, ⟨rfl, rfl, rfl, by simp, fun k _ hk => heap_setCell_other w ⟨g, 2, none⟩ k v (fun e => hk (by simp [e]))⟩⟩
theorem cur_set1 {w : World} {g : Nat} {x y z v : Value} {ty : TypeId} (h : w.heap[g]? = some (.cells #[x, y, z] ty (0, 0))) :
  (w.setCell ⟨g, 1, none⟩ v).heap[g]? = some (.cells #[x, v, z] ty (0, 0)) ∧ w.grownBy (w.setCell ⟨g, 1, none⟩ v) (some g) :=
 ⟨by rw [heap_setCell_same w g 1 _ ty v h]; rfl, ⟨rfl, rfl, rfl, by simp, fun k _ hk => heap_setCell_other w ⟨g, 1, none⟩ k v (fun e => hk (by simp [e]))⟩⟩
theorem grownBy_drewN {w w' : World} {row : Option Nat} (h : w.grownBy w' row) (m : Nat) : w.grownBy (w'.drewN m) row := ⟨h.os, h.tape, h.output, h.size, h.block⟩
theorem cur_set21 {w : World} {g : Nat} {x y z v u : Value} {ty : TypeId} (m : Nat) (h : w.heap[g]? = some (.cells #[x, y, z] ty (0, 0))) :
  w.grownBy (((w.setCell ⟨g, 2, none⟩ v).drewN m).setCell ⟨g, 1, none⟩ u) (some g) ∧ (((w.setCell ⟨g, 2, none⟩ v).drewN m).setCell ⟨g, 1, none⟩ u).heap[g]? = some (.cells #[x, u, v] ty (0, 0)) := by
 have h2 := cur_set2 (v := v) h
 have h3 : ((w.setCell ⟨g, 2, none⟩ v).drewN m).heap[g]? = some (.cells #[x, y, v] ty (0, 0)) := h2.1
 exact ⟨grownBy_trans (grownBy_drewN h2.2 m) (cur_set1 (v := u) h3).2, (cur_set1 (v := u) h3).1⟩
theorem byte_out (g n cap i : Nat) (hh : Int) (a : Option Addr) (w : World) (hi : ¬ i < n)
  (hblk : w.heap[g]? = some (.cells #[.slice a n cap, .int .i64 i, .int .i64 hh] 80 (0, 0))) :
  Calls Tryz.prog 53 #[.pointer (some ⟨g, 0, none⟩)] w fun e w' => ∃ x hv : Int, 0 ≤ x ∧ x ≤ 255 ∧ e = .returned (.int .i64 x) ∧ w.grownBy w' (some g) ∧ w'.heap[g]? = some (.cells #[.slice a n cap, .int .i64 i, .int .i64 hv] 80 (0, 0)) := by
 obtain ⟨c0, c1, c2, f1, f2⟩ := cur_cells hblk
 have HB : Hid (w.heap[g]? = some (.cells #[.slice a n cap, .int .i64 i, .int .i64 hh] 80 (0, 0))) := hblk
 have hand := and255
 clear hblk
 go_enter Tryz.func53, Tryz.ntmps53
 go_wp2
 go_quiet (fail)
 go_wp2
 go_quiet (fail)
 go_wp2
 go_ret
 exact ⟨_, _, Int.emod_nonneg _ (by decide), Int.le_of_lt_add_one (Int.emod_lt_of_pos _ (by decide)), rfl, grownBy_drewN (grownBy_drewN (cur_set2 HB.out).2 _) _, (cur_set2 HB.out).1⟩
theorem byte_in (g n cap i b off : Nat) (hh y : Int) (w : World) (hn : n ≤ 1048576) (hi : i < n) (hbg : b ≠ g) (hy : w.cell? ⟨b, off + i, none⟩ = some (.int .u8 y)) (y0 : 0 ≤ y) (y1 : y ≤ 255)
  (hblk : w.heap[g]? = some (.cells #[.slice (some ⟨b, off, none⟩) n cap, .int .i64 i, .int .i64 hh] 80 (0, 0))) :
  Calls Tryz.prog 53 #[.pointer (some ⟨g, 0, none⟩)] w fun e w' => ∃ x hv : Int, 0 ≤ x ∧ x ≤ 255 ∧ e = .returned (.int .i64 x) ∧ w.grownBy w' (some g) ∧ w'.heap[g]? = some (.cells #[.slice (some ⟨b, off, none⟩) n cap, .int .i64 ((i + 1 : Nat) : Int), .int .i64 hv] 80 (0, 0)) := by
 obtain ⟨c0, c1, c2, f1, f2⟩ := cur_cells hblk
 have HB : Hid (w.heap[g]? = some (.cells #[.slice (some ⟨b, off, none⟩) n cap, .int .i64 i, .int .i64 hh] 80 (0, 0))) := hblk
 have hand := and255
 have hii : (i : Int) < (n : Int) := by omega
 have hyy : ∀ v, (w.setCell ⟨g, 2, none⟩ v).cell? ⟨b, off + i, none⟩ = some (.int .u8 y) := fun v => ((cur_set2 (v := v) hblk).2.cell hy (by simpa using hbg))
 clear hblk
 go_enter Tryz.func53, Tryz.ntmps53
 go_wp2
 go_quiet (fail)
 go_wp2
 go_quiet (fail)
 go_wp2
 go_quiet (fail)
 go_wp2
 go_ret
 exact ⟨_, _, Int.emod_nonneg _ (by decide), Int.le_of_lt_add_one (Int.emod_lt_of_pos _ (by decide)), rfl, (cur_set21 _ HB.out).1, (cur_set21 _ HB.out).2⟩
theorem byte_any (g n cap : Nat) (a : Option Addr) (w : World) (hc : Cur w g a n cap) :
  Calls Tryz.prog 53 #[.pointer (some ⟨g, 0, none⟩)] w fun e w' => ∃ x : Int, 0 ≤ x ∧ x ≤ 255 ∧ e = .returned (.int .i64 x) ∧ w.grownBy w' (some g) ∧ Cur w' g a n cap := by
 obtain ⟨hn, ⟨i, hh, hi, hblk⟩, hby⟩ := hc
 by_cases hlt : i < n
 ·obtain ⟨b, off, y, rfl, hbg, hy, y0, y1⟩ := hby i hlt
  refine (byte_in g n cap i b off hh y w hn hlt hbg hy y0 y1 hblk).mono ?_
  rintro e w' ⟨x, hv, x0, x1, rfl, hg, hb'⟩
  exact ⟨x, x0, x1, rfl, hg, hn, ⟨i + 1, hv, hlt, hb'⟩, hby.grown hg⟩
 ·refine (byte_out g n cap i hh a w hlt hblk).mono ?_
  rintro e w' ⟨x, hv, x0, x1, rfl, hg, hb'⟩
  exact ⟨x, x0, x1, rfl, hg, hn, ⟨i, hv, hi, hb'⟩, hby.grown hg⟩
theorem belowN_any (g n cap : Nat) (a : Option Addr) (m : Int) (w : World) (hc : Cur w g a n cap) :
  Calls Tryz.prog 23 #[.pointer (some ⟨g, 0, none⟩), .int .i64 m] w fun e w' => ∃ x : Int, 0 ≤ x ∧ (0 < m → x < m) ∧ (m ≤ 0 → x = 0) ∧ e = .returned (.int .i64 x) ∧ w.grownBy w' (some g) ∧ Cur w' g a n cap := by
 by_cases h0 : m ≤ 0
 ·go_enter Tryz.func23, Tryz.ntmps23
  go_wp2
  go_ret
  exact ⟨0, by omega, by omega, by omega, rfl, World.grownBy.refl _ _, hc⟩
 ·by_cases h1 : m ≤ 256
  ·go_enter Tryz.func23, Tryz.ntmps23
   go_wp2_with fail
   refine (byte_any g n cap a _ hc).mono ?_
   rintro e w1 ⟨x, x0, x1, rfl, hg, hc1⟩
   go_wp2
   go_ret
   exact ⟨_, Int.emod_nonneg _ (by omega), fun _ => Int.emod_lt_of_pos _ (by omega), fun h => by omega, rfl, hg, hc1⟩
  ·go_enter Tryz.func23, Tryz.ntmps23
   go_wp2_with fail
   refine (byte_any g n cap a _ hc).mono ?_
   rintro e w1 ⟨x, x0, x1, rfl, hg1, hc1⟩
   go_wp2_with fail
   refine (byte_any g n cap a _ hc1).mono ?_
   rintro e w2 ⟨y, y0, y1, rfl, hg2, hc2⟩
   go_wp2_with fail
   refine (byte_any g n cap a _ hc2).mono ?_
   rintro e w3 ⟨z, z0, z1, rfl, hg3, hc3⟩
   go_wp2_with fail
   refine (byte_any g n cap a _ hc3).mono ?_
   rintro e w4 ⟨u, u0, u1, rfl, hg4, hc4⟩
   go_wp2
   go_ret
   exact ⟨_, Int.emod_nonneg _ (by omega), fun _ => Int.emod_lt_of_pos _ (by omega), fun h => by omega, rfl, grownBy_trans (grownBy_trans (grownBy_trans hg1 hg2) hg3) hg4, hc4⟩
theorem once_any (g n cap : Nat) (a : Option Addr) (m : Int) (w : World) (hc : Cur w g a n cap) :
  Calls Tryz.prog 20 #[.pointer (some ⟨g, 0, none⟩), .int .i64 m] w fun e w' => ∃ x : Bool, e = .returned (.bool x) ∧ w.grownBy w' (some g) ∧ Cur w' g a n cap := by
 go_enter Tryz.func20, Tryz.ntmps20
 go_wp2_with fail
 refine (belowN_any g n cap a _ _ hc).mono ?_
 rintro e w1 ⟨x, _, _, _, rfl, hg, hc1⟩
 go_wp2
 go_ret
 exact ⟨_, rfl, hg, hc1⟩
theorem Cur.lt {w : World} {g n cap : Nat} {a : Option Addr} (h : Cur w g a n cap) : g < w.heap.size := by
 obtain ⟨_, ⟨i, hh, _, hblk⟩, _⟩ := h
 exact (Array.getElem?_eq_some_iff.1 hblk).1
theorem Cur.alloc {w : World} {g n cap : Nat} {a : Option Addr} (h : Cur w g a n cap) (o : Obj) : Cur (w.alloc o) g a n cap :=
 h.kept (World.grownBy_alloc w o none) (by simp) (by simp)
set_option maxRecDepth 100000 in
theorem new_any (a : Option Addr) (n cap : Nat) (w : World) (hn : n ≤ 1048576) (hby : ∀ g, w.heap.size ≤ g → BytesAt w a n g) :
  Calls Tryz.prog 18 #[.slice a n cap] w fun e w' => ∃ g, e = .returned (.pointer (some ⟨g, 0, none⟩)) ∧ w.heap.size ≤ g ∧ Below w.heap.size w w' ∧ Cur w' g a n cap := by
 go_enter Tryz.func18, Tryz.ntmps18
 go_wp2
 go_loopw [3, 4] (fun h i wr => ∃ (k : Nat) (hh : Int), k ≤ n ∧ h = .int .i64 hh ∧ i = .int .i64 k ∧ wr = w) (fun _ i _ => n - (intOf i).toNat)
 case atStart => exact ⟨0, _, Nat.zero_le _, rfl, rfl, rfl⟩
 case round =>
  obtain ⟨k, hh, hk, rfl, rfl, rfl⟩ := hrel
  by_cases hlt : k < n ∧ k < 4000
  ·obtain ⟨b, off, x, rfl, hbg, hc, x0, x1⟩ := hby _ (Nat.le_refl _) k hlt.1
   have h1 : (k : Int) < (n : Int) := by omega
   have h2 : (k : Int) < 4000 := by omega
   clear hby
   go_wp2
   go_roundw
   case rel => exact ⟨k + 1, _, by omega, rfl, by go_num, trivial⟩
   case measure => simp [intOf]; omega
  ·have fin : ∀ hv : Int, Below wr.heap.size wr (wr.alloc (.cells #[.slice a n cap, .int .i64 0, .int .i64 hv] 80)) ∧ Cur (wr.alloc (.cells #[.slice a n cap, .int .i64 0, .int .i64 hv] 80)) wr.heap.size a n cap := fun hv =>
    ⟨(Below.refl _ _).alloc (Nat.le_refl _) _, hn, ⟨0, hv, Nat.zero_le _, heap_alloc_new wr _⟩, (hby _ (Nat.le_refl _)).grown (World.grownBy_alloc wr _ _)⟩
   have F : Hid (∀ hv : Int, Below wr.heap.size wr (wr.alloc (.cells #[.slice a n cap, .int .i64 0, .int .i64 hv] 80)) ∧ Cur (wr.alloc (.cells #[.slice a n cap, .int .i64 0, .int .i64 hv] 80)) wr.heap.size a n cap) := fin
   clear fin hby
   by_cases h1 : k < n
   ·have h1' : (k : Int) < (n : Int) := by omega
    have h2 : ¬ (k : Int) < 4000 := by omega
    go_wp2
    go_ret
    exact ⟨_, rfl, Nat.le_refl _, (F.out hh).1, (F.out hh).2⟩
   ·go_wp2
    go_ret
    exact ⟨_, rfl, Nat.le_refl _, (F.out hh).1, (F.out hh).2⟩
end Go.Proofs.YtodnodekheaacaaGreatDoor
namespace Go.Proofs.YtodnodekheaacaaGreatDoor
open Gs (U rolI V4 mx)
abbrev A4 (v : V4) : Value := .agg #[.int .u64 (U v.a), .int .u64 (U v.b), .int .u64 (U v.c), .int .u64 (U v.d)]
theorem belowDrewN {B : Nat} {a w : World} (h : Below B a w) (n : Nat) : Below B a (w.drewN n) := ⟨h.os, h.tape, h.output, h.size, h.block⟩
theorem mix_any (v : V4) (w : World) : Calls Tryz.prog 180 #[A4 v] w fun e w' => e = .returned (A4 (mx v)) ∧ Below w.heap.size w w' := by
 obtain ⟨a, b, c, d⟩ := v
 have hadd := Gs.U_add
 have hxor := Gs.U_xor
 go_enter Tryz.func180, Tryz.ntmps180
 go_wp2_with fail
 go_quiet (fail)
 go_wp2_with (go_at_call 181; refine (roll_any _ _ _).mono ?_; rintro e w' ⟨rfl, hw⟩; obtain rfl := hw.symm)
 refine bodyPost_ret (v := A4 (mx ⟨a, b, c, d⟩)) (by simp [results, Tryz.results180, go_sem, mx]) rfl ⟨rfl, ?_⟩
 refine Below.setCell (Below.setCell (Below.setCell (Below.setCell ?_ (by simp) _) (by simp) _) (by simp) _) (by simp) _
 exact belowDrewN (((Below.refl _ _).alloc (Nat.le_refl _) _).alloc (by simp) _) nq
theorem Tryz.info4 : (Tryz.prog.info? 210).map (·.size) = some 4 := by kernel_rfl
theorem Tryz.mixed : Tryz.prog.follows .mixedOrders = true := by kernel_rfl
abbrev C4 (v : V4) : Array Value := #[.int .u64 (U v.a), .int .u64 (U v.b), .int .u64 (U v.c), .int .u64 (U v.d)]
structure Own4 (w0 w : World) (g : Nat) (v : V4) : Prop where
 row : Row w g 210 (C4 v)
 res : ∃ z, Row w (g + 1) 210 (C4 z)
 bel : Below g w0 w
theorem Own4.set0 {w0 w : World} {g : Nat} {a b c d : BitVec 64} (h : Own4 w0 w g ⟨a, b, c, d⟩) (x : BitVec 64) : Own4 w0 (w.setCell ⟨g, 0, none⟩ (.int .u64 (U x))) g ⟨x, b, c, d⟩ :=
 ⟨h.row.set 0 _, by obtain ⟨z, hz⟩ := h.res; exact ⟨z, hz.other _ _ (by omega)⟩, h.bel.setCell (Nat.le_refl _) _⟩
theorem Own4.set1 {w0 w : World} {g : Nat} {a b c d : BitVec 64} (h : Own4 w0 w g ⟨a, b, c, d⟩) (x : BitVec 64) : Own4 w0 (w.setCell ⟨g, 1, none⟩ (.int .u64 (U x))) g ⟨a, x, c, d⟩ :=
 ⟨h.row.set 1 _, by obtain ⟨z, hz⟩ := h.res; exact ⟨z, hz.other _ _ (by omega)⟩, h.bel.setCell (Nat.le_refl _) _⟩
theorem Own4.set2 {w0 w : World} {g : Nat} {a b c d : BitVec 64} (h : Own4 w0 w g ⟨a, b, c, d⟩) (x : BitVec 64) : Own4 w0 (w.setCell ⟨g, 2, none⟩ (.int .u64 (U x))) g ⟨a, b, x, d⟩ :=
 ⟨h.row.set 2 _, by obtain ⟨z, hz⟩ := h.res; exact ⟨z, hz.other _ _ (by omega)⟩, h.bel.setCell (Nat.le_refl _) _⟩
theorem Own4.set3 {w0 w : World} {g : Nat} {a b c d : BitVec 64} (h : Own4 w0 w g ⟨a, b, c, d⟩) (x : BitVec 64) : Own4 w0 (w.setCell ⟨g, 3, none⟩ (.int .u64 (U x))) g ⟨a, b, c, x⟩ :=
 ⟨h.row.set 3 _, by obtain ⟨z, hz⟩ := h.res; exact ⟨z, hz.other _ _ (by omega)⟩, h.bel.setCell (Nat.le_refl _) _⟩
theorem Own4.drew {w0 w : World} {g : Nat} {v : V4} (h : Own4 w0 w g v) : Own4 w0 w.drew g v := ⟨h.row, h.res, h.bel.drew⟩
theorem Own4.cells {w0 w : World} {g : Nat} {a b c d : BitVec 64} (h : Own4 w0 w g ⟨a, b, c, d⟩) :
  w.cell? ⟨g, 0, none⟩ = some (.int .u64 (U a)) ∧ w.cell? ⟨g, 1, none⟩ = some (.int .u64 (U b)) ∧ w.cell? ⟨g, 2, none⟩ = some (.int .u64 (U c)) ∧ w.cell? ⟨g, 3, none⟩ = some (.int .u64 (U d)) ∧ w.frozen? ⟨g, 0, none⟩ = false ∧ w.frozen? ⟨g, 1, none⟩ = false ∧ w.frozen? ⟨g, 2, none⟩ = false ∧ w.frozen? ⟨g, 3, none⟩ = false :=
 ⟨h.row.cell 0, h.row.cell 1, h.row.cell 2, h.row.cell 3, h.row.free 0, h.row.free 1, h.row.free 2, h.row.free 3⟩
theorem sMix_any (v : V4) (w : World) : Calls Tryz.prog 166 #[A4 v] w fun e w' => e = .returned (A4 (mx v)) ∧ Below w.heap.size w w' := by
 obtain ⟨a, b, c, d⟩ := v
 have hadd := Gs.U_add
 have hxor := Gs.U_xor
 obtain ⟨w1, HW1⟩ : ∃ w1, Hid (w1 = (w.alloc (.cells (C4 ⟨a + b, b, c, d⟩) 210)).alloc (.cells #[.int .u64 0, .int .u64 0, .int .u64 0, .int .u64 0] 210)) := ⟨_, rfl⟩
 have K1 : Hid (Own4 w w1 w.heap.size ⟨a + b, b, c, d⟩) := by
  rw [HW1.out]
  refine ⟨(Row.new w _ _).alloc _, ⟨⟨0, 0, 0, 0⟩, ?_⟩, ((Below.refl _ _).alloc (Nat.le_refl _) _).alloc (by simp) _⟩
  have := Row.new (w.alloc (.cells (C4 ⟨a + b, b, c, d⟩) 210)) #[.int .u64 0, .int .u64 0, .int .u64 0, .int .u64 0] 210
  rw [show (w.alloc (.cells (C4 ⟨a + b, b, c, d⟩) 210)).heap.size = w.heap.size + 1 by simp] at this
  exact this
 go_enter Tryz.func166, Tryz.ntmps166
 go_wp2_with fail
 rw [← HW1.out]
 obtain ⟨w2, HW2⟩ : ∃ w2, Hid (w2 = (((w1.drew.setCell ⟨w.heap.size, 1, none⟩ (.int .u64 (U ((rolI b 13 ^^^ (a + b)))))).setCell ⟨w.heap.size, 0, none⟩ (.int .u64 (U (rolI (a + b) 32)))).setCell ⟨w.heap.size, 2, none⟩ (.int .u64 (U (c + d))))) := ⟨_, rfl⟩
 have K2 : Hid (Own4 w w2 w.heap.size ⟨rolI (a + b) 32, (rolI b 13 ^^^ (a + b)), c + d, d⟩) := by rw [HW2.out]; exact (((K1.out.drew.set1 ((rolI b 13 ^^^ (a + b)))).set0 (rolI (a + b) 32)).set2 (c + d))
 obtain ⟨x1, HX1⟩ : ∃ x, Hid (x = w1.drew) := ⟨_, rfl⟩
 have J1 : Hid (Own4 w x1 w.heap.size ⟨a + b, b, c, d⟩) := by rw [HX1.out]; exact K1.out.drew
 obtain ⟨c0, c1, c2, c3, f0, f1, f2, f3⟩ := K1.out.cells
 go_still_tail 7, Tryz.mixed
 still_call (sRoll_any b 13 _)
 repeat still_step
 refine wpStill_nil ?_
 rw [fold_drew, ← HX1.out]
 clear c0 c1 c2 c3 f0 f1 f2 f3
 obtain ⟨w2, HW2⟩ : ∃ w2, Hid (w2 = (((x1.setCell ⟨w.heap.size, 1, none⟩ (.int .u64 (U ((rolI b 13 ^^^ (a + b)))))).setCell ⟨w.heap.size, 0, none⟩ (.int .u64 (U (rolI (a + b) 32)))).setCell ⟨w.heap.size, 2, none⟩ (.int .u64 (U (c + d))))) := ⟨_, rfl⟩
 have K2 : Hid (Own4 w w2 w.heap.size ⟨rolI (a + b) 32, (rolI b 13 ^^^ (a + b)), c + d, d⟩) := by rw [HW2.out]; exact (((J1.out.set1 ((rolI b 13 ^^^ (a + b)))).set0 (rolI (a + b) 32)).set2 (c + d))
 obtain ⟨c0, c1, c2, c3, f0, f1, f2, f3⟩ := J1.out.cells
 go_wp2_with (go_at_call 172; refine (sRoll_any _ _ _).mono ?_; rintro e w' ⟨rfl, hw⟩; obtain rfl := hw.symm)
 clear c0 c1 c2 c3 f0 f1 f2 f3
 rw [← HW2.out]
 obtain ⟨x2, HX2⟩ : ∃ x, Hid (x = w2.drew) := ⟨_, rfl⟩
 have J2 : Hid (Own4 w x2 w.heap.size ⟨rolI (a + b) 32, (rolI b 13 ^^^ (a + b)), c + d, d⟩) := by rw [HX2.out]; exact K2.out.drew
 obtain ⟨c0, c1, c2, c3, f0, f1, f2, f3⟩ := K2.out.cells
 go_still_tail 7, Tryz.mixed
 still_call (sRoll_any d 16 _)
 repeat still_step
 refine wpStill_nil ?_
 rw [fold_drew, ← HX2.out]
 clear c0 c1 c2 c3 f0 f1 f2 f3
 obtain ⟨w3, HW3⟩ : ∃ w3, Hid (w3 = ((x2.setCell ⟨w.heap.size, 3, none⟩ (.int .u64 (U ((rolI d 16 ^^^ (c + d)))))).setCell ⟨w.heap.size, 0, none⟩ (.int .u64 (U ((rolI (a + b) 32 + (rolI d 16 ^^^ (c + d)))))))) := ⟨_, rfl⟩
 have K3 : Hid (Own4 w w3 w.heap.size ⟨(rolI (a + b) 32 + (rolI d 16 ^^^ (c + d))), (rolI b 13 ^^^ (a + b)), c + d, (rolI d 16 ^^^ (c + d))⟩) := by rw [HW3.out]; exact ((J2.out.set3 ((rolI d 16 ^^^ (c + d)))).set0 ((rolI (a + b) 32 + (rolI d 16 ^^^ (c + d)))))
 obtain ⟨c0, c1, c2, c3, f0, f1, f2, f3⟩ := J2.out.cells
 go_wp2_with (go_at_call 172; refine (sRoll_any _ _ _).mono ?_; rintro e w' ⟨rfl, hw⟩; obtain rfl := hw.symm)
 clear c0 c1 c2 c3 f0 f1 f2 f3
 rw [← HW3.out]
 obtain ⟨x3, HX3⟩ : ∃ x, Hid (x = w3.drew) := ⟨_, rfl⟩
 have J3 : Hid (Own4 w x3 w.heap.size ⟨(rolI (a + b) 32 + (rolI d 16 ^^^ (c + d))), (rolI b 13 ^^^ (a + b)), c + d, (rolI d 16 ^^^ (c + d))⟩) := by rw [HX3.out]; exact K3.out.drew
 obtain ⟨c0, c1, c2, c3, f0, f1, f2, f3⟩ := K3.out.cells
 go_still_tail 7, Tryz.mixed
 still_call (sRoll_any (rolI d 16 ^^^ (c + d)) 21 _)
 repeat still_step
 refine wpStill_nil ?_
 rw [fold_drew, ← HX3.out]
 clear c0 c1 c2 c3 f0 f1 f2 f3
 obtain ⟨w4, HW4⟩ : ∃ w4, Hid (w4 = ((x3.setCell ⟨w.heap.size, 3, none⟩ (.int .u64 (U ((rolI (rolI d 16 ^^^ (c + d)) 21 ^^^ (rolI (a + b) 32 + (rolI d 16 ^^^ (c + d)))))))).setCell ⟨w.heap.size, 2, none⟩ (.int .u64 (U (((c + d) + (rolI b 13 ^^^ (a + b)))))))) := ⟨_, rfl⟩
 have K4 : Hid (Own4 w w4 w.heap.size ⟨(rolI (a + b) 32 + (rolI d 16 ^^^ (c + d))), (rolI b 13 ^^^ (a + b)), ((c + d) + (rolI b 13 ^^^ (a + b))), (rolI (rolI d 16 ^^^ (c + d)) 21 ^^^ (rolI (a + b) 32 + (rolI d 16 ^^^ (c + d))))⟩) := by rw [HW4.out]; exact ((J3.out.set3 ((rolI (rolI d 16 ^^^ (c + d)) 21 ^^^ (rolI (a + b) 32 + (rolI d 16 ^^^ (c + d)))))).set2 (((c + d) + (rolI b 13 ^^^ (a + b)))))
 obtain ⟨c0, c1, c2, c3, f0, f1, f2, f3⟩ := J3.out.cells
 go_wp2_with (go_at_call 172; refine (sRoll_any _ _ _).mono ?_; rintro e w' ⟨rfl, hw⟩; obtain rfl := hw.symm)
 clear c0 c1 c2 c3 f0 f1 f2 f3
 rw [← HW4.out]
 obtain ⟨x4, HX4⟩ : ∃ x, Hid (x = w4.drew) := ⟨_, rfl⟩
 have J4 : Hid (Own4 w x4 w.heap.size ⟨(rolI (a + b) 32 + (rolI d 16 ^^^ (c + d))), (rolI b 13 ^^^ (a + b)), ((c + d) + (rolI b 13 ^^^ (a + b))), (rolI (rolI d 16 ^^^ (c + d)) 21 ^^^ (rolI (a + b) 32 + (rolI d 16 ^^^ (c + d))))⟩) := by rw [HX4.out]; exact K4.out.drew
 obtain ⟨c0, c1, c2, c3, f0, f1, f2, f3⟩ := K4.out.cells
 go_still_tail 7, Tryz.mixed
 still_call (sRoll_any (rolI b 13 ^^^ (a + b)) 17 _)
 repeat still_step
 refine wpStill_nil ?_
 rw [fold_drew, ← HX4.out]
 clear c0 c1 c2 c3 f0 f1 f2 f3
 obtain ⟨c0, c1, c2, c3, f0, f1, f2, f3⟩ := J4.out.cells
 obtain ⟨w5, HW5⟩ : ∃ w5, Hid (w5 = ((x4.setCell ⟨w.heap.size, 1, none⟩ (.int .u64 (U ((rolI (rolI b 13 ^^^ (a + b)) 17 ^^^ ((c + d) + (rolI b 13 ^^^ (a + b)))))))).setCell ⟨w.heap.size, 2, none⟩ (.int .u64 (U (rolI ((c + d) + (rolI b 13 ^^^ (a + b))) 32))))) := ⟨_, rfl⟩
 have K5 : Hid (Own4 w w5 w.heap.size ⟨(rolI (a + b) 32 + (rolI d 16 ^^^ (c + d))), (rolI (rolI b 13 ^^^ (a + b)) 17 ^^^ ((c + d) + (rolI b 13 ^^^ (a + b)))), rolI ((c + d) + (rolI b 13 ^^^ (a + b))) 32, (rolI (rolI d 16 ^^^ (c + d)) 21 ^^^ (rolI (a + b) 32 + (rolI d 16 ^^^ (c + d))))⟩) := by rw [HW5.out]; exact (J4.out.set1 _).set2 _
 have R5 : Hid (Row w5 w.heap.size 210 (C4 ⟨(rolI (a + b) 32 + (rolI d 16 ^^^ (c + d))), (rolI (rolI b 13 ^^^ (a + b)) 17 ^^^ ((c + d) + (rolI b 13 ^^^ (a + b)))), rolI ((c + d) + (rolI b 13 ^^^ (a + b))) 32, (rolI (rolI d 16 ^^^ (c + d)) 21 ^^^ (rolI (a + b) 32 + (rolI d 16 ^^^ (c + d))))⟩)) := K5.out.row
 obtain ⟨z, hz⟩ := K5.out.res
 have Z5 : Hid (Row w5 (w.heap.size + 1) 210 (C4 z)) := hz
 clear hz
 go_wp2_with fail
 refine (sRoll_any _ _ _).mono ?_
 rintro e w' ⟨rfl, hw⟩
 obtain rfl := hw.symm
 have ZR : Hid (Row ((((w5.setCell ⟨w.heap.size + 1, 0, none⟩ (.int .u64 (U (rolI (a + b) 32 + (rolI d 16 ^^^ (c + d)))))).setCell ⟨w.heap.size + 1, 1, none⟩ (.int .u64 (U (rolI (rolI b 13 ^^^ (a + b)) 17 ^^^ ((c + d) + (rolI b 13 ^^^ (a + b))))))).setCell ⟨w.heap.size + 1, 2, none⟩ (.int .u64 (U (rolI ((c + d) + (rolI b 13 ^^^ (a + b))) 32)))).setCell ⟨w.heap.size + 1, 3, none⟩ (.int .u64 (U (rolI (rolI d 16 ^^^ (c + d)) 21 ^^^ (rolI (a + b) 32 + (rolI d 16 ^^^ (c + d))))))) (w.heap.size + 1) 210 (C4 (mx ⟨a, b, c, d⟩))) := (((Z5.out.set 0 _).set 1 _).set 2 _).set 3 _
 have q0 := Z5.out.cell 0
 have q1 := Z5.out.cell 1
 have q2 := Z5.out.cell 2
 have q3 := Z5.out.cell 3
 have g0 := Z5.out.free 0
 have g1 := Z5.out.free 1
 have g2 := Z5.out.free 2
 have g3 := Z5.out.free 3
 simp at q0 q1 q2 q3
 go_wp2_with (rw [← HW5.out]; refine wpList_load_row (by rfl) 210 _ (by rfl) w.heap.size (by rfl) 210 _ (0, 0) _ R5.out Tryz.underlying210 (by rfl) Tryz.info4 ?_; clear c0 c1 c2 c3 f0 f1 f2 f3)
 clear q0 q1 q2 q3 g0 g1 g2 g3
 refine bodyPost_ret (v := A4 (mx ⟨a, b, c, d⟩)) (results_cell_row Tryz.results166 _ _ (w.heap.size + 1) 210 _ (0, 0) _ (by simp) ZR.out Tryz.underlying210 (by rfl) Tryz.info4) rfl ⟨rfl, ?_⟩
 exact Below.setCell (Below.setCell (Below.setCell (Below.setCell K5.out.bel (by simp) _) (by simp) _) (by simp) _) (by simp) _
end Go.Proofs.YtodnodekheaacaaGreatDoor
namespace Go.Proofs.YtodnodekheaacaaGreatDoor
theorem ret_str {a b : ByteArray} (h : a = b) : Ending.returned (.string a) = .returned (.string b) := by rw [h]
theorem u8_lt (c : UInt8) : c.toNat < 256 := c.toNat_lt
def scaleL (s : ByteArray) (A : Nat) : List Int := s.data.toList.map fun c => ((Gf.mul c.toNat A : Nat) : Int)
def scaleS (s : ByteArray) (a : Int) : ByteArray := if isB a = true then strOfNums (scaleL s a.toNat) else ByteArray.empty
theorem scaleL_len (s : ByteArray) (A : Nat) : (scaleL s A).length = s.size := by simp [scaleL]
theorem scaleL_at (s : ByteArray) (A k : Nat) (h : k < s.size) : (scaleL s A).getD k 0 = ((Gf.mul s[k].toNat A : Nat) : Int) := by
 have h' : k < s.data.toList.length := by simpa using h
 simp only [scaleL, List.getD, List.getElem?_map, List.getElem?_eq_getElem h', Option.map_some, Option.getD_some]
 rfl
theorem sScale_nat (s : ByteArray) (A : Nat) (w : World) (hs : s.size ≤ 1048576) (hA : A < 256) :
  Calls Tryz.prog 120 #[.string s, .int .i64 (A : Int)] w fun e w' => e = .returned (.string (strOfNums (scaleL s A))) ∧ Below w.heap.size w w' := by
 obtain ⟨i0, hi, hz0, hz1, hz2⟩ := info_parts Tryz.infoByte
 have ia := isB_ofNat hA
 obtain ⟨xs, HX⟩ : ∃ xs, Hid (xs = scaleL s A) := ⟨_, rfl⟩
 obtain ⟨n, hn⟩ : ∃ n, s.size = n := ⟨_, rfl⟩
 have HL : Hid (xs.length = n) := by show _ = _; rw [HX.out, scaleL_len, hn]
 go_enter Tryz.func120, Tryz.ntmps120
 go_wp2_with fail
 refine (sIs_any _ _).mono ?_
 rintro e w' ⟨rfl, hw⟩
 obtain rfl := hw.symm
 go_wp2
 clear hw ia
 have ho1 : (w.alloc (.cells #[] 5)).ownsRow w.heap.size 5 1 (.slice (some ⟨w.heap.size, 0, none⟩) 0 0) 0 ((xs.take 0).map (Value.int .u8)) :=
  World.ownsRow_lit w #[] 0 (Nat.le_refl _) (by unfold maxLen; omega) rfl
 go_loopw [5, 6] (fun v i wr => ∃ k : Nat, k ≤ n ∧ i = .int .i64 k ∧ wr.ownsRow w.heap.size 5 1 v k ((xs.take k).map (Value.int .u8)) ∧ Hid (v ≠ .slice none 0 0) ∧ Below w.heap.size w wr) (fun _ i _ => n - (intOf i).toNat)
 case atStart => exact ⟨0, Nat.zero_le _, rfl, ho1, by simp [Hid], (Below.refl _ _).alloc (Nat.le_refl _) _⟩
 case round =>
  obtain ⟨k, hk, rfl, hown, HV, hbel⟩ := hrel
  clear ho1
  by_cases hlt : k < n
  ·have hks : k < s.size := by omega
   have hml := Gf.mul_lt (u8_lt s[k]) hA
   have HE : Hid (xs.take (k + 1) = xs.take k ++ [((Gf.mul s[k].toNat A : Nat) : Int)]) := by
    show _ = _
    rw [take_snoc xs k (by rw [HL.out]; exact hlt), HX.out, scaleL_at s A k hks]
   have hcl := u8_lt s[k]
   go_wp2_with fail
   refine (sMul_nat _ A _ hcl hA).mono ?_
   rintro e w1 ⟨rfl, hw1⟩
   obtain rfl := hw1.symm
   go_wp2_with (at_builtin; refine wpList_append_own _ rfl _ _ 22 rfl w.heap.size 5 i0 (.int .u8 0) 1 1 Tryz.underlying22 hi hz0 hz1 hz2 rfl (by decide) _ _ _ rfl (hown.alloc _) ⟨wr.heap.size, 0, none⟩ 1 1 [.int .u8 ((Gf.mul s[k].toNat A : Nat) : Int)] rfl rfl ?c1 ?c2 ?c3 ?c4 ?c5 ?_)
   case c1 =>
    intro j u hj
    match j, hj with
    | 0, hj => simp at hj; subst hj; simp [Addr.add]
   case c2 => intro u hu; simp at hu; subst hu; rfl
   case c3 => unfold maxLen; omega
   case c4 => omega
   case c5 => have := hbel.size; simp; omega
   ·intro v' w1 hown' hgrow hnil
    have HV' : Hid (v' ≠ .slice none 0 0) := hnil
    have HO : Hid (w1.ownsRow w.heap.size 5 1 v' (k + 1) ((xs.take (k + 1)).map (Value.int .u8))) := by
     rw [HE.out, List.map_append, List.map_take]
     exact hown'
    have hb' : Below w.heap.size w w1 := (hbel.alloc hbel.size _).grown hgrow (by have := hbel.size; simp; omega) (fun j hj => (hown.lt j hj).1)
    clear hown' hgrow hnil hown
    go_wp2
    go_roundw
    case rel => exact ⟨k + 1, by omega, by go_num, HO.out, HV'.out, hb'⟩
    case measure => simp [intOf]; omega
  ·have e : k = n := by omega
   subst e
   rw [List.take_of_length_le (by rw [HL.out]; omega)] at hown
   obtain ⟨g, cap, rfl⟩ : ∃ g cap, u5 = .slice (some ⟨g, 0, none⟩) k cap := by
    rcases hown.2 with h | ⟨g, cap, cur, h, _⟩
    ·exact absurd h.1 HV.out
    ·exact ⟨g, cap, h⟩
   have hcv := run_convert_bytes_arg (P := Tryz.prog) wr 22 5 Tryz.underlying22 Tryz.underlying5 g 0 k cap xs HL.out (fun i hi => by
    rw [Nat.zero_add, hown.cellAt i (by omega)]
    simp [HL.out, hi]) 9 Tryz.underlying9
   go_wp2
   go_ret
   exact ⟨ret_str (by rw [HX.out]), hbel⟩
theorem sScale_any (s : ByteArray) (a : Int) (w : World) (hs : s.size ≤ 1048576) :
  Calls Tryz.prog 120 #[.string s, .int .i64 a] w fun e w' => e = .returned (.string (scaleS s a)) ∧ Below w.heap.size w w' := by
 by_cases ha : isB a = true
 ·obtain ⟨A, hA, rfl⟩ := isB_nat ha
  refine (sScale_nat s A w hs hA).mono ?_
  rintro e w' ⟨rfl, hb⟩
  exact ⟨ret_str (by simp [scaleS, ha]), hb⟩
 ·have ha' : isB a = false := by simpa using ha
  go_enter Tryz.func120, Tryz.ntmps120
  go_wp2_with (go_at_call 76; refine (sIs_any _ _).mono ?_; rintro e w' ⟨rfl, rfl⟩)
  go_ret
  exact ⟨ret_str (by simp [scaleS, ha]; rfl), Below.refl _ _⟩
def CodeAt (w : World) (a : Option Addr) (n : Nat) : Prop :=
 n ≤ 1048576 ∧ ∀ j, j < n → ∃ b off x, a = some ⟨b, off, none⟩ ∧ w.cell? ⟨b, off + j, none⟩ = some (.int .u8 x) ∧ 0 ≤ x ∧ x ≤ 255
theorem CodeAt.below {w w' : World} {a : Option Addr} {n : Nat} (h : CodeAt w a n) (hb : Below w.heap.size w w') : CodeAt w' a n :=
 ⟨h.1, fun j hj => by
  obtain ⟨b, off, x, e, hc, hx⟩ := h.2 j hj
  exact ⟨b, off, x, e, (hb.cell (p := ⟨b, off + j, none⟩) (block_lt_of_cell hc)).trans hc, hx⟩⟩
theorem CodeAt.bytes {w : World} {a : Option Addr} {n : Nat} (h : CodeAt w a n) (g : Nat) (hg : w.heap.size ≤ g) : BytesAt w a n g := by
 intro j hj
 obtain ⟨b, off, x, e, hc, hx⟩ := h.2 j hj
 have := block_lt_of_cell hc
 exact ⟨b, off, x, e, by simp at this; omega, hc, hx⟩
theorem IsRow.code {w : World} {a : Option Addr} {len cap : Nat} {zs : List Int} (h : IsRow .u8 w a len cap zs) (hn : len ≤ 1048576) : CodeAt w a len := by
 refine ⟨hn, ?_⟩
 rcases h with ⟨rfl, rfl, rfl, rfl⟩ | ⟨x, rfl, hl, hm, hz, hcell, hwz⟩
 ·intro j hj; omega
 ·intro i hi
  obtain ⟨b, off, spot⟩ := x
  have hc := hcell i (by omega)
  have hspot : spot = none := by simpa [Addr.add] using World.cell?_spot (hcell 0 (by omega))
  subst hspot
  have ea : (⟨b, off, none⟩ : Addr).add i = ⟨b, off + i, none⟩ := by unfold Addr.add; split <;> simp_all
  rw [ea] at hc
  have hmem : zs.getD i 0 ∈ zs := by
   have hi2 : i < zs.length := by omega
   simp [hi2]
  have hb := bounds_u8 (hwz _ hmem)
  exact ⟨b, off, _, rfl, hc, by omega, by omega⟩
theorem Tryz.infoElem : (Tryz.prog.info? 104).map (fun i => (i.zero, i.size, i.bytes)) = some (some (.int .u8 0), 1, 1) := by kernel_rfl
def eI (f : Nat → Nat) (n : Nat) : List Int := (List.range n).map fun i => ((f i : Nat) : Int)
theorem eI_len (f : Nat → Nat) (n : Nat) : (eI f n).length = n := by simp [eI]
theorem eI_get (f : Nat → Nat) (n i : Nat) (h : i < n) : (eI f n)[i]? = some ((f i : Nat) : Int) := by simp [eI, h]
theorem eI_getD (f : Nat → Nat) (n i : Nat) (h : i < n) : (eI f n).getD i 0 = ((f i : Nat) : Int) := by simp [List.getD, eI_get f n i h]
theorem eI_congr {f g : Nat → Nat} {n : Nat} (h : ∀ i, i < n → f i = g i) : eI f n = eI g n := by
 unfold eI
 apply List.map_congr_left
 intro i hi
 rw [h i (List.mem_range.1 hi)]
theorem eI_ext {zs : List Int} {f : Nat → Nat} {n : Nat} (hl : zs.length = n) (h : ∀ i, i < n → zs.getD i 0 = ((f i : Nat) : Int)) : zs = eI f n := by
 apply List.ext_getElem?
 intro i
 by_cases hi : i < n
 ·have h1 := h i hi
  rw [eI_get f n i hi]
  have h2 : i < zs.length := by omega
  rw [List.getElem?_eq_getElem h2]
  simp [List.getD, List.getElem?_eq_getElem h2] at h1
  rw [h1]
 ·rw [List.getElem?_eq_none (by omega), List.getElem?_eq_none (by rw [eI_len]; omega)]
theorem eI_set (f : Nat → Nat) (n k v : Nat) (d : IntKind) (h : k < n) : ((eI f n).map (Value.int d)).set k (.int d (v : Int)) = (eI (fun i => if i = k then v else f i) n).map (Value.int d) := by
 apply List.ext_getElem?
 intro i
 rw [List.getElem?_set]
 by_cases hi : i < n
 ·by_cases e : k = i
  ·subst e
   simp [eI, h]
  ·simp [eI, hi, e, Ne.symm e]
 ·by_cases e : k = i
  ·omega
  ·rw [if_neg e, List.getElem?_eq_none (by simp [eI_len]; omega), List.getElem?_eq_none (by simp [eI_len]; omega)]
theorem eI_const {f : Nat → Nat} (n v : Nat) (h : ∀ i, i < n → f i = v) : eI f n = List.replicate n (v : Int) := by
 symm
 apply eI_ext
 ·simp
 ·intro i hi
  rw [h i hi]
  simp [List.getD, hi]
def coP (zs : List Int) (i : Nat) : Nat := (zs.getD i 0).toNat
def Els (w : World) (a : Option Addr) (n cap : Nat) (f : Nat → Nat) : Prop :=
 n ≤ cap ∧ ((a = none ∧ n = 0 ∧ cap = 0) ∨ ∃ b, a = some ⟨b, 0, none⟩ ∧ b < w.heap.size ∧ ∀ i, i < n → w.cell? ⟨b, i, none⟩ = some (.int .u8 ((f i : Nat) : Int)))
theorem Els.nil (w : World) (f : Nat → Nat) : Els w none 0 0 f := ⟨Nat.le_refl _, .inl ⟨rfl, rfl, rfl⟩⟩
def OwnU (w : World) (B g n cap : Nat) (f : Nat → Nat) : Prop := w.ownsRow B 104 1 (.slice (some ⟨g, 0, none⟩) n cap) n ((eI f n).map (Value.int .u8))
theorem OwnU.els {w : World} {B g n cap : Nat} {f : Nat → Nat} (h : OwnU w B g n cap f) : Els w (some ⟨g, 0, none⟩) n cap f := by
 have hc : n ≤ cap := by
  rcases h.2 with h' | ⟨g', cap', cur, e, _, _, hn, _⟩
  ·cases h'.1
  ·cases e; exact hn
 refine ⟨hc, .inr ⟨g, rfl, (World.ownsRow.lt h g rfl).2, fun i hi => ?_⟩⟩
 rw [World.ownsRow.cellAt h i (by omega)]
 simp [eI, hi]
theorem OwnU.lt {w : World} {B g n cap : Nat} {f : Nat → Nat} (h : OwnU w B g n cap f) : B ≤ g ∧ g < w.heap.size := World.ownsRow.lt h g rfl
theorem OwnU.congr {w : World} {B g n cap : Nat} {f h : Nat → Nat} (ho : OwnU w B g n cap f) (e : ∀ i, i < n → f i = h i) : OwnU w B g n cap h := by
 unfold OwnU at *
 rw [← eI_congr e]
 exact ho
theorem OwnU.set {w : World} {B g n cap k v : Nat} {f : Nat → Nat} (h : OwnU w B g n cap f) (hk : k < n) :
  OwnU (w.setCell ⟨g, k, none⟩ (.int .u8 (v : Int))) B g n cap (fun i => if i = k then v else f i) ∧ w.grownBy (w.setCell ⟨g, k, none⟩ (.int .u8 (v : Int))) (some g) := by
 have hs := World.ownsRow.stored h k (.int .u8 (v : Int))
 rw [eI_set f n k v .u8 hk] at hs
 exact ⟨hs.1, ⟨rfl, rfl, rfl, by simp, fun j _ hj => heap_setCell_other w ⟨g, k, none⟩ j _ (fun e => hj (by simp [e]))⟩⟩
theorem readE_yes (a : Option Addr) (n cap : Nat) (zs : List Int) (w : World) (h : IntsAt w a n zs) (hn : n ≤ 1048576) (hz : ∀ i, i < n → isB (zs.getD i 0) = true) :
  Calls Tryz.prog 160 #[.slice a n cap] w fun e w' => e = .returned (.tuple #[.slice (some ⟨w.heap.size, 0, none⟩) n n, .bool true]) ∧ OwnU w' w.heap.size w.heap.size n n (coP zs) ∧ Below w.heap.size w w' := by
 obtain ⟨i0, hi, hz0, hz1, hz2⟩ := info_parts Tryz.infoElem
 obtain ⟨hlen, hcells⟩ := h
 clear hlen
 go_enter Tryz.func160, Tryz.ntmps160
 go_wp2_with (at_make; refine wpList_make_full _ rfl _ _ 189 rfl w.heap.size 104 i0 (.int .u8 0) 1 Tryz.underlying189 hi hz0 hz1 .i64 .i64 _ _ n rfl rfl rfl rfl (by rw [hz2]; omega) (by unfold maxLen; omega) (Nat.le_refl _) ?_; intro w1 hown hgrow)
 have hb1 : Below w.heap.size w w1 := (Below.refl _ _).grown hgrow (Nat.le_refl _) (by simp)
 have ho1 : OwnU w1 w.heap.size w.heap.size n n (fun i => if i < 0 then coP zs i else 0) := by
  unfold OwnU
  rw [eI_const n 0 (fun i _ => if_neg (by omega))]
  simpa [Value.cells, toList_madeCells_one] using hown
 clear hown hgrow
 go_loopw [12] (fun i wr => ∃ k : Nat, k ≤ n ∧ i = .int .i64 k ∧ OwnU wr w.heap.size w.heap.size n n (fun i => if i < k then coP zs i else 0) ∧ Below w.heap.size w wr) (fun i _ => n - (intOf i).toNat)
 case atStart => exact ⟨0, Nat.zero_le _, rfl, ho1, hb1⟩
 case round =>
  obtain ⟨k, hk, rfl, hown, hbel⟩ := hrel
  clear ho1 hb1
  by_cases hlt : k < n
  ·obtain ⟨b, off, rfl, hc⟩ := hcells k hlt
   have hzk := hz k hlt
   have hcx : wr.cell? ⟨b, off + k, none⟩ = some (.int .i64 (zs.getD k 0)) := (hbel.cell (p := ⟨b, off + k, none⟩) (block_lt_of_cell hc)).trans hc
   obtain ⟨X, hX, hx⟩ := isB_nat hzk
   have HX : Hid (coP zs k = X) := by show _ = _; unfold coP; rw [hx]; simp
   rw [hx] at hcx hzk
   have hold := (OwnU.els hown).2
   obtain ⟨old, hold⟩ : ∃ v, wr.cell? ⟨w.heap.size, k, none⟩ = some v := by
    rw [World.ownsRow.cellAt hown k (by omega)]
    exact ⟨_, List.getElem?_eq_getElem (by rw [hown.1]; omega)⟩
   have hfr := World.ownsRow.frozenAt hown k
   have hst := hown.set (k := k) (v := X) hlt
   have hne : Below w.heap.size w (wr.setCell ⟨w.heap.size, k, none⟩ (.int .u8 (X : Int))) := hbel.setCell (Nat.le_refl _) _
   have HO : Hid _ := hst.1
   clear hst hown hcells hc hz hx
   go_wp2_with (go_at_call 116; refine (isByte_any _ _).mono ?_; rintro e w' ⟨rfl, hw⟩; obtain rfl := hw.symm)
   go_roundw
   case rel => exact ⟨k + 1, by omega, by go_num, OwnU.congr HO.out (fun i hi => by
    by_cases e : i = k
    ·subst e; rw [if_pos rfl, if_pos (by omega), HX.out]
    ·rw [if_neg e]
     by_cases h2 : i < k
     ·rw [if_pos h2, if_pos (by omega)]
     ·rw [if_neg h2, if_neg (by omega)]), hne⟩
   case measure => simp [intOf]; omega
  ·have e : k = n := by omega
   subst e
   go_wp2
   go_ret2
   exact ⟨rfl, hown.congr (fun i hi => by rw [if_pos hi]), hbel⟩
theorem readE_no (a : Option Addr) (n cap : Nat) (zs : List Int) (w : World) (h : IntsAt w a n zs) (hn : n ≤ 1048576) (hz : ∃ i, i < n ∧ isB (zs.getD i 0) = false) :
  Calls Tryz.prog 160 #[.slice a n cap] w fun e w' => e = .returned (.tuple #[.slice none 0 0, .bool false]) ∧ Below w.heap.size w w' := by
 obtain ⟨i0, hi, hz0, hz1, hz2⟩ := info_parts Tryz.infoElem
 obtain ⟨hlen, hcells⟩ := h
 clear hlen
 go_enter Tryz.func160, Tryz.ntmps160
 go_wp2_with (at_make; refine wpList_make_full _ rfl _ _ 189 rfl w.heap.size 104 i0 (.int .u8 0) 1 Tryz.underlying189 hi hz0 hz1 .i64 .i64 _ _ n rfl rfl rfl rfl (by rw [hz2]; omega) (by unfold maxLen; omega) (Nat.le_refl _) ?_; intro w1 hown hgrow)
 have hb1 : Below w.heap.size w w1 := (Below.refl _ _).grown hgrow (Nat.le_refl _) (by simp)
 have ho1 : OwnU w1 w.heap.size w.heap.size n n (fun _ => 0) := by
  unfold OwnU
  rw [eI_const n 0 (fun i _ => rfl)]
  simpa [Value.cells, toList_madeCells_one] using hown
 clear hown hgrow
 obtain ⟨q, hq, hzq⟩ := hz
 go_loopw [12] (fun i wr => ∃ k f, k ≤ q ∧ i = .int .i64 ((k : Nat) : Int) ∧ OwnU wr w.heap.size w.heap.size n n f ∧ Below w.heap.size w wr) (fun i _ => n - (intOf i).toNat)
 case atStart => exact ⟨0, _, Nat.zero_le _, rfl, ho1, hb1⟩
 case round =>
  obtain ⟨k, f, hk, rfl, hown, hbel⟩ := hrel
  clear ho1 hb1
  have hlt : k < n := by omega
  have hlti : (k : Int) < (n : Int) := by omega
  obtain ⟨b, off, rfl, hc⟩ := hcells k hlt
  have hcx : wr.cell? ⟨b, off + k, none⟩ = some (.int .i64 (zs.getD k 0)) := (hbel.cell (p := ⟨b, off + k, none⟩) (block_lt_of_cell hc)).trans hc
  have hzq' : k = q → isB (zs.getD k 0) = false := fun e => by rw [e]; exact hzq
  clear hzq
  generalize zs.getD k 0 = x at hcx hzq'
  clear hc
  by_cases hzk : isB x = true
  ·obtain ⟨X, hX, hx⟩ := isB_nat hzk
   have hne : k ≠ q := by
    intro e
    have := hzq' e
    rw [hzk] at this
    cases this
   rw [hx] at hcx hzk
   obtain ⟨old, hold⟩ : ∃ v, wr.cell? ⟨w.heap.size, k, none⟩ = some v := by
    rw [World.ownsRow.cellAt hown k (by omega)]
    exact ⟨_, List.getElem?_eq_getElem (by rw [hown.1]; omega)⟩
   have hfr := World.ownsRow.frozenAt hown k
   have hst := hown.set (k := k) (v := X) hlt
   have hbn : Below w.heap.size w (wr.setCell ⟨w.heap.size, k, none⟩ (.int .u8 (X : Int))) := hbel.setCell (Nat.le_refl _) _
   have HO : Hid _ := hst.1
   clear hst hown hcells hx hzq'
   go_wp2_with (go_at_call 116; refine (isByte_any _ _).mono ?_; rintro e w' ⟨rfl, hw⟩; obtain rfl := hw.symm)
   go_roundw
   case rel => exact ⟨k + 1, _, by omega, by go_num, HO.out, hbn⟩
   case measure => simp [intOf]; omega
  ·have hzk' : isB x = false := by simpa using hzk
   clear hcells hzk hzq'
   go_wp2_with (go_at_call 116; refine (isByte_any _ _).mono ?_; rintro e w' ⟨rfl, hw⟩; obtain rfl := hw.symm)
   go_ret2
   exact ⟨rfl, hbel⟩
theorem big_any (a : Option Addr) (n cap : Nat) (w : World) : Calls Tryz.prog 5 #[.slice a n cap] w fun e w' => e = .returned (.bool (decide (1048576 < (n : Int)))) ∧ w' = w := by
 go_enter Tryz.func5, Tryz.ntmps5
 go_wp2
 go_ret
 exact ⟨rfl, rfl⟩
end Go.Proofs.YtodnodekheaacaaGreatDoor
