import Derived.Test.YtaenoiffamgcfaaGreatDoorM16
import Derived.Test.YtaenoiffamgcfaaGreatDoorM8
import Derived.Lib.Strings
import Derived.Lib.Walk
import Derived.Lib.BufferWrite
import Derived.Lib.UnsafeStr
import Derived.Lib.Hide
import Derived.Laws.MakeOwn
import Derived.Test.YtaenoiffamgcfaaGreatDoorM4
import Derived.Laws.CopyRow
set_option maxHeartbeats 8000000
set_option maxRecDepth 2000
open Go.ChangeShapes Go.WideShapes Go.ChangeAt Go.RowKit
namespace Go.Proofs.YtaenoiffamgcfaaGreatDoor
open Gt (nb hf pl)
theorem up_nums (p s : Nat) (hp : p < s) (hs : s ≤ 64) : IntKind.i64.wrap ((p : Int) + 1) = (p : Int) + 1 ∧ (p : Int).tmod 2 = (p : Int) % 2 ∧ IntKind.i64.wrap (2 * ((p : Int) % 2)) = 2 * ((p : Int) % 2) ∧ IntKind.i64.wrap ((p : Int) + 1 - 2 * ((p : Int) % 2)) = ((nb p : Nat) : Int) ∧
  (p : Int).tdiv 2 = ((p / 2 : Nat) : Int) ∧ IntKind.i64.wrap ((p / 2 : Nat) : Int) = ((p / 2 : Nat) : Int) ∧ IntKind.i64.wrap ((s : Int) + 1) = (s : Int) + 1 ∧ ((s : Int) + 1).tdiv 2 = ((hf s : Nat) : Int) ∧ IntKind.i64.wrap ((hf s : Nat) : Int) = ((hf s : Nat) : Int) := by
 refine ⟨by rw [IntKind.wrap_i64]; omega, by rw [Int.tmod_eq_emod_of_nonneg (by omega)], by rw [IntKind.wrap_i64]; omega, ?_, by rw [Int.tdiv_eq_ediv_of_nonneg (by omega)]; omega, by rw [IntKind.wrap_i64]; omega, by rw [IntKind.wrap_i64]; omega, by rw [Int.tdiv_eq_ediv_of_nonneg (by omega)]; unfold hf; omega, by unfold hf; rw [IntKind.wrap_i64]; omega⟩
 rw [Gt.nb_model, IntKind.wrap_i64]
 have : nb p ≤ p + 1 := by unfold nb; split <;> omega
 omega
theorem inB_false {x a b : Int} (h : ¬ (a ≤ x ∧ x ≤ b)) : inB x a b = false := by unfold inB; simpa using h
theorem inB_true {x a b : Int} (h : a ≤ x ∧ x ≤ b) : inB x a b = true := by unfold inB; simpa using h
theorem sProofLen_any (i n : Int) (w : World) : Calls Tryz.prog 122 #[.int .i64 i, .int .i64 n] w fun e w' => e = .returned (.int .i64 (plI i n)) ∧ w' = w := by
 by_cases hn : 1 ≤ n ∧ n ≤ 64
 ·have KN : inB n 1 64 = true := inB_true hn
  have hw1 : IntKind.i64.wrap (n - 1) = n - 1 := by rw [IntKind.wrap_i64]; omega
  by_cases hi : 0 ≤ i ∧ i ≤ n - 1
  ·have KI : inB i 0 (n - 1) = true := inB_true hi
   obtain ⟨i', rfl⟩ : ∃ i' : Nat, i = (i' : Int) := ⟨i.toNat, by omega⟩
   obtain ⟨n', rfl⟩ : ∃ n' : Nat, n = (n' : Int) := ⟨n.toNat, by omega⟩
   have hin : inT (i' : Int) (n' : Int) = true := by simp [inT]; omega
   have e : plI (i' : Int) (n' : Int) = ((pl i' n' : Nat) : Int) := by unfold plI; rw [if_pos hin]; simp
   rw [e]
   obtain ⟨N, hN⟩ : ∃ N, pl i' n' = N := ⟨_, rfl⟩
   have hN6 : N ≤ 6 := by rw [← hN]; exact Gt.pl_le 6 _ _ (by omega)
   have HN : Hid (pl i' n' = N) := hN
   rw [hN]
   clear hin e hN
   go_enter Tryz.func122, Tryz.ntmps122
   go_wp2_with (go_at_call 63; refine (sIn_any _ _ _ _).mono ?_; rintro e w' ⟨rfl, hw⟩; obtain rfl := hw.symm)
   go_loop [0, 1, 5] (fun vi vn vc => ∃ p s c : Nat, p < s ∧ s ≤ 64 ∧ c ≤ 6 ∧ Hid (c + pl p s = N) ∧ vi = .int .i64 (p : Int) ∧ vn = .int .i64 (s : Int) ∧ vc = .int .i64 (c : Int)) (fun _ vn _ => (intOf vn).toNat)
   case atStart => exact ⟨i', n', 0, by omega, by omega, by omega, by show 0 + _ = _; rw [HN.out]; omega, rfl, rfl, rfl⟩
   case round =>
    obtain ⟨p, s, c, hp, hs, hc, HC, rfl, rfl, rfl⟩ := hrel
    clear hw1 hi hn
    by_cases h1 : s ≤ 1
    ·have h1' : ¬ (1 : Int) < (s : Int) := by omega
     have HE : Hid (c = N) := by have := HC.out; rw [Gt.pl_one p h1] at this; show _ = _; omega
     go_wp2
     go_ret
     exact ⟨by rw [← HE.out]; rfl, rfl⟩
    ·have h1' : (1 : Int) < (s : Int) := by omega
     obtain ⟨u1, u2, u3, u4, u5, u6, u7, u8, u9⟩ := up_nums p s hp hs
     have hlt : p / 2 < hf s ∧ hf s < s := by unfold hf; omega
     by_cases hb : nb p < s
     ·have HC2 : Hid (c + 1 + pl (p / 2) (hf s) = N) := by have := HC.out; rw [Gt.pl_yes p h1 hb] at this; show _ = _; omega
      have hb' : ((nb p : Nat) : Int) < (s : Int) := by omega
      have hc2 : c + 1 ≤ 6 := by have := HC2.out; omega
      generalize nb p = q at u4 hb'
      generalize p / 2 = p' at u5 u6 hlt HC2
      generalize hf s = s' at u8 u9 hlt HC2
      go_wp2
      go_round
      case rel => exact ⟨p', s', c + 1, by omega, by omega, hc2, HC2, rfl, rfl, by go_num⟩
      case measure => simp [intOf]; omega
     ·have HC2 : Hid (c + pl (p / 2) (hf s) = N) := by have := HC.out; rw [Gt.pl_no p h1 hb] at this; exact this
      have hb' : ¬ ((nb p : Nat) : Int) < (s : Int) := by omega
      generalize nb p = q at u4 hb'
      generalize p / 2 = p' at u5 u6 hlt HC2
      generalize hf s = s' at u8 u9 hlt HC2
      go_wp2
      go_round
      case rel => exact ⟨p', s', c, by omega, by omega, hc, HC2, rfl, rfl, rfl⟩
      case measure => simp [intOf]; omega
  ·have KI : inB i 0 (n - 1) = false := inB_false hi
   have e : plI i n = -1 := by unfold plI; rw [show inT i n = false by simp [inT]; omega]; rfl
   rw [e]
   clear e
   go_enter Tryz.func122, Tryz.ntmps122
   go_wp2_with (go_at_call 63; refine (sIn_any _ _ _ _).mono ?_; rintro e w' ⟨rfl, hw⟩; obtain rfl := hw.symm)
   go_ret
   exact ⟨rfl, rfl⟩
 ·have KN : inB n 1 64 = false := inB_false hn
  have e : plI i n = -1 := by unfold plI; rw [show inT i n = false by simp [inT]; omega]; rfl
  rw [e]
  clear e
  go_enter Tryz.func122, Tryz.ntmps122
  go_wp2_with (go_at_call 63; refine (sIn_any _ _ _ _).mono ?_; rintro e w' ⟨rfl, hw⟩; obtain rfl := hw.symm)
  go_ret
  exact ⟨rfl, rfl⟩
end Go.Proofs.YtaenoiffamgcfaaGreatDoor
namespace Go.Proofs.YtaenoiffamgcfaaGreatDoor
def aS (n : Nat) (S : Nat → ByteArray) : Bool := decide (∀ i, i < n → (S i).size = 16)
theorem aS_yes {n : Nat} {S : Nat → ByteArray} (h : ∀ i, i < n → (S i).size = 16) : aS n S = true := by unfold aS; simpa using h
theorem aS_no {n k : Nat} {S : Nat → ByteArray} (hk : k < n) (h : (S k).size ≠ 16) : aS n S = false := by unfold aS; simp; exact ⟨k, hk, h⟩
theorem aS_iff {n : Nat} {S : Nat → ByteArray} : aS n S = true ↔ ∀ i, i < n → (S i).size = 16 := by unfold aS; simp
theorem areSums_any (a : Option Addr) (n cap : Nat) (S : Nat → ByteArray) (w : World) (h : TxtAt w a n S) (hn : n ≤ 1048576) (hL : ∀ i, i < n → (S i).size ≤ maxLen) :
  Calls Tryz.prog 114 #[.slice a n cap] w fun e w' => e = .returned (.bool (aS n S)) ∧ w' = w := by
 unfold maxLen at hL
 have KH : Hid (TxtAt w a n S) := h
 have KL : Hid (∀ i, i < n → (S i).size ≤ 9223372036854775807) := hL
 clear h hL
 go_enter Tryz.func114, Tryz.ntmps114
 go_wp2
 go_loop [7] (fun i => ∃ k : Nat, k ≤ n ∧ i = .int .i64 k ∧ Hid (∀ i, i < k → (S i).size = 16)) (fun i => n - (intOf i).toNat)
 case atStart => exact ⟨0, Nat.zero_le _, rfl, fun i hi => by omega⟩
 case round =>
  obtain ⟨k, hk, rfl, HS⟩ := hrel
  by_cases hlt : k < n
  ·obtain ⟨b, off, rfl, hc⟩ := KH.out k hlt
   have hlti : (k : Int) < (n : Int) := by omega
   have hl := KL.out k hlt
   obtain ⟨s, hs⟩ : ∃ s, S k = s := ⟨_, rfl⟩
   rw [hs] at hc hl
   by_cases h16 : s.size = 16
   ·have h16' : (s.size : Int) = 16 := by omega
    have HS2 : Hid (∀ i, i < k + 1 → (S i).size = 16) := fun i hi => by
     by_cases e : i = k
     ·subst e; rw [hs]; exact h16
     ·exact HS.out i (by omega)
    clear h16 hs
    go_wp2
    go_round
    case rel => exact ⟨k + 1, by omega, by go_num, HS2⟩
    case measure => simp [intOf]; omega
   ·have h16' : ((s.size : Int) != 16) = true := by simp; omega
    have HE : Hid (aS n S = false) := aS_no hlt (by rw [hs]; exact h16)
    clear h16 hs
    go_wp2
    go_ret
    exact ⟨by rw [HE.out]; rfl, rfl⟩
  ·obtain rfl : k = n := by omega
   have HE : Hid (aS k S = true) := aS_yes HS.out
   go_wp2
   go_ret
   exact ⟨by rw [HE.out]; rfl, rfl⟩
def lvB (n : Nat) (S : Nat → ByteArray) : Bool := aS n S && inB (n : Int) 1 64
theorem sLeaves_any (a : Option Addr) (n cap : Nat) (S : Nat → ByteArray) (w : World) (h : TxtAt w a n S) (hn : n ≤ 1048576) (hL : ∀ i, i < n → (S i).size ≤ maxLen) :
  Calls Tryz.prog 123 #[.slice a n cap] w fun e w' => e = .returned (.bool (lvB n S)) ∧ w' = w := by
 unfold maxLen at hL
 have KH : Hid (TxtAt w a n S) := h
 have KL : Hid (∀ i, i < n → (S i).size ≤ 9223372036854775807) := hL
 clear h hL
 go_enter Tryz.func123, Tryz.ntmps123
 go_wp2
 go_loop [3] (fun i => ∃ k : Nat, k ≤ n ∧ i = .int .i64 k ∧ Hid (∀ i, i < k → (S i).size = 16)) (fun i => n - (intOf i).toNat)
 case atStart => exact ⟨0, Nat.zero_le _, rfl, fun i hi => by omega⟩
 case round =>
  obtain ⟨k, hk, rfl, HS⟩ := hrel
  by_cases hlt : k < n
  ·obtain ⟨b, off, rfl, hc⟩ := KH.out k hlt
   have hlti : (k : Int) < (n : Int) := by omega
   have hl := KL.out k hlt
   obtain ⟨s, hs⟩ : ∃ s, S k = s := ⟨_, rfl⟩
   rw [hs] at hc hl
   by_cases h16 : s.size = 16
   ·have h16' : (s.size : Int) = 16 := by omega
    have HS2 : Hid (∀ i, i < k + 1 → (S i).size = 16) := fun i hi => by
     by_cases e : i = k
     ·subst e; rw [hs]; exact h16
     ·exact HS.out i (by omega)
    clear h16 hs
    go_wp2
    go_round
    case rel => exact ⟨k + 1, by omega, by go_num, HS2⟩
    case measure => simp [intOf]; omega
   ·have h16' : ((s.size : Int) != 16) = true := by simp; omega
    have HE : Hid (lvB n S = false) := by show _ = _; unfold lvB; rw [aS_no hlt (by rw [hs]; exact h16)]; rfl
    clear h16 hs
    go_wp2
    go_ret
    exact ⟨by rw [HE.out]; rfl, rfl⟩
  ·obtain rfl : k = n := by omega
   have HE : Hid (lvB k S = inB (k : Int) 1 64) := by show _ = _; unfold lvB; rw [aS_yes HS.out]; rfl
   go_wp2_with (go_at_call 63; refine (sIn_any _ _ _ _).mono ?_; rintro e w' ⟨rfl, hw⟩; obtain rfl := hw.symm)
   go_ret
   exact ⟨by rw [HE.out]; rfl, rfl⟩
set_option maxRecDepth 100000 in
theorem cloneLite_any (s : ByteArray) (w : World) (hlim : s.size ≤ 1048576) :
  Calls Tryz.prog 126 #[.string s] w fun e w' => e = .returned (.string s) ∧ Below w.heap.size w w' := by
 by_cases h0 : s.size = 0
 ·have hs : s = ⟨#[]⟩ := by
   apply ByteArray.ext
   exact Array.eq_empty_of_size_eq_zero h0
  subst hs
  go_enter Tryz.func126, Tryz.ntmps126
  go_wp2
  go_ret
  exact ⟨rfl, Below.refl _ _⟩
 ·obtain ⟨i0, hi, hz0, hz1, hz2⟩ := info_parts Tryz.infoByte
  have hinfo : (Tryz.prog.info? 5).map (·.size) = some 1 := by rw [hi]; simp [hz1]
  have hco : Tryz.prog.cellsOf 5 = 1 := by simp [Program.cellsOf, hi, hz1]
  obtain ⟨M, hM⟩ : ∃ M, M = madeCells (Value.int .u8 0).cells (((s.size : Nat) : Int).toNat * i0.size) := ⟨_, rfl⟩
  have hMs : M.size = s.size := by rw [hM, size_madeCells, hz1]; simp
  have hmk : ∀ W : World, (Instr.makeSlice 22 (.int .i64 (s.size : Int)) (.int .i64 (s.size : Int))).run Tryz.prog W = .ok (.slice (some ⟨W.heap.size, 0, none⟩) s.size s.size) (W.alloc (.cells M 5)) := fun W => by
   have h := run_make (P := Tryz.prog) W 22 5 i0 (.int .u8 0) Tryz.underlying22 hi hz0 .i64 .i64 (s.size : Int) (s.size : Int) (by omega) (by omega) (by rw [hz2]; omega) (by omega)
   rw [← hM] at h
   simpa using h
  clear hM
  have hcp := Lib.run_copy_row_string (P := Tryz.prog) (w.alloc (.cells M 5)) 22 9 3 5 w.heap.size 0 s.size s.size s M 5 Tryz.underlying22 hinfo (heap_alloc_new w _) (Nat.le_refl _) (by omega)
  obtain ⟨Y, hY⟩ : ∃ Y, Y = (M.toList.take 0 ++ Lib.byteCells s.data.toList ++ M.toList.drop (0 + s.size)).toArray := ⟨_, rfl⟩
  rw [← hY] at hcp
  have hYl : Y.toList = Lib.byteCells s.data.toList := by
   rw [hY, List.toList_toArray, List.take_zero, List.nil_append, List.drop_of_length_le (by rw [Array.length_toList]; omega), List.append_nil]
  have hYs : Y.size = s.size := by rw [← Array.length_toList, hYl, Lib.byteCells_length, ← Lib.size_eq]
  have hgY : ((w.alloc (.cells M 5)).setRow w.heap.size Y).heap[w.heap.size]? = some (.cells Y 5 (0, 0)) := setRow_heap _ _ M _ 5 (0, 0) (heap_alloc_new w _)
  have hne : s.data.toList ≠ [] := fun e => h0 (by rw [Lib.size_eq, e]; rfl)
  have hUS := Lib.run_unsafeString_row (P := Tryz.prog) ((w.alloc (.cells M 5)).setRow w.heap.size Y) 160 3 9 5 Tryz.underlying160 hco w.heap.size Y.size (by unfold World.shape?; rw [hgY]) s.data.toList hne (by rw [← Lib.size_eq]; omega) (by rw [← Lib.size_eq]; omega)
   (fun j x hx => Lib.cells_of_row hgY Y.size j _ (by rw [List.take_of_length_le (by rw [Array.length_toList]; exact Nat.le_refl _), hYl]; simp [Lib.byteCells, hx]))
  rw [← Lib.size_eq] at hUS
  clear hY
  go_enter Tryz.func126, Tryz.ntmps126
  go_wp2
  go_ret
  have hb1 : Below w.heap.size w (w.alloc (.cells M 5)) := (Below.refl _ w).alloc (Nat.le_refl _) _
  have hb2 : Below w.heap.size (w.alloc (.cells M 5)) ((w.alloc (.cells M 5)).setRow w.heap.size Y) := ⟨rfl, rfl, rfl, by simp, fun k hk => setRow_other _ _ _ _ (by omega)⟩
  exact ⟨rfl, Lib.below_freeze (hb1.trans hb2) (p := ⟨w.heap.size, 0, none⟩) (Nat.le_refl _) _⟩
theorem clone_any (s : ByteArray) (w : World) (hlim : s.size ≤ 1048576) :
  Calls Tryz.prog 103 #[.string s] w fun e w' => e = .returned (.string s) ∧ Below w.heap.size w w' := by
 go_enter Tryz.func103, Tryz.ntmps103
 go_wp2_with fail
 refine (cloneLite_any s _ hlim).mono ?_
 rintro e w1 ⟨rfl, b1⟩
 go_wp2
 go_ret
 exact ⟨rfl, b1⟩
end Go.Proofs.YtaenoiffamgcfaaGreatDoor
namespace Go.Proofs.YtaenoiffamgcfaaGreatDoor
open Go.ChangeShapes Go.WideShapes Go.ChangeAt Go.RowKit Go.Shelf
open Gt (nb hf nm pl pr jn)
def prB (x : ByteArray) (i n : Int) (k : Nat) (S : Nat → ByteArray) : Bool := decide (x.size = 16) && decide ((k : Int) = plI i n) && aS k S
def prS (x : ByteArray) (i n : Int) (k : Nat) (S : Nat → ByteArray) : ByteArray := if prB x i n k S = true then pr x i.toNat n.toNat S 0 else ⟨#[]⟩
theorem proofRoot_no (x : ByteArray) (i n : Int) (a : Option Addr) (k cap : Nat) (S : Nat → ByteArray) (w : World) (h : TxtAt w a k S) (hk : k ≤ 1048576) (hL : ∀ i, i < k → (S i).size ≤ maxLen) (hno : prB x i n k S = false) :
  Calls Tryz.prog 84 #[.string x, .int .i64 i, .int .i64 n, .slice a k cap] w fun e w' => e = .returned (.tuple #[.string ⟨#[]⟩, .bool false]) ∧ Below w.heap.size w w' := by
 obtain ⟨w1, HW1⟩ : ∃ w1, Hid (w1 = w.alloc (.cells #[.slice a k cap] 30)) := ⟨_, rfl⟩
 have K1 : Hid (Row w1 w.heap.size 30 #[.slice a k cap] ∧ Below w.heap.size w w1) := by rw [HW1.out]; exact ⟨Row.new w _ _, (Below.refl _ _).alloc (Nat.le_refl _) _⟩
 have KP : Hid (∀ w0, Calls Tryz.prog 113 #[.int .i64 i, .int .i64 n] w0 fun e w' => e = .returned (.int .i64 (plI i n)) ∧ Below w0.heap.size w0 w') := fun w0 => proofLen_any i n w0
 have KA : Hid (∀ W, Below w.heap.size w W → Calls Tryz.prog 114 #[.slice a k cap] W fun e w' => e = .returned (.bool (aS k S)) ∧ w' = W) := fun W hb => areSums_any a k cap S W (h.below hb) hk hL
 have hc := K1.out.1.cell 0
 have hlt := K1.out.1.lt
 simp at hc
 obtain ⟨r, hr⟩ : ∃ r, plI i n = r := ⟨_, rfl⟩
 rw [hr] at KP
 unfold prB at hno
 rw [hr] at hno
 by_cases h16 : x.size = 16
 ·have h16' : ((x.size : Int) != 16) = false := by simp; omega
  by_cases hkr : (k : Int) = r
  ·have hkr' : ((k : Int) != r) = false := by simp; exact hkr
   have haS : aS k S = false := by simpa [h16, hkr] using hno
   rw [haS] at KA
   clear h hL hno h16 hkr haS hr
   go_enter Tryz.func84, Tryz.ntmps84
   go_wp2_with fail
   rw [← HW1.out]
   go_region_held3 (fun w' => w'.cell? ⟨w.heap.size, 0, none⟩ = some (.slice a k cap)) (go_keep) ((first | (go_at_call 113; refine Calls.mono (KP.out _) ?_; rintro e w5 ⟨rfl, hb5'⟩; have hb5 := below_of_drew hb5'; clear hb5'; have h50 := (hb5.cell (p := ⟨w.heap.size, 0, none⟩) hlt).trans hc) | (guard_hyp hb5; go_at_call 114; refine Calls.mono (KA.out _ (K1.out.2.trans (hb5.mono K1.out.2.size))) ?_; rintro e w6 ⟨rfl, hw6⟩; obtain rfl := hw6.symm)))
   go_wp2
   go_ret2
   exact ⟨rfl, K1.out.2.trans (hb5.mono K1.out.2.size)⟩
  ·have hkr' : ((k : Int) != r) = true := by simp; exact hkr
   clear h hL hno h16 hkr hr KA
   go_enter Tryz.func84, Tryz.ntmps84
   go_wp2_with fail
   rw [← HW1.out]
   go_region_with (go_at_call 113; refine Calls.mono (KP.out _) ?_; rintro e w5 ⟨rfl, hb5'⟩; have hb5 := below_of_drew hb5'; clear hb5'; have h50 := (hb5.cell (p := ⟨w.heap.size, 0, none⟩) hlt).trans hc)
   all_goals go_wp2
   all_goals go_ret2
   all_goals exact ⟨rfl, K1.out.2.trans (hb5.mono K1.out.2.size)⟩
 ·have h16' : ((x.size : Int) != 16) = true := by simp; omega
  clear h hL hno h16 hr KA
  go_enter Tryz.func84, Tryz.ntmps84
  go_wp2_with fail
  rw [← HW1.out]
  go_quiet (fail)
  go_wp2
  go_ret2
  exact ⟨rfl, belowDrewN K1.out.2 _⟩
end Go.Proofs.YtaenoiffamgcfaaGreatDoor
namespace Go.Proofs.YtaenoiffamgcfaaGreatDoor
open Go.RowKit
section
variable {P : Program} {F : Fence} {n : Nat} {ops : Array Oper} {rest : List Oper} {o : Oper} {a : Act} {w : World} {Q : Exit → Act → World → Prop}
end
section
variable {F : Fence} {n : Nat} {ops : Array Oper} {rest : List Oper} {o : Oper} {a : Act} {w : World} {Q : Exit → Act → World → Prop}
end
end Go.Proofs.YtaenoiffamgcfaaGreatDoor
namespace Go.Proofs.YtaenoiffamgcfaaGreatDoor
open Gt (nb hf up jn)
end Go.Proofs.YtaenoiffamgcfaaGreatDoor
namespace Go.Proofs.YtaenoiffamgcfaaGreatDoor
end Go.Proofs.YtaenoiffamgcfaaGreatDoor
namespace Go.Proofs.YtaenoiffamgcfaaGreatDoor
open Go.ChangeShapes Go.WideShapes Go.ChangeAt Go.RowKit Go.Shelf
open Gt (nb hf nm pl pr jn)
theorem round_set {w W2 w9 : World} {b0 B c c1 : Nat} {v : Value} {y z : ByteArray} (hb2 : Below b0 w W2) (hb9 : Below W2.heap.size W2 w9) (r0 : Row W2 b0 30 #[v]) (r1 : Row W2 B 9 #[.string y]) (r2 : Row W2 (B + 1) 3 #[.int .i64 (c : Int)]) (hB : b0 < B) :
  Hid (Row (w9.setCell ⟨B, 0, none⟩ (.string z)) (B + 1) 3 #[.int .i64 (c : Int)] ∧
   W2.heap.size ≤ ((w9.setCell ⟨B, 0, none⟩ (.string z)).setCell ⟨B + 1, 0, none⟩ (.int .i64 (c1 : Int))).heap.size ∧
   (∀ j, B + 2 ≤ j → j < W2.heap.size → ((w9.setCell ⟨B, 0, none⟩ (.string z)).setCell ⟨B + 1, 0, none⟩ (.int .i64 (c1 : Int))).heap[j]? = W2.heap[j]?) ∧
   Below b0 w ((w9.setCell ⟨B, 0, none⟩ (.string z)).setCell ⟨B + 1, 0, none⟩ (.int .i64 (c1 : Int))) ∧
   Row ((w9.setCell ⟨B, 0, none⟩ (.string z)).setCell ⟨B + 1, 0, none⟩ (.int .i64 (c1 : Int))) b0 30 #[v] ∧
   Row ((w9.setCell ⟨B, 0, none⟩ (.string z)).setCell ⟨B + 1, 0, none⟩ (.int .i64 (c1 : Int))) B 9 #[.string z] ∧
   Row ((w9.setCell ⟨B, 0, none⟩ (.string z)).setCell ⟨B + 1, 0, none⟩ (.int .i64 (c1 : Int))) (B + 1) 3 #[.int .i64 (c1 : Int)]) := by
 have s0 := r0.below hb9 r0.lt
 have s1 := r1.below hb9 r1.lt
 have s2 := r2.below hb9 r2.lt
 have t2 := s2.other (k := B) 0 (.string z) (by omega)
 refine ⟨t2, by simpa using hb9.size, fun j h1 h2 => ?_, ?_, (s0.other 0 _ (by omega)).other 0 _ (by omega), (s1.set 0 (.string z)).other 0 _ (by omega), t2.set 0 (.int .i64 (c1 : Int))⟩
 ·rw [Below.heap_setCell _ _ _ _ (by simp; omega), Below.heap_setCell _ _ _ _ (by simp; omega)]
  exact hb9.block j h2
 ·exact ((hb2.trans (hb9.mono (Nat.le_of_lt r0.lt))).setCell (by simp; omega) _).setCell (by simp; omega) _
theorem proofRoot_in (x : ByteArray) (i n : Nat) (a : Option Addr) (k cap : Nat) (S : Nat → ByteArray) (w : World) (h : TxtAt w a k S) (hin : inT (i : Int) (n : Int) = true) (hx : x.size = 16) (hk : k = pl i n) (hS : ∀ j, j < k → (S j).size = 16) :
  Calls Tryz.prog 84 #[.string x, .int .i64 (i : Int), .int .i64 (n : Int), .slice a k cap] w fun e w' => e = .returned (.tuple #[.string (pr x i n S 0), .bool true]) ∧ Below w.heap.size w w' := by
 have hi : i < n ∧ n ≤ 64 := by simp [inT] at hin; omega
 have hk6 : k ≤ 6 := by rw [hk]; exact Gt.pl_le 6 _ _ (by omega)
 have hpl : plI (i : Int) (n : Int) = (k : Int) := by unfold plI; rw [if_pos hin, hk]; simp
 obtain ⟨w1, HW1⟩ : ∃ w1, Hid (w1 = w.alloc (.cells #[.slice a k cap] 30)) := ⟨_, rfl⟩
 have K1 : Hid (Row w1 w.heap.size 30 #[.slice a k cap] ∧ Below w.heap.size w w1) := by rw [HW1.out]; exact ⟨Row.new w _ _, (Below.refl _ _).alloc (Nat.le_refl _) _⟩
 have KP : Hid (∀ w0, Calls Tryz.prog 113 #[.int .i64 (i : Int), .int .i64 (n : Int)] w0 fun e w' => e = .returned (.int .i64 (k : Int)) ∧ Below w0.heap.size w0 w') := fun w0 => by rw [← hpl]; exact proofLen_any _ _ w0
 have KA : Hid (∀ W, Below w.heap.size w W → Calls Tryz.prog 114 #[.slice a k cap] W fun e w' => e = .returned (.bool true) ∧ w' = W) := fun W hb => by
  rw [← aS_yes hS]
  exact areSums_any a k cap S W (h.below hb) (by omega) (fun i hi => by rw [hS i hi]; unfold maxLen; omega)
 have KC : Hid (∀ w0, Calls Tryz.prog 103 #[.string x] w0 fun e w' => e = .returned (.string x) ∧ Below w0.heap.size w0 w') := fun w0 => clone_any x w0 (by omega)
 have KH : Hid (TxtAt w a k S) := h
 have KS : Hid (∀ j, j < k → (S j).size = 16) := hS
 have Kk : Hid (k = pl i n) := hk
 have hc := K1.out.1.cell 0
 have hlt := K1.out.1.lt
 simp at hc
 have h16' : ((x.size : Int) != 16) = false := by simp; omega
 have hkr' : ((k : Int) != (k : Int)) = false := by simp
 have Hx : Hid (x.size = 16) := hx
 clear h hS hk hpl hin hx
 refine (callsIn_wide (n := 2)).1 (callsIn_of_wp_marks Tryz.func84 rfl trivial (wpIn_wide.2 ?_) rfl)
 simp only [Tryz.ntmps84, List.size_toArray, List.length_cons, List.length_nil, Nat.reduceAdd, Nat.reduceSub, Array.replicate_succ, Array.replicate_zero, List.push_toArray, List.append_toArray, List.nil_append, List.cons_append]
 go_wp2_with fail
 rw [← HW1.out]
 go_region_held3 (fun w' => w'.cell? ⟨w.heap.size, 0, none⟩ = some (.slice a k cap)) (go_keep) ((first | (go_at_call 113; refine Calls.mono (KP.out _) ?_; rintro e w5 ⟨rfl, hb5'⟩; have hb5 := below_of_drew hb5'; clear hb5'; have h50 := (hb5.cell (p := ⟨w.heap.size, 0, none⟩) hlt).trans hc) | (guard_hyp hb5; go_at_call 114; refine Calls.mono (KA.out _ (K1.out.2.trans (hb5.mono K1.out.2.size))) ?_; rintro e w6 ⟨rfl, hw6⟩; obtain rfl := hw6.symm)))
 go_wp2_with fail
 refine (KC.out _).mono ?_
 rintro e w7 ⟨rfl, hb7⟩
 have HB : Hid (Below w.heap.size w w7 ∧ w.heap.size < w7.heap.size) := by
  have h1 := K1.out.2.trans (hb5.mono K1.out.2.size)
  have h2 := h1.trans (hb7.mono h1.size)
  refine ⟨h2, ?_⟩
  have := hb5.size
  have := hb7.size
  omega
 have HR : Hid (Row w7 w.heap.size 30 #[.slice a k cap]) := (K1.out.1.below hb5 hlt).below hb7 (Nat.lt_of_lt_of_le hlt hb5.size)
 go_wp2
 obtain ⟨B, hB⟩ : ∃ B, w7.heap.size = B := ⟨_, rfl⟩
 obtain ⟨w8, HW8⟩ : ∃ w8, Hid (w8 = (w7.alloc (.cells #[.string x] 9)).alloc (.cells #[.int .i64 0] 3)) := ⟨_, rfl⟩
 have HN : Hid (Row w8 w.heap.size 30 #[.slice a k cap] ∧ Row w8 B 9 #[.string x] ∧ Row w8 (B + 1) 3 #[.int .i64 ((0 : Nat) : Int)] ∧ Below w.heap.size w w8 ∧ w8.heap.size = B + 2 ∧ w.heap.size < B) := by
  rw [HW8.out, ← hB]
  refine ⟨(HR.out.alloc _).alloc _, (Row.new w7 _ _).alloc _, ?_, (HB.out.1.alloc HB.out.1.size _).alloc (by have := HB.out.1.size; simp; omega) _, by simp, HB.out.2⟩
  have := Row.new (w7.alloc (.cells #[.string x] 9)) #[.int .i64 ((0 : Nat) : Int)] 3
  rw [show (w7.alloc (.cells #[.string x] 9)).heap.size = w7.heap.size + 1 by simp] at this
  exact this
 rw [← HW8.out, hB]
 clear hB HB HR hb5 hb7 h50 hc hlt h16' hkr'
 refine (wpIn_wide (n := 2)).1 ?_
 refine wpIn_rangeM (recv := SpV (i : Int) (n : Int)) (gf := 115) (by rfl) (enters_of Tryz.func115 (by kernel_rfl) rfl) (joins_iter i n hi.1 hi.2) (fun _ => rfl)
  (fun s W => Below w.heap.size w W ∧ Row W w.heap.size 30 #[.slice a k cap] ∧ ∃ (y : ByteArray) (c : Nat), Row W B 9 #[.string y] ∧ Row W (B + 1) 3 #[.int .i64 (c : Int)] ∧ y.size = 16 ∧ c + pl s.1 s.2 = k ∧ pr y s.1 s.2 S c = pr x i n S 0) ?abide ?start ?round ?done
 case abide =>
  rintro s A A' j h1 h2 ⟨hb, hr0, y, c, hr1, hr2, hy, hc, hp⟩ hg
  have hn := HN.out.2.2.2.2
  exact ⟨below_grown hb hg hb.size (by omega), hr0.grown hg (by omega), y, c, hr1.grown hg (by omega), hr2.grown hg (by omega), hy, hc, hp⟩
 case start =>
  obtain ⟨h1, h2, h3, h4, _, _⟩ := HN.out
  exact ⟨h4, h1, x, 0, h2, h3, Hx.out, by rw [Gt.pl_nm, Nat.zero_add]; exact Kk.out.symm, by rw [Gt.pr_nm]⟩
 case round =>
  rintro l s W hok ⟨hb, hr0, y, c, hr1, hr2, hy, hc, hp⟩ hlt
  have hsem := Oper.semAt_some
  have hfn := wideFn
  have hdp := wideDepth
  gi_wp2
  refine ⟨World.grownBy.refl _ _, ?_⟩
  intro W2 hg2 hs2
  have hn := HN.out.2.2.2.2
  have r0 := hr0.grown hg2 (by omega)
  have r1 := hr1.grown hg2 (by omega)
  have r2 := hr2.grown hg2 (by omega)
  have hb2 := below_grown hb hg2 hb.size (by omega)
  have c0 := r0.cell 0
  have c1 := r1.cell 0
  have c2 := r2.cell 0
  simp at c0 c1 c2
  have hmx := Tryz.mixed
  have hck : c < k := by
   have h1 := hok.1
   rw [Gt.pl_yes s.1 (by omega) hok.2.1] at hc
   omega
  have hC : Hid (c + 1 + pl (jNx s).1 (jNx s).2 = k) := by
   have h1 := hok.1
   rw [Gt.pl_yes s.1 (by omega) hok.2.1] at hc
   show _ = _
   rw [Gt.pl_nm]
   omega
  have hcki : (c : Int) < (k : Int) := by omega
  obtain ⟨c1, hc1⟩ : ∃ c1, c + 1 = c1 := ⟨_, rfl⟩
  have hw1 : IntKind.i64.wrap ((c : Int) + 1) = (c1 : Int) := by rw [IntKind.wrap_i64]; omega
  rw [hc1] at hC
  have hs1 := hok.1
  have h16 := KS.out c hck
  obtain ⟨b', off, rfl, hcc⟩ := (KH.out.below hb2) c hck
  have hS2 : Hid (w8.heap.size + 2 < W2.heap.size) := by rw [hs2]; exact hlt
  clear hr0 hr1 hr2 hg2 hs2 hb hc
  by_cases hev : s.1 % 2 = 0
  ·have hlq : ((s.1 : Nat) : Int) < ((nb s.1 : Nat) : Int) := by unfold nb; rw [if_pos hev]; omega
   have HJ : Hid (∀ w0, Calls Tryz.prog 116 #[.string y, .string (S c)] w0 fun e w' => e = .returned (.string (jn y (S c))) ∧ Below w0.heap.size w0 w') := fun w0 => join_any _ _ w0 (by omega) (by omega)
   have HP : Hid (pr (jn y (S c)) (jNx s).1 (jNx s).2 S c1 = pr x i n S 0) := by
    show _ = _
    rw [Gt.pr_nm, ← hp, ← hc1, Gt.pr_yes y s.1 S c (by omega) hok.2.1, if_pos hev]
   have HZ : Hid ((jn y (S c)).size = 16) := Gt.jn_size _ _
   generalize jn y (S c) = z at HJ HP HZ
   generalize S c = sc at HJ hcc
   generalize nb s.1 = q at hlq
   generalize s.1 = p at hlq
   clear hp hev hc1
   gi_wp2_with fail
   gi_region_with_o (gi_at_call 116; refine (CallsIn.inRound l (callsIn_wide.2 (HJ.out _))).mono ?_; rintro e w9 ⟨rfl, hb9'⟩; have hb9 := below_of_drew hb9'; clear hb9'; have g1 := (r1.below hb9 r1.lt).cell 0; have f1 := (r1.below hb9 r1.lt).free 0; simp at g1; have HW := round_set (z := z) (c1 := c1) hb2 hb9 r0 r1 r2 hn.2; have g2 := HW.out.1.cell 0; have f2 := HW.out.1.free 0; simp at g2)
   all_goals gi_wp2
   all_goals exact ⟨HW.out.2.1, fun j h1 h2 => HW.out.2.2.1 j (by omega) (by have := hS2.out; omega), HW.out.2.2.2.1, HW.out.2.2.2.2.1, z, c1, HW.out.2.2.2.2.2.1, HW.out.2.2.2.2.2.2, HZ.out, hC.out, HP.out⟩
  ·have hlq : ¬ ((s.1 : Nat) : Int) < ((nb s.1 : Nat) : Int) := by unfold nb; rw [if_neg hev]; omega
   have HJ : Hid (∀ w0, Calls Tryz.prog 116 #[.string (S c), .string y] w0 fun e w' => e = .returned (.string (jn (S c) y)) ∧ Below w0.heap.size w0 w') := fun w0 => join_any _ _ w0 (by omega) (by omega)
   have HP : Hid (pr (jn (S c) y) (jNx s).1 (jNx s).2 S c1 = pr x i n S 0) := by
    show _ = _
    rw [Gt.pr_nm, ← hp, ← hc1, Gt.pr_yes y s.1 S c (by omega) hok.2.1, if_neg hev]
   have HZ : Hid ((jn (S c) y).size = 16) := Gt.jn_size _ _
   generalize jn (S c) y = z at HJ HP HZ
   generalize S c = sc at HJ hcc
   generalize nb s.1 = q at hlq
   generalize s.1 = p at hlq
   clear hp hev hc1
   gi_wp2_with fail
   gi_region_with_o (gi_at_call 116; refine (CallsIn.inRound l (callsIn_wide.2 (HJ.out _))).mono ?_; rintro e w9 ⟨rfl, hb9'⟩; have hb9 := below_of_drew hb9'; clear hb9'; have g1 := (r1.below hb9 r1.lt).cell 0; have f1 := (r1.below hb9 r1.lt).free 0; simp at g1; have HW := round_set (z := z) (c1 := c1) hb2 hb9 r0 r1 r2 hn.2; have g2 := HW.out.1.cell 0; have f2 := HW.out.1.free 0; simp at g2)
   all_goals gi_wp2
   all_goals exact ⟨HW.out.2.1, fun j h1 h2 => HW.out.2.2.1 j (by omega) (by have := hS2.out; omega), HW.out.2.2.2.1, HW.out.2.2.2.2.1, z, c1, HW.out.2.2.2.2.2.1, HW.out.2.2.2.2.2.2, HZ.out, hC.out, HP.out⟩
 case done =>
  rintro s W hf ⟨hb, hr0, y, c, hr1, hr2, hy, hc, hp⟩ hK
  have e0 := hr1.cell 0
  simp at e0
  have hyy : Hid (y = pr x i n S 0) := by rw [Gt.pr_one _ _ _ _ hf] at hp; exact hp
  go_wp2
  refine ⟨by simp, .inl ⟨_, _, rfl, run_takeDeferred hK, ?_⟩⟩
  exact ⟨_, results_tmp2 rfl _ _ _, by rw [← hyy.out]; rfl, below_grown hb (grownBy_put _ _ _) hb.size (by have := HN.out; omega)⟩
end Go.Proofs.YtaenoiffamgcfaaGreatDoor
namespace Go.Proofs.YtaenoiffamgcfaaGreatDoor
open Gt (nb hf nm pl pr jn)
theorem prB_parts {x : ByteArray} {i n : Int} {k : Nat} {S : Nat → ByteArray} (h : prB x i n k S = true) : x.size = 16 ∧ (k : Int) = plI i n ∧ ∀ j, j < k → (S j).size = 16 := by
 unfold prB at h
 simp only [Bool.and_eq_true, decide_eq_true_eq, aS_iff] at h
 exact ⟨h.1.1, h.1.2, h.2⟩
theorem plI_in {i n : Int} (h : 0 ≤ plI i n) : inT i n = true := by
 unfold plI at h
 by_cases e : inT i n = true
 ·exact e
 ·rw [if_neg e] at h; omega
theorem proofRoot_any (x : ByteArray) (i n : Int) (a : Option Addr) (k cap : Nat) (S : Nat → ByteArray) (w : World) (h : TxtAt w a k S) (hk : k ≤ 1048576) (hL : ∀ i, i < k → (S i).size ≤ maxLen) :
  Calls Tryz.prog 84 #[.string x, .int .i64 i, .int .i64 n, .slice a k cap] w fun e w' => e = .returned (.tuple #[.string (prS x i n k S), .bool (prB x i n k S)]) ∧ Below w.heap.size w w' := by
 unfold prS
 cases hB : prB x i n k S with
 | false => exact proofRoot_no x i n a k cap S w h hk hL hB
 | true =>
  obtain ⟨h1, h2, h3⟩ := prB_parts hB
  have hin := plI_in (i := i) (n := n) (by omega)
  obtain ⟨i', rfl⟩ : ∃ i' : Nat, i = (i' : Int) := ⟨i.toNat, by simp [inT] at hin; omega⟩
  obtain ⟨n', rfl⟩ : ∃ n' : Nat, n = (n' : Int) := ⟨n.toNat, by simp [inT] at hin; omega⟩
  exact proofRoot_in x i' n' a k cap S w h hin h1 (by unfold plI at h2; rw [if_pos hin] at h2; simp at h2; omega) h3
theorem sProofRoot_any (x : ByteArray) (i n : Int) (a : Option Addr) (k cap : Nat) (S : Nat → ByteArray) (w : World) (h : TxtAt w a k S) (hk : k ≤ 1048576) (hL : ∀ i, i < k → (S i).size ≤ maxLen) :
  Calls Tryz.prog 96 #[.string x, .int .i64 i, .int .i64 n, .slice a k cap] w fun e w' => e = .returned (.tuple #[.string (prS x i n k S), .bool (prB x i n k S)]) ∧ Below w.heap.size w w' := by
 have KP : Hid (∀ w0, Calls Tryz.prog 122 #[.int .i64 i, .int .i64 n] w0 fun e w' => e = .returned (.int .i64 (plI i n)) ∧ w' = w0) := fun w0 => sProofLen_any i n w0
 have KV : Hid (Calls Tryz.prog 123 #[.slice a k cap] w fun e w' => e = .returned (.bool (lvB k S)) ∧ w' = w) := sLeaves_any a k cap S w h hk hL
 unfold prS
 obtain ⟨r, hr⟩ : ∃ r, plI i n = r := ⟨_, rfl⟩
 rw [hr] at KP
 cases hB : prB x i n k S with
 | false =>
  have hB' := hB
  unfold prB at hB'
  rw [hr] at hB'
  by_cases h0 : r < 0
  ·clear hB' hr h
   go_enter Tryz.func96, Tryz.ntmps96
   go_wp2_with (go_at_call 122; refine (KP.out _).mono ?_; rintro e w' ⟨rfl, hw⟩; obtain rfl := hw.symm)
   go_ret2
   exact ⟨rfl, Below.refl _ _⟩
  ·have h0' : decide (r < 0) = false := by simpa using h0
   by_cases h16 : x.size = 16
   ·have h16' : ((x.size : Int) != 16) = false := by simp; omega
    by_cases hkr : (k : Int) = r
    ·subst hkr
     have haS : aS k S = false := by simpa [h16] using hB'
     have hk0 : (0 : Int) < (k : Int) := by
      by_cases e : k = 0
      ·subst e; simp [aS] at haS
      ·omega
     have hlv : lvB k S = false := by unfold lvB; rw [haS]; rfl
     rw [hlv] at KV
     have hkk : ((k : Int) != (k : Int)) = false := by simp
     clear hB' hr h hlv haS h16 h0 hB
     go_enter Tryz.func96, Tryz.ntmps96
     go_wp2_with (first | (go_at_call 122; refine (KP.out _).mono ?_; rintro e w' ⟨rfl, hw⟩; obtain rfl := hw.symm) | (go_at_call 123; refine KV.out.mono ?_; rintro e w' ⟨rfl, hw⟩; obtain rfl := hw.symm))
     go_ret2
     exact ⟨rfl, Below.refl _ _⟩
    ·have hkr' : ((k : Int) != r) = true := by simp; exact hkr
     clear hB' hr h hkr h16 h0 hB
     go_enter Tryz.func96, Tryz.ntmps96
     go_wp2_with (go_at_call 122; refine (KP.out _).mono ?_; rintro e w' ⟨rfl, hw⟩; obtain rfl := hw.symm)
     go_ret2
     exact ⟨rfl, Below.refl _ _⟩
   ·have h16' : ((x.size : Int) != 16) = true := by simp; omega
    clear hB' hr h h16 h0 hB
    go_enter Tryz.func96, Tryz.ntmps96
    go_wp2_with (go_at_call 122; refine (KP.out _).mono ?_; rintro e w' ⟨rfl, hw⟩; obtain rfl := hw.symm)
    go_ret2
    exact ⟨rfl, Below.refl _ _⟩
 | true =>
  obtain ⟨h1, h2, h3⟩ := prB_parts hB
  have hin := plI_in (i := i) (n := n) (by omega)
  obtain ⟨i', rfl⟩ : ∃ i' : Nat, i = (i' : Int) := ⟨i.toNat, by simp [inT] at hin; omega⟩
  obtain ⟨n', rfl⟩ : ∃ n' : Nat, n = (n' : Int) := ⟨n.toNat, by simp [inT] at hin; omega⟩
  have hin2 : i' < n' ∧ n' ≤ 64 := by simp [inT] at hin; omega
  have hkp : Hid (k = pl i' n') := by show _ = _; unfold plI at h2; rw [if_pos hin] at h2; simp at h2; omega
  have hk6 : k ≤ 6 := by rw [hkp.out]; exact Gt.pl_le 6 _ _ (by omega)
  rw [hr] at h2
  subst h2
  have hlv : 0 < k → lvB k S = true := fun h0 => by unfold lvB; rw [aS_yes h3, inB_true (by omega)]; rfl
  have h16' : ((x.size : Int) != 16) = false := by simp; omega
  have hkk : ((k : Int) != (k : Int)) = false := by simp
  have h0' : decide ((k : Int) < 0) = false := by simp
  have K3 : Hid (∀ j, j < k → (S j).size = 16) := h3
  have KH : Hid (TxtAt w a k S) := h
  have Hx : Hid (x.size = 16) := h1
  rw [if_pos rfl]
  simp only [Int.toNat_natCast]
  clear hB hr hin h h1 h3 hL hk
  have main : ∀ (Z : ByteArray), Z = pr x i' n' S 0 → Calls Tryz.prog 96 #[.string x, .int .i64 (i' : Int), .int .i64 (n' : Int), .slice a k cap] w fun e w' => e = .returned (.tuple #[.string Z, .bool true]) ∧ Below w.heap.size w w' := by
   intro Z hZ
   have HZ : Hid (Z = pr x i' n' S 0) := hZ
   clear hZ
   go_enter Tryz.func96, Tryz.ntmps96
   by_cases hk0 : (0 : Int) < (k : Int)
   ·have KV2 : Hid (Calls Tryz.prog 123 #[.slice a k cap] w fun e w' => e = .returned (.bool true) ∧ w' = w) := by
     have := KV.out
     rw [hlv (by omega)] at this
     exact this
    clear KV hlv
    go_wp2_with (first | (go_at_call 122; refine (KP.out _).mono ?_; rintro e w' ⟨rfl, hw⟩; obtain rfl := hw.symm) | (go_at_call 123; refine KV2.out.mono ?_; rintro e w' ⟨rfl, hw⟩; obtain rfl := hw.symm))
    go_loopw [0, 1, 2, 11] (fun vx vi vn vc wr => ∃ (y : ByteArray) (p s c : Nat), p < s ∧ s ≤ 64 ∧ y.size = 16 ∧ Hid (c + pl p s = k) ∧ Hid (pr y p s S c = Z) ∧ vx = .string y ∧ vi = .int .i64 (p : Int) ∧ vn = .int .i64 (s : Int) ∧ vc = .int .i64 (c : Int) ∧ Below w.heap.size w wr) (fun _ _ vn _ _ => (intOf vn).toNat)
    case atStart => exact ⟨x, i', n', 0, hin2.1, hin2.2, Hx.out, by show 0 + _ = _; rw [Nat.zero_add]; exact hkp.out.symm, HZ.out.symm, rfl, rfl, rfl, rfl, Below.refl _ _⟩
    case round =>
     obtain ⟨y, p, s, c, hp, hs, hy, HC, HP, rfl, rfl, rfl, rfl, hbel⟩ := hrel
     clear h16' hkk h0'
     by_cases h1 : s ≤ 1
     ·have h1' : ¬ (1 : Int) < (s : Int) := by omega
      have HE : Hid (y = Z) := by have := HP.out; rw [Gt.pr_one _ _ _ _ h1] at this; exact this
      go_wp2
      go_ret2
      exact ⟨by rw [← HE.out]; rfl, hbel⟩
     ·have h1' : (1 : Int) < (s : Int) := by omega
      obtain ⟨u1, u2, u3, u4, u5, u6, u7, u8, u9⟩ := up_nums p s hp hs
      have hlt2 : p / 2 < hf s ∧ hf s < s := by unfold hf; omega
      by_cases hb : nb p < s
      ·have HC2 : Hid (c + 1 + pl (p / 2) (hf s) = k) := by have := HC.out; rw [Gt.pl_yes p h1 hb] at this; show _ = _; omega
       have hck : c < k := by have := HC2.out; omega
       have hcki : (c : Int) < (k : Int) := by omega
       have hb' : ((nb p : Nat) : Int) < (s : Int) := by omega
       have hs16 := K3.out c hck
       obtain ⟨b', off, rfl, hcc⟩ := (KH.out.below hbel) c hck
       by_cases hev : p % 2 = 0
       ·have hev' : ((p : Int) % 2 == 0) = true := by simp; omega
        have HJ : Hid (∀ w0, Calls Tryz.prog 124 #[.string y, .string (S c)] w0 fun e w' => e = .returned (.string (jn y (S c))) ∧ Below w0.heap.size w0 w') := fun w0 => sjoin_any _ _ w0 (by omega) (by omega)
        have HP2 : Hid (pr (jn y (S c)) (p / 2) (hf s) S (c + 1) = Z) := by
         show _ = _
         rw [← HP.out, Gt.pr_yes y p S c h1 hb, if_pos hev]
        have HZ2 : Hid ((jn y (S c)).size = 16) := Gt.jn_size _ _
        generalize jn y (S c) = z at HJ HP2 HZ2
        generalize S c = sc at HJ hcc
        generalize nb p = q at u4 hb'
        generalize p / 2 = p' at u5 u6 hlt2 HC2 HP2
        generalize hf s = s' at u8 u9 hlt2 HC2 HP2
        clear hev hb HP HC hs16
        go_wp2_with fail
        refine (HJ.out _).mono ?_
        rintro e w9 ⟨rfl, hb9⟩
        have hbw := hbel.trans (hb9.mono hbel.size)
        go_wp2
        go_roundw
        case rel => exact ⟨z, p', s', c + 1, by omega, by omega, HZ2.out, HC2, HP2, rfl, rfl, rfl, by go_num, hbw⟩
        case measure => simp [intOf]; omega
       ·have hev' : ((p : Int) % 2 == 0) = false := by simp; omega
        have HJ : Hid (∀ w0, Calls Tryz.prog 124 #[.string (S c), .string y] w0 fun e w' => e = .returned (.string (jn (S c) y)) ∧ Below w0.heap.size w0 w') := fun w0 => sjoin_any _ _ w0 (by omega) (by omega)
        have HP2 : Hid (pr (jn (S c) y) (p / 2) (hf s) S (c + 1) = Z) := by
         show _ = _
         rw [← HP.out, Gt.pr_yes y p S c h1 hb, if_neg hev]
        have HZ2 : Hid ((jn (S c) y).size = 16) := Gt.jn_size _ _
        generalize jn (S c) y = z at HJ HP2 HZ2
        generalize S c = sc at HJ hcc
        generalize nb p = q at u4 hb'
        generalize p / 2 = p' at u5 u6 hlt2 HC2 HP2
        generalize hf s = s' at u8 u9 hlt2 HC2 HP2
        clear hev hb HP HC hs16
        go_wp2_with fail
        refine (HJ.out _).mono ?_
        rintro e w9 ⟨rfl, hb9⟩
        have hbw := hbel.trans (hb9.mono hbel.size)
        go_wp2
        go_roundw
        case rel => exact ⟨z, p', s', c + 1, by omega, by omega, HZ2.out, HC2, HP2, rfl, rfl, rfl, by go_num, hbw⟩
        case measure => simp [intOf]; omega
      ·have HC2 : Hid (c + pl (p / 2) (hf s) = k) := by have := HC.out; rw [Gt.pl_no p h1 hb] at this; exact this
       have HP2 : Hid (pr y (p / 2) (hf s) S c = Z) := by have := HP.out; rw [Gt.pr_no y p S c h1 hb] at this; exact this
       have hb' : ¬ ((nb p : Nat) : Int) < (s : Int) := by omega
       generalize nb p = q at u4 hb'
       generalize p / 2 = p' at u5 u6 hlt2 HC2 HP2
       generalize hf s = s' at u8 u9 hlt2 HC2 HP2
       clear hb HP HC
       go_wp2
       go_roundw
       case rel => exact ⟨y, p', s', c, by omega, by omega, hy, HC2, HP2, rfl, rfl, rfl, rfl, hbel⟩
       case measure => simp [intOf]; omega
   ·clear KV hlv
    go_wp2_with (go_at_call 122; refine (KP.out _).mono ?_; rintro e w' ⟨rfl, hw⟩; obtain rfl := hw.symm)
    go_loopw [0, 1, 2, 11] (fun vx vi vn vc wr => ∃ (y : ByteArray) (p s c : Nat), p < s ∧ s ≤ 64 ∧ y.size = 16 ∧ Hid (c + pl p s = k) ∧ Hid (pr y p s S c = Z) ∧ vx = .string y ∧ vi = .int .i64 (p : Int) ∧ vn = .int .i64 (s : Int) ∧ vc = .int .i64 (c : Int) ∧ Below w.heap.size w wr) (fun _ _ vn _ _ => (intOf vn).toNat)
    case atStart => exact ⟨x, i', n', 0, hin2.1, hin2.2, Hx.out, by show 0 + _ = _; rw [Nat.zero_add]; exact hkp.out.symm, HZ.out.symm, rfl, rfl, rfl, rfl, Below.refl _ _⟩
    case round =>
     obtain ⟨y, p, s, c, hp, hs, hy, HC, HP, rfl, rfl, rfl, rfl, hbel⟩ := hrel
     clear h16' hkk h0'
     by_cases h1 : s ≤ 1
     ·have h1' : ¬ (1 : Int) < (s : Int) := by omega
      have HE : Hid (y = Z) := by have := HP.out; rw [Gt.pr_one _ _ _ _ h1] at this; exact this
      go_wp2
      go_ret2
      exact ⟨by rw [← HE.out]; rfl, hbel⟩
     ·have h1' : (1 : Int) < (s : Int) := by omega
      obtain ⟨u1, u2, u3, u4, u5, u6, u7, u8, u9⟩ := up_nums p s hp hs
      have hlt2 : p / 2 < hf s ∧ hf s < s := by unfold hf; omega
      by_cases hb : nb p < s
      ·have HC2 : Hid (c + 1 + pl (p / 2) (hf s) = k) := by have := HC.out; rw [Gt.pl_yes p h1 hb] at this; show _ = _; omega
       have hck : c < k := by have := HC2.out; omega
       have hcki : (c : Int) < (k : Int) := by omega
       have hb' : ((nb p : Nat) : Int) < (s : Int) := by omega
       have hs16 := K3.out c hck
       obtain ⟨b', off, rfl, hcc⟩ := (KH.out.below hbel) c hck
       by_cases hev : p % 2 = 0
       ·have hev' : ((p : Int) % 2 == 0) = true := by simp; omega
        have HJ : Hid (∀ w0, Calls Tryz.prog 124 #[.string y, .string (S c)] w0 fun e w' => e = .returned (.string (jn y (S c))) ∧ Below w0.heap.size w0 w') := fun w0 => sjoin_any _ _ w0 (by omega) (by omega)
        have HP2 : Hid (pr (jn y (S c)) (p / 2) (hf s) S (c + 1) = Z) := by
         show _ = _
         rw [← HP.out, Gt.pr_yes y p S c h1 hb, if_pos hev]
        have HZ2 : Hid ((jn y (S c)).size = 16) := Gt.jn_size _ _
        generalize jn y (S c) = z at HJ HP2 HZ2
        generalize S c = sc at HJ hcc
        generalize nb p = q at u4 hb'
        generalize p / 2 = p' at u5 u6 hlt2 HC2 HP2
        generalize hf s = s' at u8 u9 hlt2 HC2 HP2
        clear hev hb HP HC hs16
        go_wp2_with fail
        refine (HJ.out _).mono ?_
        rintro e w9 ⟨rfl, hb9⟩
        have hbw := hbel.trans (hb9.mono hbel.size)
        go_wp2
        go_roundw
        case rel => exact ⟨z, p', s', c + 1, by omega, by omega, HZ2.out, HC2, HP2, rfl, rfl, rfl, by go_num, hbw⟩
        case measure => simp [intOf]; omega
       ·have hev' : ((p : Int) % 2 == 0) = false := by simp; omega
        have HJ : Hid (∀ w0, Calls Tryz.prog 124 #[.string (S c), .string y] w0 fun e w' => e = .returned (.string (jn (S c) y)) ∧ Below w0.heap.size w0 w') := fun w0 => sjoin_any _ _ w0 (by omega) (by omega)
        have HP2 : Hid (pr (jn (S c) y) (p / 2) (hf s) S (c + 1) = Z) := by
         show _ = _
         rw [← HP.out, Gt.pr_yes y p S c h1 hb, if_neg hev]
        have HZ2 : Hid ((jn (S c) y).size = 16) := Gt.jn_size _ _
        generalize jn (S c) y = z at HJ HP2 HZ2
        generalize S c = sc at HJ hcc
        generalize nb p = q at u4 hb'
        generalize p / 2 = p' at u5 u6 hlt2 HC2 HP2
        generalize hf s = s' at u8 u9 hlt2 HC2 HP2
        clear hev hb HP HC hs16
        go_wp2_with fail
        refine (HJ.out _).mono ?_
        rintro e w9 ⟨rfl, hb9⟩
        have hbw := hbel.trans (hb9.mono hbel.size)
        go_wp2
        go_roundw
        case rel => exact ⟨z, p', s', c + 1, by omega, by omega, HZ2.out, HC2, HP2, rfl, rfl, rfl, by go_num, hbw⟩
        case measure => simp [intOf]; omega
      ·have HC2 : Hid (c + pl (p / 2) (hf s) = k) := by have := HC.out; rw [Gt.pl_no p h1 hb] at this; exact this
       have HP2 : Hid (pr y (p / 2) (hf s) S c = Z) := by have := HP.out; rw [Gt.pr_no y p S c h1 hb] at this; exact this
       have hb' : ¬ ((nb p : Nat) : Int) < (s : Int) := by omega
       generalize nb p = q at u4 hb'
       generalize p / 2 = p' at u5 u6 hlt2 HC2 HP2
       generalize hf s = s' at u8 u9 hlt2 HC2 HP2
       clear hb HP HC
       go_wp2
       go_roundw
       case rel => exact ⟨y, p', s', c, by omega, by omega, hy, HC2, HP2, rfl, rfl, rfl, rfl, hbel⟩
       case measure => simp [intOf]; omega
  exact main _ rfl
end Go.Proofs.YtaenoiffamgcfaaGreatDoor
namespace Go.Proofs.YtaenoiffamgcfaaGreatDoor
open Go.ChangeShapes Go.WideShapes Go.ChangeAt Go.RowKit Go.Shelf
open Gt (hf up)
end Go.Proofs.YtaenoiffamgcfaaGreatDoor
namespace Go.Proofs.YtaenoiffamgcfaaGreatDoor
def pvB (r x : ByteArray) (i n : Int) (k : Nat) (S : Nat → ByteArray) : Bool := prB x i n k S && decide (prS x i n k S = r)
theorem proved_any (r x : ByteArray) (i n : Int) (a : Option Addr) (k cap : Nat) (S : Nat → ByteArray) (w : World) (h : TxtAt w a k S) (hk : k ≤ 1048576) (hL : ∀ i, i < k → (S i).size ≤ maxLen) :
  Calls Tryz.prog 55 #[.string r, .string x, .int .i64 i, .int .i64 n, .slice a k cap] w fun e w' => e = .returned (.bool (pvB r x i n k S)) ∧ Below w.heap.size w w' := by
 have KP : Hid (Calls Tryz.prog 84 #[.string x, .int .i64 i, .int .i64 n, .slice a k cap] w fun e w' => e = .returned (.tuple #[.string (prS x i n k S), .bool (prB x i n k S)]) ∧ Below w.heap.size w w') := proofRoot_any x i n a k cap S w h hk hL
 unfold pvB
 clear h hL
 generalize prS x i n k S = z at KP
 generalize prB x i n k S = d at KP
 cases d with
 | false =>
  go_enter Tryz.func55, Tryz.ntmps55
  go_wp2_with fail
  refine KP.out.mono ?_
  rintro e w1 ⟨rfl, hb⟩
  go_wp2
  go_ret
  exact ⟨rfl, hb⟩
 | true =>
  by_cases hz : z = r
  ·subst hz
   have hq := ba_beq z
   go_enter Tryz.func55, Tryz.ntmps55
   go_wp2_with fail
   refine KP.out.mono ?_
   rintro e w1 ⟨rfl, hb⟩
   go_wp2
   go_ret
   exact ⟨by simp, hb⟩
  ·have hq := ba_ne hz
   have HZ : Hid (decide (z = r) = false) := by show _ = _; simpa using hz
   clear hz
   go_enter Tryz.func55, Tryz.ntmps55
   go_wp2_with fail
   refine KP.out.mono ?_
   rintro e w1 ⟨rfl, hb⟩
   go_wp2
   go_ret
   exact ⟨by rw [HZ.out]; rfl, hb⟩
theorem sProved_any (r x : ByteArray) (i n : Int) (a : Option Addr) (k cap : Nat) (S : Nat → ByteArray) (w : World) (h : TxtAt w a k S) (hk : k ≤ 1048576) (hL : ∀ i, i < k → (S i).size ≤ maxLen) :
  Calls Tryz.prog 64 #[.string r, .string x, .int .i64 i, .int .i64 n, .slice a k cap] w fun e w' => e = .returned (.bool (pvB r x i n k S)) ∧ Below w.heap.size w w' := by
 have KP : Hid (Calls Tryz.prog 96 #[.string x, .int .i64 i, .int .i64 n, .slice a k cap] w fun e w' => e = .returned (.tuple #[.string (prS x i n k S), .bool (prB x i n k S)]) ∧ Below w.heap.size w w') := sProofRoot_any x i n a k cap S w h hk hL
 unfold pvB
 clear h hL
 generalize prS x i n k S = z at KP
 generalize prB x i n k S = d at KP
 cases d with
 | false =>
  go_enter Tryz.func64, Tryz.ntmps64
  go_wp2_with fail
  refine KP.out.mono ?_
  rintro e w1 ⟨rfl, hb⟩
  go_wp2
  go_ret
  exact ⟨rfl, hb⟩
 | true =>
  by_cases hz : z = r
  ·subst hz
   have hq := ba_beq z
   go_enter Tryz.func64, Tryz.ntmps64
   go_wp2_with fail
   refine KP.out.mono ?_
   rintro e w1 ⟨rfl, hb⟩
   go_wp2
   go_ret
   exact ⟨by simp, hb⟩
  ·have hq := ba_ne hz
   have HZ : Hid (decide (z = r) = false) := by show _ = _; simpa using hz
   clear hz
   go_enter Tryz.func64, Tryz.ntmps64
   go_wp2_with fail
   refine KP.out.mono ?_
   rintro e w1 ⟨rfl, hb⟩
   go_wp2
   go_ret
   exact ⟨by rw [HZ.out]; rfl, hb⟩
end Go.Proofs.YtaenoiffamgcfaaGreatDoor
namespace Go.Proofs.YtaenoiffamgcfaaGreatDoor
open Go.ChangeShapes Go.WideShapes Go.ChangeAt Go.RowKit Go.Shelf
open Gt (hf up rt)
def rtS (n : Nat) (S : Nat → ByteArray) : ByteArray := if lvB n S = true then rt n S else ⟨#[]⟩
theorem lvB_parts {n : Nat} {S : Nat → ByteArray} (h : lvB n S = true) : 1 ≤ n ∧ n ≤ 64 ∧ ∀ i, i < n → (S i).size = 16 := by
 unfold lvB at h
 rw [Bool.and_eq_true] at h
 have h2 := h.2
 unfold inB at h2
 simp at h2
 exact ⟨by omega, by omega, aS_iff.1 h.1⟩
end Go.Proofs.YtaenoiffamgcfaaGreatDoor
namespace Go.Proofs.YtaenoiffamgcfaaGreatDoor
open Go.ChangeShapes Go.WideShapes Go.ChangeAt Go.RowKit Go.Shelf
open Gt (hf up nb pl)
def pfB (n : Nat) (S : Nat → ByteArray) (i : Int) : Bool := lvB n S && inT i (n : Int)
def pfR (n : Nat) (S : Nat → ByteArray) (i : Int) : Nat := if pfB n S i = true then pl i.toNat n else 0
def pfF (n : Nat) (S : Nat → ByteArray) (i : Int) : Nat → ByteArray := Gt.pf n S i.toNat
end Go.Proofs.YtaenoiffamgcfaaGreatDoor
