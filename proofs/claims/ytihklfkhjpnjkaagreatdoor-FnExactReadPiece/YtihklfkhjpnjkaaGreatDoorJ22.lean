import Derived.Test.YtihklfkhjpnjkaaGreatDoorJ8
import Derived.Test.YtihklfkhjpnjkaaGreatDoorJ20
import Derived.Lib.Strings
import Derived.Lib.Walk
import Derived.Lib.BufferWrite
import Derived.Lib.UnsafeStr
import Derived.Lib.Hide
import Derived.Laws.MakeOwn
import Derived.Test.YtihklfkhjpnjkaaGreatDoorJ15
import Derived.Test.YtihklfkhjpnjkaaGreatDoorJ1
import Derived.Test.YtihklfkhjpnjkaaGreatDoorJ4
import Derived.Laws.CopyRow
import Derived.Test.YtihklfkhjpnjkaaGreatDoorJ21
import Derived.Test.YtihklfkhjpnjkaaGreatDoorJ14
set_option maxHeartbeats 8000000
set_option maxRecDepth 2000
open Go.ChangeShapes Go.WideShapes Go.ChangeAt Go.RowKit
namespace Go.Proofs.YtihklfkhjpnjkaaGreatDoor
def aS (n : Nat) (S : Nat → ByteArray) : Bool := decide (∀ i, i < n → (S i).size = 16)
theorem aS_yes {n : Nat} {S : Nat → ByteArray} (h : ∀ i, i < n → (S i).size = 16) : aS n S = true := by unfold aS; simpa using h
theorem aS_no {n k : Nat} {S : Nat → ByteArray} (hk : k < n) (h : (S k).size ≠ 16) : aS n S = false := by unfold aS; simp; exact ⟨k, hk, h⟩
theorem aS_iff {n : Nat} {S : Nat → ByteArray} : aS n S = true ↔ ∀ i, i < n → (S i).size = 16 := by unfold aS; simp
theorem areSums_any (a : Option Addr) (n cap : Nat) (S : Nat → ByteArray) (w : World) (h : TxtAt w a n S) (hn : n ≤ 1048576) (hL : ∀ i, i < n → (S i).size ≤ maxLen) :
  Calls Tryz.prog 117 #[.slice a n cap] w fun e w' => e = .returned (.bool (aS n S)) ∧ w' = w := by
 unfold maxLen at hL
 have KH : Hid (TxtAt w a n S) := h
 have KL : Hid (∀ i, i < n → (S i).size ≤ 9223372036854775807) := hL
 clear h hL
 go_enter Tryz.func117, Tryz.ntmps117
 go_wp2
 go_loop [7] (fun i => ∃ k : Nat, k ≤ n ∧ i = .int .i64 k ∧ Hid (∀ i, i < k → (S i).size = 16)) (fun i => n - (intOf i).toNat)
 case atStart => exact ⟨0, Nat.zero_le _, rfl, fun i hi => by omega⟩
 case round =>
  obtain ⟨k, hk, rfl, HS⟩ := hrel
  by_cases hlt : k < n
  ·obtain ⟨b, off, rfl, hc⟩ := KH.out k hlt
   have hlti : (k : Int) < (n : Int) := by omega
   have hl := KL.out k hlt
   obtain ⟨s, hs⟩ : ∃ s, S k = s := ⟨_, rfl⟩
   rw [hs] at hc hl
   by_cases h16 : s.size = 16
   ·have h16' : (s.size : Int) = 16 := by omega
    have HS2 : Hid (∀ i, i < k + 1 → (S i).size = 16) := fun i hi => by
     by_cases e : i = k
     ·subst e; rw [hs]; exact h16
     ·exact HS.out i (by omega)
    clear h16 hs
    go_wp2
    go_round
    case rel => exact ⟨k + 1, by omega, by go_num, HS2⟩
    case measure => simp [intOf]; omega
   ·have h16' : ((s.size : Int) != 16) = true := by simp; omega
    have HE : Hid (aS n S = false) := aS_no hlt (by rw [hs]; exact h16)
    clear h16 hs
    go_wp2
    go_ret
    exact ⟨by rw [HE.out]; rfl, rfl⟩
  ·obtain rfl : k = n := by omega
   have HE : Hid (aS k S = true) := aS_yes HS.out
   go_wp2
   go_ret
   exact ⟨by rw [HE.out]; rfl, rfl⟩
def lvB (n : Nat) (S : Nat → ByteArray) : Bool := aS n S && inB (n : Int) 1 64
theorem sLeaves_any (a : Option Addr) (n cap : Nat) (S : Nat → ByteArray) (w : World) (h : TxtAt w a n S) (hn : n ≤ 1048576) (hL : ∀ i, i < n → (S i).size ≤ maxLen) :
  Calls Tryz.prog 114 #[.slice a n cap] w fun e w' => e = .returned (.bool (lvB n S)) ∧ w' = w := by
 unfold maxLen at hL
 have KH : Hid (TxtAt w a n S) := h
 have KL : Hid (∀ i, i < n → (S i).size ≤ 9223372036854775807) := hL
 clear h hL
 go_enter Tryz.func114, Tryz.ntmps114
 go_wp2
 go_loop [3] (fun i => ∃ k : Nat, k ≤ n ∧ i = .int .i64 k ∧ Hid (∀ i, i < k → (S i).size = 16)) (fun i => n - (intOf i).toNat)
 case atStart => exact ⟨0, Nat.zero_le _, rfl, fun i hi => by omega⟩
 case round =>
  obtain ⟨k, hk, rfl, HS⟩ := hrel
  by_cases hlt : k < n
  ·obtain ⟨b, off, rfl, hc⟩ := KH.out k hlt
   have hlti : (k : Int) < (n : Int) := by omega
   have hl := KL.out k hlt
   obtain ⟨s, hs⟩ : ∃ s, S k = s := ⟨_, rfl⟩
   rw [hs] at hc hl
   by_cases h16 : s.size = 16
   ·have h16' : (s.size : Int) = 16 := by omega
    have HS2 : Hid (∀ i, i < k + 1 → (S i).size = 16) := fun i hi => by
     by_cases e : i = k
     ·subst e; rw [hs]; exact h16
     ·exact HS.out i (by omega)
    clear h16 hs
    go_wp2
    go_round
    case rel => exact ⟨k + 1, by omega, by go_num, HS2⟩
    case measure => simp [intOf]; omega
   ·have h16' : ((s.size : Int) != 16) = true := by simp; omega
    have HE : Hid (lvB n S = false) := by show _ = _; unfold lvB; rw [aS_no hlt (by rw [hs]; exact h16)]; rfl
    clear h16 hs
    go_wp2
    go_ret
    exact ⟨by rw [HE.out]; rfl, rfl⟩
  ·obtain rfl : k = n := by omega
   have HE : Hid (lvB k S = inB (k : Int) 1 64) := by show _ = _; unfold lvB; rw [aS_yes HS.out]; rfl
   go_wp2_with (go_at_call 60; refine (sIn_any _ _ _ _).mono ?_; rintro e w' ⟨rfl, hw⟩; obtain rfl := hw.symm)
   go_ret
   exact ⟨by rw [HE.out]; rfl, rfl⟩
set_option maxRecDepth 100000 in
theorem cloneLite_any (s : ByteArray) (w : World) (hlim : s.size ≤ 1048576) :
  Calls Tryz.prog 109 #[.string s] w fun e w' => e = .returned (.string s) ∧ Below w.heap.size w w' := by
 by_cases h0 : s.size = 0
 ·have hs : s = ⟨#[]⟩ := by
   apply ByteArray.ext
   exact Array.eq_empty_of_size_eq_zero h0
  subst hs
  go_enter Tryz.func109, Tryz.ntmps109
  go_wp2
  go_ret
  exact ⟨rfl, Below.refl _ _⟩
 ·obtain ⟨i0, hi, hz0, hz1, hz2⟩ := info_parts Tryz.infoByte
  have hinfo : (Tryz.prog.info? 5).map (·.size) = some 1 := by rw [hi]; simp [hz1]
  have hco : Tryz.prog.cellsOf 5 = 1 := by simp [Program.cellsOf, hi, hz1]
  obtain ⟨M, hM⟩ : ∃ M, M = madeCells (Value.int .u8 0).cells (((s.size : Nat) : Int).toNat * i0.size) := ⟨_, rfl⟩
  have hMs : M.size = s.size := by rw [hM, size_madeCells, hz1]; simp
  have hmk : ∀ W : World, (Instr.makeSlice 22 (.int .i64 (s.size : Int)) (.int .i64 (s.size : Int))).run Tryz.prog W = .ok (.slice (some ⟨W.heap.size, 0, none⟩) s.size s.size) (W.alloc (.cells M 5)) := fun W => by
   have h := run_make (P := Tryz.prog) W 22 5 i0 (.int .u8 0) Tryz.underlying22 hi hz0 .i64 .i64 (s.size : Int) (s.size : Int) (by omega) (by omega) (by rw [hz2]; omega) (by omega)
   rw [← hM] at h
   simpa using h
  clear hM
  have hcp := Lib.run_copy_row_string (P := Tryz.prog) (w.alloc (.cells M 5)) 22 9 3 5 w.heap.size 0 s.size s.size s M 5 Tryz.underlying22 hinfo (heap_alloc_new w _) (Nat.le_refl _) (by omega)
  obtain ⟨Y, hY⟩ : ∃ Y, Y = (M.toList.take 0 ++ Lib.byteCells s.data.toList ++ M.toList.drop (0 + s.size)).toArray := ⟨_, rfl⟩
  rw [← hY] at hcp
  have hYl : Y.toList = Lib.byteCells s.data.toList := by
   rw [hY, List.toList_toArray, List.take_zero, List.nil_append, List.drop_of_length_le (by rw [Array.length_toList]; omega), List.append_nil]
  have hYs : Y.size = s.size := by rw [← Array.length_toList, hYl, Lib.byteCells_length, ← Lib.size_eq]
  have hgY : ((w.alloc (.cells M 5)).setRow w.heap.size Y).heap[w.heap.size]? = some (.cells Y 5 (0, 0)) := setRow_heap _ _ M _ 5 (0, 0) (heap_alloc_new w _)
  have hne : s.data.toList ≠ [] := fun e => h0 (by rw [Lib.size_eq, e]; rfl)
  have hUS := Lib.run_unsafeString_row (P := Tryz.prog) ((w.alloc (.cells M 5)).setRow w.heap.size Y) 150 3 9 5 Tryz.underlying150 hco w.heap.size Y.size (by unfold World.shape?; rw [hgY]) s.data.toList hne (by rw [← Lib.size_eq]; omega) (by rw [← Lib.size_eq]; omega)
   (fun j x hx => Lib.cells_of_row hgY Y.size j _ (by rw [List.take_of_length_le (by rw [Array.length_toList]; exact Nat.le_refl _), hYl]; simp [Lib.byteCells, hx]))
  rw [← Lib.size_eq] at hUS
  clear hY
  go_enter Tryz.func109, Tryz.ntmps109
  go_wp2
  go_ret
  have hb1 : Below w.heap.size w (w.alloc (.cells M 5)) := (Below.refl _ w).alloc (Nat.le_refl _) _
  have hb2 : Below w.heap.size (w.alloc (.cells M 5)) ((w.alloc (.cells M 5)).setRow w.heap.size Y) := ⟨rfl, rfl, rfl, by simp, fun k hk => setRow_other _ _ _ _ (by omega)⟩
  exact ⟨rfl, Lib.below_freeze (hb1.trans hb2) (p := ⟨w.heap.size, 0, none⟩) (Nat.le_refl _) _⟩
theorem clone_any (s : ByteArray) (w : World) (hlim : s.size ≤ 1048576) :
  Calls Tryz.prog 74 #[.string s] w fun e w' => e = .returned (.string s) ∧ Below w.heap.size w w' := by
 go_enter Tryz.func74, Tryz.ntmps74
 go_wp2_with fail
 refine (cloneLite_any s _ hlim).mono ?_
 rintro e w1 ⟨rfl, b1⟩
 go_wp2
 go_ret
 exact ⟨rfl, b1⟩
end Go.Proofs.YtihklfkhjpnjkaaGreatDoor
namespace Go.Proofs.YtihklfkhjpnjkaaGreatDoor
open Go.ChangeShapes Go.WideShapes Go.ChangeAt Go.RowKit Go.Shelf
open Gt (nb hf nm pl pr jn)
def prB (x : ByteArray) (i n : Int) (k : Nat) (S : Nat → ByteArray) : Bool := decide (x.size = 16) && decide ((k : Int) = plI i n) && aS k S
def prS (x : ByteArray) (i n : Int) (k : Nat) (S : Nat → ByteArray) : ByteArray := if prB x i n k S = true then pr x i.toNat n.toNat S 0 else ⟨#[]⟩
theorem proofRoot_no (x : ByteArray) (i n : Int) (a : Option Addr) (k cap : Nat) (S : Nat → ByteArray) (w : World) (h : TxtAt w a k S) (hk : k ≤ 1048576) (hL : ∀ i, i < k → (S i).size ≤ maxLen) (hno : prB x i n k S = false) :
  Calls Tryz.prog 80 #[.string x, .int .i64 i, .int .i64 n, .slice a k cap] w fun e w' => e = .returned (.tuple #[.string ⟨#[]⟩, .bool false]) ∧ Below w.heap.size w w' := by
 obtain ⟨w1, HW1⟩ : ∃ w1, Hid (w1 = w.alloc (.cells #[.slice a k cap] 31)) := ⟨_, rfl⟩
 have K1 : Hid (Row w1 w.heap.size 31 #[.slice a k cap] ∧ Below w.heap.size w w1) := by rw [HW1.out]; exact ⟨Row.new w _ _, (Below.refl _ _).alloc (Nat.le_refl _) _⟩
 have KP : Hid (∀ w0, Calls Tryz.prog 116 #[.int .i64 i, .int .i64 n] w0 fun e w' => e = .returned (.int .i64 (plI i n)) ∧ Below w0.heap.size w0 w') := fun w0 => proofLen_any i n w0
 have KA : Hid (∀ W, Below w.heap.size w W → Calls Tryz.prog 117 #[.slice a k cap] W fun e w' => e = .returned (.bool (aS k S)) ∧ w' = W) := fun W hb => areSums_any a k cap S W (h.below hb) hk hL
 have hc := K1.out.1.cell 0
 have hlt := K1.out.1.lt
 simp at hc
 obtain ⟨r, hr⟩ : ∃ r, plI i n = r := ⟨_, rfl⟩
 rw [hr] at KP
 unfold prB at hno
 rw [hr] at hno
 by_cases h16 : x.size = 16
 ·have h16' : ((x.size : Int) != 16) = false := by simp; omega
  by_cases hkr : (k : Int) = r
  ·have hkr' : ((k : Int) != r) = false := by simp; exact hkr
   have haS : aS k S = false := by simpa [h16, hkr] using hno
   rw [haS] at KA
   clear h hL hno h16 hkr haS hr
   go_enter Tryz.func80, Tryz.ntmps80
   go_wp2_with fail
   rw [← HW1.out]
   go_region_held3 (fun w' => w'.cell? ⟨w.heap.size, 0, none⟩ = some (.slice a k cap)) (go_keep) ((first | (go_at_call 116; refine Calls.mono (KP.out _) ?_; rintro e w5 ⟨rfl, hb5'⟩; have hb5 := below_of_drew hb5'; clear hb5'; have h50 := (hb5.cell (p := ⟨w.heap.size, 0, none⟩) hlt).trans hc) | (guard_hyp hb5; go_at_call 117; refine Calls.mono (KA.out _ (K1.out.2.trans (hb5.mono K1.out.2.size))) ?_; rintro e w6 ⟨rfl, hw6⟩; obtain rfl := hw6.symm)))
   go_wp2
   go_ret2
   exact ⟨rfl, K1.out.2.trans (hb5.mono K1.out.2.size)⟩
  ·have hkr' : ((k : Int) != r) = true := by simp; exact hkr
   clear h hL hno h16 hkr hr KA
   go_enter Tryz.func80, Tryz.ntmps80
   go_wp2_with fail
   rw [← HW1.out]
   go_region_with (go_at_call 116; refine Calls.mono (KP.out _) ?_; rintro e w5 ⟨rfl, hb5'⟩; have hb5 := below_of_drew hb5'; clear hb5'; have h50 := (hb5.cell (p := ⟨w.heap.size, 0, none⟩) hlt).trans hc)
   all_goals go_wp2
   all_goals go_ret2
   all_goals exact ⟨rfl, K1.out.2.trans (hb5.mono K1.out.2.size)⟩
 ·have h16' : ((x.size : Int) != 16) = true := by simp; omega
  clear h hL hno h16 hr KA
  go_enter Tryz.func80, Tryz.ntmps80
  go_wp2_with fail
  rw [← HW1.out]
  go_quiet (fail)
  go_wp2
  go_ret2
  exact ⟨rfl, belowDrewN K1.out.2 _⟩
end Go.Proofs.YtihklfkhjpnjkaaGreatDoor
namespace Go.Proofs.YtihklfkhjpnjkaaGreatDoor
open Go.RowKit
section
variable {P : Program} {F : Fence} {n : Nat} {ops : Array Oper} {rest : List Oper} {o : Oper} {a : Act} {w : World} {Q : Exit → Act → World → Prop}
end
section
variable {F : Fence} {n : Nat} {ops : Array Oper} {rest : List Oper} {o : Oper} {a : Act} {w : World} {Q : Exit → Act → World → Prop}
end
end Go.Proofs.YtihklfkhjpnjkaaGreatDoor
namespace Go.Proofs.YtihklfkhjpnjkaaGreatDoor
open Gt (nb hf up jn)
end Go.Proofs.YtihklfkhjpnjkaaGreatDoor
namespace Go.Proofs.YtihklfkhjpnjkaaGreatDoor
end Go.Proofs.YtihklfkhjpnjkaaGreatDoor
namespace Go.Proofs.YtihklfkhjpnjkaaGreatDoor
open Go.ChangeShapes Go.WideShapes Go.ChangeAt Go.RowKit Go.Shelf
open Gt (hf up)
end Go.Proofs.YtihklfkhjpnjkaaGreatDoor
namespace Go.Proofs.YtihklfkhjpnjkaaGreatDoor
open Go.ChangeShapes Go.WideShapes Go.ChangeAt Go.RowKit Go.Shelf
open Gt (hf up rt)
end Go.Proofs.YtihklfkhjpnjkaaGreatDoor
namespace Go.Proofs.YtihklfkhjpnjkaaGreatDoor
open Go.ChangeShapes Go.WideShapes Go.ChangeAt Go.RowKit Go.Shelf
open Gt (hf up nb pl)
end Go.Proofs.YtihklfkhjpnjkaaGreatDoor
namespace Go.Proofs.YtihklfkhjpnjkaaGreatDoor
open Gt (hf up rt)
end Go.Proofs.YtihklfkhjpnjkaaGreatDoor
namespace Go.Proofs.YtihklfkhjpnjkaaGreatDoor
open Go.ChangeShapes Go.WideShapes Go.ChangeAt Go.RowKit Go.Shelf
open Gt (hf up nb pl)
end Go.Proofs.YtihklfkhjpnjkaaGreatDoor
namespace Go.Proofs.YtihklfkhjpnjkaaGreatDoor
open Gt (hf up nb pl)
end Go.Proofs.YtihklfkhjpnjkaaGreatDoor
namespace Go.Proofs.YtihklfkhjpnjkaaGreatDoor
end Go.Proofs.YtihklfkhjpnjkaaGreatDoor
