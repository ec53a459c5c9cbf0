import Derived.Test.YtodnodekheaacaaGreatDoorI7
import Derived.Test.YtodnodekheaacaaGreatDoorI11
import Derived.Lib.Strings
import Derived.Lib.Walk
import Derived.Lib.BufferWrite
import Derived.Lib.UnsafeStr
import Derived.Lib.Hide
import Derived.Laws.MakeOwn
import Derived.Test.YtodnodekheaacaaGreatDoorI5
import Derived.Test.YtodnodekheaacaaGreatDoorI4
import Derived.Laws.CopyRow
set_option maxHeartbeats 8000000
set_option maxRecDepth 2000
open Go.ChangeShapes Go.WideShapes Go.ChangeAt Go.RowKit
namespace Go.Proofs.YtodnodekheaacaaGreatDoor
def aS (n : Nat) (S : Nat → ByteArray) : Bool := decide (∀ i, i < n → (S i).size = 16)
theorem aS_yes {n : Nat} {S : Nat → ByteArray} (h : ∀ i, i < n → (S i).size = 16) : aS n S = true := by unfold aS; simpa using h
theorem aS_no {n k : Nat} {S : Nat → ByteArray} (hk : k < n) (h : (S k).size ≠ 16) : aS n S = false := by unfold aS; simp; exact ⟨k, hk, h⟩
theorem aS_iff {n : Nat} {S : Nat → ByteArray} : aS n S = true ↔ ∀ i, i < n → (S i).size = 16 := by unfold aS; simp
theorem areSums_any (a : Option Addr) (n cap : Nat) (S : Nat → ByteArray) (w : World) (h : TxtAt w a n S) (hn : n ≤ 1048576) (hL : ∀ i, i < n → (S i).size ≤ maxLen) :
  Calls Tryz.prog 144 #[.slice a n cap] w fun e w' => e = .returned (.bool (aS n S)) ∧ w' = w := by
 unfold maxLen at hL
 have KH : Hid (TxtAt w a n S) := h
 have KL : Hid (∀ i, i < n → (S i).size ≤ 9223372036854775807) := hL
 clear h hL
 go_enter Tryz.func144, Tryz.ntmps144
 go_wp2
 go_loop [7] (fun i => ∃ k : Nat, k ≤ n ∧ i = .int .i64 k ∧ Hid (∀ i, i < k → (S i).size = 16)) (fun i => n - (intOf i).toNat)
 case atStart => exact ⟨0, Nat.zero_le _, rfl, fun i hi => by omega⟩
 case round =>
  obtain ⟨k, hk, rfl, HS⟩ := hrel
  by_cases hlt : k < n
  ·obtain ⟨b, off, rfl, hc⟩ := KH.out k hlt
   have hlti : (k : Int) < (n : Int) := by omega
   have hl := KL.out k hlt
   obtain ⟨s, hs⟩ : ∃ s, S k = s := ⟨_, rfl⟩
   rw [hs] at hc hl
   by_cases h16 : s.size = 16
   ·have h16' : (s.size : Int) = 16 := by omega
    have HS2 : Hid (∀ i, i < k + 1 → (S i).size = 16) := fun i hi => by
     by_cases e : i = k
     ·subst e; rw [hs]; exact h16
     ·exact HS.out i (by omega)
    clear h16 hs
    go_wp2
    go_round
    case rel => exact ⟨k + 1, by omega, by go_num, HS2⟩
    case measure => simp [intOf]; omega
   ·have h16' : ((s.size : Int) != 16) = true := by simp; omega
    have HE : Hid (aS n S = false) := aS_no hlt (by rw [hs]; exact h16)
    clear h16 hs
    go_wp2
    go_ret
    exact ⟨by rw [HE.out]; rfl, rfl⟩
  ·obtain rfl : k = n := by omega
   have HE : Hid (aS k S = true) := aS_yes HS.out
   go_wp2
   go_ret
   exact ⟨by rw [HE.out]; rfl, rfl⟩
def lvB (n : Nat) (S : Nat → ByteArray) : Bool := aS n S && inB (n : Int) 1 64
theorem sLeaves_any (a : Option Addr) (n cap : Nat) (S : Nat → ByteArray) (w : World) (h : TxtAt w a n S) (hn : n ≤ 1048576) (hL : ∀ i, i < n → (S i).size ≤ maxLen) :
  Calls Tryz.prog 112 #[.slice a n cap] w fun e w' => e = .returned (.bool (lvB n S)) ∧ w' = w := by
 unfold maxLen at hL
 have KH : Hid (TxtAt w a n S) := h
 have KL : Hid (∀ i, i < n → (S i).size ≤ 9223372036854775807) := hL
 clear h hL
 go_enter Tryz.func112, Tryz.ntmps112
 go_wp2
 go_loop [3] (fun i => ∃ k : Nat, k ≤ n ∧ i = .int .i64 k ∧ Hid (∀ i, i < k → (S i).size = 16)) (fun i => n - (intOf i).toNat)
 case atStart => exact ⟨0, Nat.zero_le _, rfl, fun i hi => by omega⟩
 case round =>
  obtain ⟨k, hk, rfl, HS⟩ := hrel
  by_cases hlt : k < n
  ·obtain ⟨b, off, rfl, hc⟩ := KH.out k hlt
   have hlti : (k : Int) < (n : Int) := by omega
   have hl := KL.out k hlt
   obtain ⟨s, hs⟩ : ∃ s, S k = s := ⟨_, rfl⟩
   rw [hs] at hc hl
   by_cases h16 : s.size = 16
   ·have h16' : (s.size : Int) = 16 := by omega
    have HS2 : Hid (∀ i, i < k + 1 → (S i).size = 16) := fun i hi => by
     by_cases e : i = k
     ·subst e; rw [hs]; exact h16
     ·exact HS.out i (by omega)
    clear h16 hs
    go_wp2
    go_round
    case rel => exact ⟨k + 1, by omega, by go_num, HS2⟩
    case measure => simp [intOf]; omega
   ·have h16' : ((s.size : Int) != 16) = true := by simp; omega
    have HE : Hid (lvB n S = false) := by show _ = _; unfold lvB; rw [aS_no hlt (by rw [hs]; exact h16)]; rfl
    clear h16 hs
    go_wp2
    go_ret
    exact ⟨by rw [HE.out]; rfl, rfl⟩
  ·obtain rfl : k = n := by omega
   have HE : Hid (lvB k S = inB (k : Int) 1 64) := by show _ = _; unfold lvB; rw [aS_yes HS.out]; rfl
   go_wp2_with (go_at_call 41; refine (sIn_any _ _ _ _).mono ?_; rintro e w' ⟨rfl, hw⟩; obtain rfl := hw.symm)
   go_ret
   exact ⟨by rw [HE.out]; rfl, rfl⟩
set_option maxRecDepth 100000 in
theorem cloneLite_any (s : ByteArray) (w : World) (hlim : s.size ≤ 1048576) :
  Calls Tryz.prog 109 #[.string s] w fun e w' => e = .returned (.string s) ∧ Below w.heap.size w w' := by
 by_cases h0 : s.size = 0
 ·have hs : s = ⟨#[]⟩ := by
   apply ByteArray.ext
   exact Array.eq_empty_of_size_eq_zero h0
  subst hs
  go_enter Tryz.func109, Tryz.ntmps109
  go_wp2
  go_ret
  exact ⟨rfl, Below.refl _ _⟩
 ·obtain ⟨i0, hi, hz0, hz1, hz2⟩ := info_parts Tryz.infoByte
  have hinfo : (Tryz.prog.info? 5).map (·.size) = some 1 := by rw [hi]; simp [hz1]
  have hco : Tryz.prog.cellsOf 5 = 1 := by simp [Program.cellsOf, hi, hz1]
  obtain ⟨M, hM⟩ : ∃ M, M = madeCells (Value.int .u8 0).cells (((s.size : Nat) : Int).toNat * i0.size) := ⟨_, rfl⟩
  have hMs : M.size = s.size := by rw [hM, size_madeCells, hz1]; simp
  have hmk : ∀ W : World, (Instr.makeSlice 22 (.int .i64 (s.size : Int)) (.int .i64 (s.size : Int))).run Tryz.prog W = .ok (.slice (some ⟨W.heap.size, 0, none⟩) s.size s.size) (W.alloc (.cells M 5)) := fun W => by
   have h := run_make (P := Tryz.prog) W 22 5 i0 (.int .u8 0) Tryz.underlying22 hi hz0 .i64 .i64 (s.size : Int) (s.size : Int) (by omega) (by omega) (by rw [hz2]; omega) (by omega)
   rw [← hM] at h
   simpa using h
  clear hM
  have hcp := Lib.run_copy_row_string (P := Tryz.prog) (w.alloc (.cells M 5)) 22 9 3 5 w.heap.size 0 s.size s.size s M 5 Tryz.underlying22 hinfo (heap_alloc_new w _) (Nat.le_refl _) (by omega)
  obtain ⟨Y, hY⟩ : ∃ Y, Y = (M.toList.take 0 ++ Lib.byteCells s.data.toList ++ M.toList.drop (0 + s.size)).toArray := ⟨_, rfl⟩
  rw [← hY] at hcp
  have hYl : Y.toList = Lib.byteCells s.data.toList := by
   rw [hY, List.toList_toArray, List.take_zero, List.nil_append, List.drop_of_length_le (by rw [Array.length_toList]; omega), List.append_nil]
  have hYs : Y.size = s.size := by rw [← Array.length_toList, hYl, Lib.byteCells_length, ← Lib.size_eq]
  have hgY : ((w.alloc (.cells M 5)).setRow w.heap.size Y).heap[w.heap.size]? = some (.cells Y 5 (0, 0)) := setRow_heap _ _ M _ 5 (0, 0) (heap_alloc_new w _)
  have hne : s.data.toList ≠ [] := fun e => h0 (by rw [Lib.size_eq, e]; rfl)
  have hUS := Lib.run_unsafeString_row (P := Tryz.prog) ((w.alloc (.cells M 5)).setRow w.heap.size Y) 196 3 9 5 Tryz.underlying196 hco w.heap.size Y.size (by unfold World.shape?; rw [hgY]) s.data.toList hne (by rw [← Lib.size_eq]; omega) (by rw [← Lib.size_eq]; omega)
   (fun j x hx => Lib.cells_of_row hgY Y.size j _ (by rw [List.take_of_length_le (by rw [Array.length_toList]; exact Nat.le_refl _), hYl]; simp [Lib.byteCells, hx]))
  rw [← Lib.size_eq] at hUS
  clear hY
  go_enter Tryz.func109, Tryz.ntmps109
  go_wp2
  go_ret
  have hb1 : Below w.heap.size w (w.alloc (.cells M 5)) := (Below.refl _ w).alloc (Nat.le_refl _) _
  have hb2 : Below w.heap.size (w.alloc (.cells M 5)) ((w.alloc (.cells M 5)).setRow w.heap.size Y) := ⟨rfl, rfl, rfl, by simp, fun k hk => setRow_other _ _ _ _ (by omega)⟩
  exact ⟨rfl, Lib.below_freeze (hb1.trans hb2) (p := ⟨w.heap.size, 0, none⟩) (Nat.le_refl _) _⟩
theorem clone_any (s : ByteArray) (w : World) (hlim : s.size ≤ 1048576) :
  Calls Tryz.prog 72 #[.string s] w fun e w' => e = .returned (.string s) ∧ Below w.heap.size w w' := by
 go_enter Tryz.func72, Tryz.ntmps72
 go_wp2_with fail
 refine (cloneLite_any s _ hlim).mono ?_
 rintro e w1 ⟨rfl, b1⟩
 go_wp2
 go_ret
 exact ⟨rfl, b1⟩
end Go.Proofs.YtodnodekheaacaaGreatDoor
namespace Go.Proofs.YtodnodekheaacaaGreatDoor
open Go.ChangeShapes Go.WideShapes Go.ChangeAt Go.RowKit Go.Shelf
open Gt (nb hf nm pl pr jn)
def prB (x : ByteArray) (i n : Int) (k : Nat) (S : Nat → ByteArray) : Bool := decide (x.size = 16) && decide ((k : Int) = plI i n) && aS k S
def prS (x : ByteArray) (i n : Int) (k : Nat) (S : Nat → ByteArray) : ByteArray := if prB x i n k S = true then pr x i.toNat n.toNat S 0 else ⟨#[]⟩
theorem proofRoot_no (x : ByteArray) (i n : Int) (a : Option Addr) (k cap : Nat) (S : Nat → ByteArray) (w : World) (h : TxtAt w a k S) (hk : k ≤ 1048576) (hL : ∀ i, i < k → (S i).size ≤ maxLen) (hno : prB x i n k S = false) :
  Calls Tryz.prog 126 #[.string x, .int .i64 i, .int .i64 n, .slice a k cap] w fun e w' => e = .returned (.tuple #[.string ⟨#[]⟩, .bool false]) ∧ Below w.heap.size w w' := by
 obtain ⟨w1, HW1⟩ : ∃ w1, Hid (w1 = w.alloc (.cells #[.slice a k cap] 28)) := ⟨_, rfl⟩
 have K1 : Hid (Row w1 w.heap.size 28 #[.slice a k cap] ∧ Below w.heap.size w w1) := by rw [HW1.out]; exact ⟨Row.new w _ _, (Below.refl _ _).alloc (Nat.le_refl _) _⟩
 have KP : Hid (∀ w0, Calls Tryz.prog 152 #[.int .i64 i, .int .i64 n] w0 fun e w' => e = .returned (.int .i64 (plI i n)) ∧ Below w0.heap.size w0 w') := fun w0 => proofLen_any i n w0
 have KA : Hid (∀ W, Below w.heap.size w W → Calls Tryz.prog 144 #[.slice a k cap] W fun e w' => e = .returned (.bool (aS k S)) ∧ w' = W) := fun W hb => areSums_any a k cap S W (h.below hb) hk hL
 have hc := K1.out.1.cell 0
 have hlt := K1.out.1.lt
 simp at hc
 obtain ⟨r, hr⟩ : ∃ r, plI i n = r := ⟨_, rfl⟩
 rw [hr] at KP
 unfold prB at hno
 rw [hr] at hno
 by_cases h16 : x.size = 16
 ·have h16' : ((x.size : Int) != 16) = false := by simp; omega
  by_cases hkr : (k : Int) = r
  ·have hkr' : ((k : Int) != r) = false := by simp; exact hkr
   have haS : aS k S = false := by simpa [h16, hkr] using hno
   rw [haS] at KA
   clear h hL hno h16 hkr haS hr
   go_enter Tryz.func126, Tryz.ntmps126
   go_wp2_with fail
   rw [← HW1.out]
   go_region_held3 (fun w' => w'.cell? ⟨w.heap.size, 0, none⟩ = some (.slice a k cap)) (go_keep) ((first | (go_at_call 152; refine Calls.mono (KP.out _) ?_; rintro e w5 ⟨rfl, hb5'⟩; have hb5 := below_of_drew hb5'; clear hb5'; have h50 := (hb5.cell (p := ⟨w.heap.size, 0, none⟩) hlt).trans hc) | (guard_hyp hb5; go_at_call 144; refine Calls.mono (KA.out _ (K1.out.2.trans (hb5.mono K1.out.2.size))) ?_; rintro e w6 ⟨rfl, hw6⟩; obtain rfl := hw6.symm)))
   go_wp2
   go_ret2
   exact ⟨rfl, K1.out.2.trans (hb5.mono K1.out.2.size)⟩
  ·have hkr' : ((k : Int) != r) = true := by simp; exact hkr
   clear h hL hno h16 hkr hr KA
   go_enter Tryz.func126, Tryz.ntmps126
   go_wp2_with fail
   rw [← HW1.out]
   go_region_with (go_at_call 152; refine Calls.mono (KP.out _) ?_; rintro e w5 ⟨rfl, hb5'⟩; have hb5 := below_of_drew hb5'; clear hb5'; have h50 := (hb5.cell (p := ⟨w.heap.size, 0, none⟩) hlt).trans hc)
   all_goals go_wp2
   all_goals go_ret2
   all_goals exact ⟨rfl, K1.out.2.trans (hb5.mono K1.out.2.size)⟩
 ·have h16' : ((x.size : Int) != 16) = true := by simp; omega
  clear h hL hno h16 hr KA
  go_enter Tryz.func126, Tryz.ntmps126
  go_wp2_with fail
  rw [← HW1.out]
  go_quiet (fail)
  go_wp2
  go_ret2
  exact ⟨rfl, belowDrewN K1.out.2 _⟩
end Go.Proofs.YtodnodekheaacaaGreatDoor
namespace Go.Proofs.YtodnodekheaacaaGreatDoor
open Go.RowKit
def rowC (T : Nat → ByteArray) (m : Nat) : Array Value := (sL T 64 ++ [Value.int .i64 (m : Int)]).toArray
theorem rowC_size (T : Nat → ByteArray) (m : Nat) : (rowC T m).size = 65 := by simp [rowC, sL]
theorem rowC_get (T : Nat → ByteArray) (m i : Nat) (h : i < 64) : (rowC T m)[i]? = some (.string (T i)) := by
 unfold rowC
 rw [List.getElem?_toArray, List.getElem?_append_left (by rw [sL_len]; exact h), sL_get _ _ _ h]
theorem rowC_last (T : Nat → ByteArray) (m : Nat) : (rowC T m)[64]? = some (.int .i64 (m : Int)) := by
 unfold rowC
 rw [List.getElem?_toArray, List.getElem?_append_right (by rw [sL_len]; exact Nat.le_refl _), sL_len]
 rfl
theorem rowC_set (T : Nat → ByteArray) (m i : Nat) (s : ByteArray) (h : i < 64) : (rowC T m).setIfInBounds i (.string s) = rowC (fun j => if j = i then s else T j) m := by
 apply Array.ext'
 unfold rowC
 rw [Array.toList_setIfInBounds, List.toList_toArray, List.toList_toArray, List.set_append_left _ _ (by rw [sL_len]; exact h), sL_set _ _ _ _ h]
theorem rowC_congr {T T' : Nat → ByteArray} (m : Nat) (h : ∀ i, i < 64 → T i = T' i) : rowC T m = rowC T' m := by unfold rowC; rw [sL_congr h]
theorem rowC_one (T : Nat → ByteArray) (m : Nat) : (rowC T m).all (·.oneCell') = true := by
 unfold rowC
 simp [sL, Value.oneCell']
def RwV (T : Nat → ByteArray) (m : Nat) : Value := .agg (rowC T m)
def noT : Nat → ByteArray := fun _ => ByteArray.empty
theorem Tryz.infoRw : (Tryz.prog.info? 143).map (·.size) = some 65 := by kernel_rfl
theorem Tryz.zeroRw : (Tryz.prog.info? 143).bind (·.zero) = some (RwV noT 0) := by kernel_rfl
theorem Tryz.builtRw0 : Tryz.prog.built 143 [] = some (rowC noT 0) := by kernel_rfl
theorem Tryz.builtRw (m : Nat) : Tryz.prog.built 143 [(1, .int .i64 (m : Int))] = some (rowC noT m) := by kernel_rfl
theorem run_allocRw (w : World) : (Instr.alloc 143 true (.tuple #[])).run Tryz.prog w = .ok (.pointer (some ⟨w.heap.size, 0, none⟩)) (w.alloc (.cells (rowC noT 0) 143)) := by
 have hz := Tryz.zeroRw
 cases hit : Tryz.prog.info? 143 with
 | none => simp [hit] at hz
 | some it =>
  simp [hit] at hz
  have ha : (zeroValue 143).run Tryz.prog w = .ok (RwV noT 0) w := by simp [zeroValue, typeInfo, hit, hz]
  unfold Instr.alloc
  simp only [Sem.run_bind, ha, Result.andThen_ok]
  rfl
section
variable {P : Program} {F : Fence} {n : Nat} {ops : Array Oper} {rest : List Oper} {o : Oper} {a : Act} {w : World} {Q : Exit → Act → World → Prop}
theorem in_value (hg : o.guard = none) (hnd : ∀ c, o.op ≠ .defer c) (hab : o.about P w a.eval = none) (v : Value) (w' : World) (hrun : (execOp a.eval o).run P w = .ok (.value v) w')
  (h : wpListIn F n P ops Q rest (a.put o.dst v) w') : wpListIn F n P ops Q (o :: rest) a w := by
 refine wpListIn_plain hg fun K hK => ?_
 unfold Oper.wpIn
 rw [Oper.semAt_plain F _ _ hnd, hrun, Oper.uponIn_value]
 exact ⟨fun f hf => (by rw [hab] at hf; cases hf), hK _ _ h⟩
theorem in_skip (hg : o.guard = none) (hnd : ∀ c, o.op ≠ .defer c) (hab : o.about P w a.eval = none) (w' : World) (hrun : (execOp a.eval o).run P w = .ok .skip w')
  (h : wpListIn F n P ops Q rest (a.put o.dst undef) w') : wpListIn F n P ops Q (o :: rest) a w := by
 refine wpListIn_plain hg fun K hK => ?_
 unfold Oper.wpIn
 rw [Oper.semAt_plain F _ _ hnd, hrun, Oper.uponIn_skip]
 exact ⟨fun f hf => (by rw [hab] at hf; cases hf), hK _ _ h⟩
theorem p_value (hg : o.guard = none) (v : Value) (w' : World) (hrun : (execOp a.eval o).run P w = .ok (.value v) w')
  (h : wpList P ops Q rest (a.put o.dst v) w') : wpList P ops Q (o :: rest) a w := by
 refine wpList_plain hg fun K hK => ?_
 unfold Oper.wp
 rw [hrun, Oper.upon_value]
 exact hK _ _ h
theorem p_skip (hg : o.guard = none) (w' : World) (hrun : (execOp a.eval o).run P w = .ok .skip w')
  (h : wpList P ops Q rest (a.put o.dst undef) w') : wpList P ops Q (o :: rest) a w := by
 refine wpList_plain hg fun K hK => ?_
 unfold Oper.wp
 rw [hrun, Oper.upon_skip]
 exact hK _ _ h
end
section
variable {F : Fence} {n : Nat} {ops : Array Oper} {rest : List Oper} {o : Oper} {a : Act} {w : World} {Q : Exit → Act → World → Prop}
theorem x_alloc (ho : o.op = .alloc 143) : (execOp a.eval o).run Tryz.prog w = .ok (.value (.pointer (some ⟨w.heap.size, 0, none⟩))) (w.alloc (.cells (rowC noT 0) 143)) := by
 unfold execOp
 simp only [ho, Sem.run_bind, run_allocRw, Result.andThen_ok]
 rfl
theorem x_box (x : Operand) (ho : o.op = .box 143 x) (T : Nat → ByteArray) (m : Nat) (hx : a.eval x = RwV T m) : (execOp a.eval o).run Tryz.prog w = .ok (.value (.pointer (some ⟨w.heap.size, 0, none⟩))) (w.alloc (.cells (rowC T m) 143)) := by
 unfold execOp
 simp only [ho, hx, Sem.run_bind, Instr.box, newVar, newRow, run_newObj_alloc, Sem.run_pure, Result.andThen_ok]
 rfl
theorem x_load (x : Operand) (ho : o.op = .load 143 x) (g : Nat) (hx : a.eval x = .pointer (some ⟨g, 0, none⟩)) (T : Nat → ByteArray) (m : Nat) (hr : Row w g 143 (rowC T m)) : (execOp a.eval o).run Tryz.prog w = .ok (.value (RwV T m)) w := by
 unfold execOp
 simp only [ho, hx, Instr.loadAt, Instr.sureAddr, Sem.run_bind, Sem.run_pure, Result.andThen_ok, run_loadVar_row w g 143 143 (rowC T m) (0, 0) _ hr Tryz.underlying143 rfl (by rw [Tryz.infoRw, rowC_size])]
 rfl
theorem x_store (x y : Operand) (ho : o.op = .store 143 x y) (g : Nat) (hx : a.eval x = .pointer (some ⟨g, 0, none⟩)) (T : Nat → ByteArray) (m : Nat) (hy : a.eval y = RwV T m) (T' : Nat → ByteArray) (m' : Nat) (hr : Row w g 143 (rowC T' m')) :
  (execOp a.eval o).run Tryz.prog w = .ok .skip (w.setRow g (rowC T m)) := by
 unfold execOp
 have hy' : a.eval y = .agg (rowC T m) := hy
 simp only [ho, hx, hy', Instr.storeAt, Instr.sureAddr, Sem.run_bind, Sem.run_pure, Result.andThen_ok, run_storeVar_row w g 143 143 (rowC T' m') (rowC T m) hr (by rw [Tryz.infoRw, rowC_size]) (by rw [rowC_size, rowC_size]) (rowC_one T m)]
theorem x_build (x : Operand) (ho : o.op = .build 143 #[(1, x)]) (m : Nat) (hx : a.eval x = .int .i64 (m : Int)) : (execOp a.eval o).run Tryz.prog w = .ok (.value (RwV noT m)) w := by
 have hb := run_build (P := Tryz.prog) w 143 #[(1, .int .i64 (m : Int))] (rowC noT m) (Tryz.builtRw m)
 unfold execOp
 simp [ho, hx, hb]
 rfl
theorem x_build0 (ho : o.op = .build 143 #[]) : (execOp a.eval o).run Tryz.prog w = .ok (.value (RwV noT 0)) w := by
 have hb := run_build (P := Tryz.prog) w 143 #[] (rowC noT 0) Tryz.builtRw0
 unfold execOp
 simp [ho, hb]
 rfl
theorem p_alloc (hg : o.guard = none) (ho : o.op = .alloc 143) (h : wpList Tryz.prog ops Q rest (a.put o.dst (.pointer (some ⟨w.heap.size, 0, none⟩))) (w.alloc (.cells (rowC noT 0) 143))) : wpList Tryz.prog ops Q (o :: rest) a w := p_value hg _ _ (x_alloc ho) h
theorem p_box (hg : o.guard = none) (x : Operand) (ho : o.op = .box 143 x) (T : Nat → ByteArray) (m : Nat) (hx : a.eval x = RwV T m) (h : wpList Tryz.prog ops Q rest (a.put o.dst (.pointer (some ⟨w.heap.size, 0, none⟩))) (w.alloc (.cells (rowC T m) 143))) : wpList Tryz.prog ops Q (o :: rest) a w := p_value hg _ _ (x_box x ho T m hx) h
theorem p_load (hg : o.guard = none) (x : Operand) (ho : o.op = .load 143 x) (g : Nat) (hx : a.eval x = .pointer (some ⟨g, 0, none⟩)) (T : Nat → ByteArray) (m : Nat) (hr : Row w g 143 (rowC T m)) (h : wpList Tryz.prog ops Q rest (a.put o.dst (RwV T m)) w) : wpList Tryz.prog ops Q (o :: rest) a w := p_value hg _ _ (x_load x ho g hx T m hr) h
theorem p_store (hg : o.guard = none) (x y : Operand) (ho : o.op = .store 143 x y) (g : Nat) (hx : a.eval x = .pointer (some ⟨g, 0, none⟩)) (T : Nat → ByteArray) (m : Nat) (hy : a.eval y = RwV T m) (T' : Nat → ByteArray) (m' : Nat) (hr : Row w g 143 (rowC T' m'))
  (h : wpList Tryz.prog ops Q rest (a.put o.dst undef) (w.setRow g (rowC T m))) : wpList Tryz.prog ops Q (o :: rest) a w := p_skip hg _ (x_store x y ho g hx T m hy T' m' hr) h
theorem p_build (hg : o.guard = none) (x : Operand) (ho : o.op = .build 143 #[(1, x)]) (m : Nat) (hx : a.eval x = .int .i64 (m : Int)) (h : wpList Tryz.prog ops Q rest (a.put o.dst (RwV noT m)) w) : wpList Tryz.prog ops Q (o :: rest) a w := p_value hg _ _ (x_build x ho m hx) h
theorem p_build0 (hg : o.guard = none) (ho : o.op = .build 143 #[]) (h : wpList Tryz.prog ops Q rest (a.put o.dst (RwV noT 0)) w) : wpList Tryz.prog ops Q (o :: rest) a w := p_value hg _ _ (x_build0 ho) h
theorem i_alloc (hg : o.guard = none) (ho : o.op = .alloc 143) (h : wpListIn F n Tryz.prog ops Q rest (a.put o.dst (.pointer (some ⟨w.heap.size, 0, none⟩))) (w.alloc (.cells (rowC noT 0) 143))) : wpListIn F n Tryz.prog ops Q (o :: rest) a w := in_value hg (by rw [ho]; intro c hc; cases hc) (by simp [Oper.about, ho]) _ _ (x_alloc ho) h
theorem i_box (hg : o.guard = none) (x : Operand) (ho : o.op = .box 143 x) (T : Nat → ByteArray) (m : Nat) (hx : a.eval x = RwV T m) (h : wpListIn F n Tryz.prog ops Q rest (a.put o.dst (.pointer (some ⟨w.heap.size, 0, none⟩))) (w.alloc (.cells (rowC T m) 143))) : wpListIn F n Tryz.prog ops Q (o :: rest) a w := in_value hg (by rw [ho]; intro c hc; cases hc) (by simp [Oper.about, ho]) _ _ (x_box x ho T m hx) h
theorem i_load (hg : o.guard = none) (x : Operand) (ho : o.op = .load 143 x) (g : Nat) (hx : a.eval x = .pointer (some ⟨g, 0, none⟩)) (T : Nat → ByteArray) (m : Nat) (hr : Row w g 143 (rowC T m)) (h : wpListIn F n Tryz.prog ops Q rest (a.put o.dst (RwV T m)) w) : wpListIn F n Tryz.prog ops Q (o :: rest) a w := in_value hg (by rw [ho]; intro c hc; cases hc) (by simp [Oper.about, ho]) _ _ (x_load x ho g hx T m hr) h
theorem i_store (hg : o.guard = none) (x y : Operand) (ho : o.op = .store 143 x y) (g : Nat) (hx : a.eval x = .pointer (some ⟨g, 0, none⟩)) (T : Nat → ByteArray) (m : Nat) (hy : a.eval y = RwV T m) (T' : Nat → ByteArray) (m' : Nat) (hr : Row w g 143 (rowC T' m'))
  (h : wpListIn F n Tryz.prog ops Q rest (a.put o.dst undef) (w.setRow g (rowC T m))) : wpListIn F n Tryz.prog ops Q (o :: rest) a w := in_skip hg (by rw [ho]; intro c hc; cases hc) (by simp [Oper.about, ho]) _ (x_store x y ho g hx T m hy T' m' hr) h
end
end Go.Proofs.YtodnodekheaacaaGreatDoor
namespace Go.Proofs.YtodnodekheaacaaGreatDoor
open Gt (nb hf up jn)
def upTo (k m : Nat) (T : Nat → ByteArray) : Nat → ByteArray := fun i => if i < k then up m T i else ByteArray.empty
theorem results_row {fn : Func} {p : Tmp} (h : fn.results = #[.cell p 143]) (tmps : Array Value) (w : World) (g : Nat) (T : Nat → ByteArray) (m : Nat)
  (hp : tmps.getD p undef = .pointer (some ⟨g, 0, none⟩)) (hr : Row w g 143 (rowC T m)) : (results fn tmps).run Tryz.prog w = .ok (RwV T m) w :=
 results_cell_row h tmps w g 143 (rowC T m) (0, 0) _ hp hr Tryz.underlying143 rfl (by rw [Tryz.infoRw, rowC_size])
theorem upTo_set (k m : Nat) (T : Nat → ByteArray) (s : ByteArray) (hs : s = up m T k) : (fun j => if j = k then s else upTo k m T j) = upTo (k + 1) m T := by
 funext j
 unfold upTo
 by_cases e : j = k
 ·subst e; simp [hs]
 ·by_cases e2 : j < k
  ·simp [e, e2, show j < k + 1 by omega]
  ·simp [e, e2, show ¬ j < k + 1 by omega]
theorem upTo_set2 (k m : Nat) (T : Nat → ByteArray) (r s : ByteArray) (hs : s = up m T k) : (fun j => if j = k then s else (if j = k then r else upTo k m T j)) = upTo (k + 1) m T := by
 rw [← upTo_set k m T s hs]
 funext j
 by_cases e : j = k <;> simp [e]
theorem rowAbove_any (T : Nat → ByteArray) (m : Nat) (w : World) (hm : 1 ≤ m) (hm64 : m ≤ 64) (hS : ∀ i, i < m → (T i).size = 16) :
  Calls Tryz.prog 145 #[RwV T m] w fun e w' => e = .returned (RwV (up m T) (hf m)) ∧ Below w.heap.size w w' := by
 have hq : hf m ≤ 32 := by unfold hf; omega
 have hmq : hf m ≤ m := by unfold hf; omega
 obtain ⟨q, Hq⟩ : ∃ q, Hid (hf m = q) := ⟨_, rfl⟩
 have KA : Hid (∀ W, Calls Tryz.prog 146 #[.int .i64 (m : Int)] W fun e w' => e = .returned (.int .i64 (q : Int)) ∧ w' = W) := fun W => by rw [← Hq.out]; exact sizeAbove_any m W (by omega)
 rw [Hq.out] at hq hmq ⊢
 obtain ⟨B, hB⟩ : ∃ B, w.heap.size = B := ⟨_, rfl⟩
 obtain ⟨w1, HW1⟩ : ∃ w1, Hid (w1 = w.alloc (.cells (rowC T m) 143)) := ⟨_, rfl⟩
 have K1 : Hid (Row w1 B 143 (rowC T m) ∧ Below B w w1 ∧ w1.heap.size = B + 1) := by rw [HW1.out, ← hB]; exact ⟨Row.new w _ _, (Below.refl _ _).alloc (Nat.le_refl _) _, by simp⟩
 obtain ⟨w2, HW2⟩ : ∃ w2, Hid (w2 = w1.alloc (.cells (rowC noT 0) 143)) := ⟨_, rfl⟩
 have K2 : Hid (Row w2 B 143 (rowC T m) ∧ Row w2 (B + 1) 143 (rowC noT 0) ∧ Below B w w2 ∧ w2.heap.size = B + 2) := by
  rw [HW2.out]
  have h1 := K1.out.2.2
  refine ⟨K1.out.1.alloc _, ?_, K1.out.2.1.alloc (by omega) _, by simp; omega⟩
  have := Row.new w1 (rowC noT 0) 143
  rw [h1] at this
  exact this
 obtain ⟨w3, HW3⟩ : ∃ w3, Hid (w3 = w2.alloc (.cells (rowC noT q) 143)) := ⟨_, rfl⟩
 have HS3 : Hid ((w2.alloc (.cells (rowC noT 0) 143)).setRow w2.heap.size (rowC noT q) = w3) := by rw [HW3.out]; exact setRow_alloc _ _ _ _
 have K3 : Hid (Row w3 B 143 (rowC T m) ∧ Row w3 (B + 1) 143 (rowC noT 0) ∧ Row w3 (B + 2) 143 (rowC noT q) ∧ Below B w w3) := by
  rw [HW3.out]
  have h1 := K2.out.2.2.2
  refine ⟨K2.out.1.alloc _, K2.out.2.1.alloc _, ?_, K2.out.2.2.1.alloc (by omega) _⟩
  have := Row.new w2 (rowC noT q) 143
  rw [h1] at this
  exact this
 have hz1 := K1.out.2.2
 have hz2 := K2.out.2.2.2
 have c64 : w2.cell? ⟨B, 64, none⟩ = some (.int .i64 (m : Int)) := by rw [K2.out.1.cell 64, rowC_last]
 have d64 : w3.cell? ⟨B + 2, 64, none⟩ = some (.int .i64 (q : Int)) := by rw [K3.out.2.2.1.cell 64, rowC_last]
 have KT : Hid (∀ i, i < m → (T i).size = 16) := hS
 clear hS
 go_enter Tryz.func145, Tryz.ntmps145
 go_wp2_with (first | (refine p_box (by rfl) _ (by rfl) T m (by rfl) ?_; rw [← HW1.out]) | (refine p_alloc (by rfl) (by rfl) ?_; first | rw [← HW2.out] | skip) | (refine p_build (by rfl) _ (by rfl) q (by rfl) ?_) | (refine p_store (by rfl) _ _ (by rfl) w2.heap.size (by rfl) noT q (by rfl) noT 0 (Row.new w2 _ _) ?_; rw [HS3.out]) | (go_at_call 146; refine (KA.out _).mono ?_; rintro e w' ⟨rfl, hw⟩; obtain rfl := hw.symm))
 go_loopw [14] (fun vi wr => ∃ k : Nat, k ≤ q ∧ vi = .int .i64 (k : Int) ∧ Row wr B 143 (rowC T m) ∧ Row wr (B + 1) 143 (rowC noT 0) ∧ Row wr (B + 2) 143 (rowC (upTo k m T) q) ∧ Below B w wr) (fun vi _ => q - (intOf vi).toNat)
 case atStart =>
  refine ⟨0, Nat.zero_le _, rfl, K3.out.1, K3.out.2.1, ?_, K3.out.2.2.2⟩
  have := K3.out.2.2.1
  rw [rowC_congr q (T' := upTo 0 m T) (fun i _ => by simp [noT, upTo])] at this
  exact this
 case round =>
  obtain ⟨k, hk, rfl, r0, r1, r2, hbel⟩ := hrel
  clear c64 d64 hz1 hz2 K1 K2 K3 HW1 HW2 HW3 HS3 KA
  by_cases hlt : k < q
  ·have hlti : (k : Int) < (q : Int) := by omega
   have h2k : 2 * k < m := by have := Hq.out; unfold hf at this; omega
   have c64 : wr.cell? ⟨B, 64, none⟩ = some (.int .i64 (m : Int)) := by rw [r0.cell 64, rowC_last]
   obtain ⟨p, hp⟩ : ∃ p, 2 * k = p := ⟨_, rfl⟩
   have hw2 : IntKind.i64.wrap (2 * (k : Int)) = (p : Int) := by rw [IntKind.wrap_i64]; omega
   have hp64 : (p : Int) < 64 := by omega
   have h2k' : p < m := by omega
   have hk64' : k < 64 := by omega
   have hk64 : (k : Int) < 64 := by omega
   obtain ⟨R, hR⟩ : ∃ R, wr.heap.size = R := ⟨_, rfl⟩
   have hRB : B + 2 < R := by have := r2.lt; omega
   obtain ⟨w4, HW4⟩ : ∃ w4, Hid (w4 = wr.alloc (.cells #[.int .i64 (p : Int), .int .i64 (m : Int)] 147)) := ⟨_, rfl⟩
   have K4 : Hid (Row w4 B 143 (rowC T m) ∧ Row w4 (B + 1) 143 (rowC noT 0) ∧ Row w4 (B + 2) 143 (rowC (upTo k m T) q) ∧ Row w4 R 147 #[.int .i64 (p : Int), .int .i64 (m : Int)] ∧ Below B w w4) := by
    rw [HW4.out, ← hR]
    exact ⟨r0.alloc _, r1.alloc _, r2.alloc _, Row.new wr _ _, hbel.alloc (by omega) _⟩
   obtain ⟨w5, HW5⟩ : ∃ w5, Hid (w5 = (wr.setCell ⟨B + 2, k, none⟩ (.string (T p))).alloc (.cells #[.int .i64 (p : Int), .int .i64 (m : Int)] 147)) := ⟨_, rfl⟩
   have K5 : Hid (Row w5 B 143 (rowC T m) ∧ Row w5 (B + 1) 143 (rowC noT 0) ∧ Row w5 (B + 2) 143 (rowC (fun j => if j = k then T p else upTo k m T j) q) ∧ Row w5 R 147 #[.int .i64 (p : Int), .int .i64 (m : Int)] ∧ Below B w w5) := by
    rw [HW5.out]
    refine ⟨(r0.other _ _ (by omega)).alloc _, (r1.other _ _ (by omega)).alloc _, ?_, ?_, (hbel.setCell (by simp) _).alloc (by simp; omega) _⟩
    ·have := r2.set k (.string (T p))
     rw [rowC_set _ _ _ _ (by omega)] at this
     exact this.alloc _
    ·have := Row.new (wr.setCell ⟨B + 2, k, none⟩ (.string (T p))) #[.int .i64 (p : Int), .int .i64 (m : Int)] 147
     rw [show (wr.setCell ⟨B + 2, k, none⟩ (.string (T p))).heap.size = R by simp [hR]] at this
     exact this
   have e0 := K4.out.2.2.2.1.cell 0
   have e1 : w4.cell? ⟨B, p, none⟩ = some (.string (T p)) := by rw [K4.out.1.cell p, rowC_get _ _ _ (by omega)]
   have e2 : w4.cell? ⟨B + 2, k, none⟩ = some (.string (upTo k m T k)) := by rw [K4.out.2.2.1.cell k, rowC_get _ _ _ (by omega)]
   have g2 := K4.out.2.2.1.free k
   have s0 := K5.out.2.2.2.1.cell 0
   have s1 := K5.out.2.2.2.1.cell 1
   simp at e0 s0 s1
   generalize upTo k m T k = old at e2
   obtain ⟨tp, htp⟩ : ∃ tp, T p = tp := ⟨_, rfl⟩
   rw [htp] at e1
   have HW5' : Hid ((wr.setCell ⟨B + 2, k, none⟩ (.string tp)).alloc (.cells #[.int .i64 (p : Int), .int .i64 (m : Int)] 147) = w5) := by show _ = _; rw [HW5.out, htp]
   rw [← HW5'.out] at s0 s1
   rw [HW4.out] at e0 e1 e2 g2
   have KN : Hid (∀ w0, Calls Tryz.prog 107 #[SpV (p : Int) (m : Int)] w0 fun e w' => e = .returned (.tuple #[.int .i64 ((p + 1 : Nat) : Int), .bool (decide (p + 1 < m))]) ∧ Below w0.heap.size w0 w') := by
    have hnb : nb p = p + 1 := by unfold nb; rw [if_pos (by omega)]
    have := fun w0 => neighbour_any p m w0 (by omega)
    rw [hnb] at this
    exact this
   obtain ⟨p1, hp1⟩ : ∃ p1, p + 1 = p1 := ⟨_, rfl⟩
   rw [hp1] at KN
   clear hbel r0 r1 r2
   go_wp2_with fail
   rw [HW5'.out]
   refine (KN.out _).mono ?_
   rintro e w6 ⟨rfl, hb6⟩
   have K6 : Hid (Row w6 B 143 (rowC T m) ∧ Row w6 (B + 1) 143 (rowC noT 0) ∧ Row w6 (B + 2) 143 (rowC (fun j => if j = k then T p else upTo k m T j) q) ∧ Row w6 R 147 #[.int .i64 (p : Int), .int .i64 (m : Int)] ∧ Below B w w6) := by
    obtain ⟨a0, a1, a2, a3, a4⟩ := K5.out
    exact ⟨a0.below hb6 a0.lt, a1.below hb6 a1.lt, a2.below hb6 a2.lt, a3.below hb6 a3.lt, a4.trans (hb6.mono (by have := a0.lt; omega))⟩
   clear e0 e1 e2 g2 s0 s1 c64 HW5' HW5 HW4 K4 K5 hb6
   by_cases hok : p1 < m
   ·have hd : decide (p1 < m) = true := by simpa using hok
    have HU : Hid (jn tp (T p1) = up m T k) := by
     show _ = _
     unfold up
     rw [if_pos (by omega), show 2 * k + 1 = p1 by omega, hp, htp]
    obtain ⟨t1, ht1⟩ : ∃ t1, T p1 = t1 := ⟨_, rfl⟩
    have z0 := KT.out p h2k'
    have z1 := KT.out p1 hok
    rw [htp] at z0
    rw [ht1] at z1 HU
    have HJ : Hid (∀ w0, Calls Tryz.prog 154 #[.string tp, .string t1] w0 fun e w' => e = .returned (.string (jn tp t1)) ∧ Below w0.heap.size w0 w') := fun w0 => join_any _ _ w0 (by omega) (by omega)
    have e0 := K6.out.2.2.2.1.cell 0
    have e1 : w6.cell? ⟨B, p, none⟩ = some (.string tp) := by rw [K6.out.1.cell p, rowC_get _ _ _ (by omega), htp]
    have e2 : w6.cell? ⟨B, p1, none⟩ = some (.string t1) := by rw [K6.out.1.cell p1, rowC_get _ _ _ (by omega), ht1]
    have hp164 : (p1 : Int) < 64 := by omega
    simp at e0
    have lB := K6.out.1.lt
    have hne1 : ¬ R = B + 2 := by omega
    have hne2 : ¬ B + 2 = R := by omega
    have lR := K6.out.2.2.2.1.lt
    generalize jn tp t1 = z at HJ HU
    clear htp ht1 z0 z1 hok
    go_wp2_with fail
    go_region_held3 (fun w' => w'.cell? ⟨R, 0, none⟩ = some (.int .i64 (p : Int)) ∧ w'.cell? ⟨B, p, none⟩ = some (.string tp) ∧ w'.cell? ⟨B, p1, none⟩ = some (.string t1)) (go_keep) ((go_at_call 154; refine Calls.mono (HJ.out _) ?_; rintro e w9 ⟨rfl, hb9'⟩; have hb9 := below_of_drew hb9'; clear hb9'; have g0 := (hb9.cell (p := ⟨R, 0, none⟩) lR).trans e0; have g1 := (hb9.cell (p := ⟨B, p, none⟩) lB).trans e1; have g2 := (hb9.cell (p := ⟨B, p1, none⟩) lB).trans e2; have g3 := (K6.out.2.2.1.below hb9 K6.out.2.2.1.lt).cell k; have g4 := (K6.out.2.2.1.below hb9 K6.out.2.2.1.lt).free k; rw [rowC_get _ _ _ hk64'] at g3))
    have HR : Hid (Row (w9.setCell ⟨B + 2, k, none⟩ (.string z)) B 143 (rowC T m) ∧ Row (w9.setCell ⟨B + 2, k, none⟩ (.string z)) (B + 1) 143 (rowC noT 0) ∧ Row (w9.setCell ⟨B + 2, k, none⟩ (.string z)) (B + 2) 143 (rowC (upTo (k + 1) m T) q) ∧ Below B w (w9.setCell ⟨B + 2, k, none⟩ (.string z))) := by
     obtain ⟨a0, a1, a2, a3, a4⟩ := K6.out
     refine ⟨(a0.below hb9 a0.lt).other _ _ (by omega), (a1.below hb9 a1.lt).other _ _ (by omega), ?_, (a4.trans (hb9.mono (Nat.le_of_lt a0.lt))).setCell (by simp) _⟩
     have := (a2.below hb9 a2.lt).set k (.string z)
     rw [rowC_set _ _ _ _ hk64', upTo_set2 k m T _ _ HU.out] at this
     exact this
    clear g0 g1 g2 g3 g4 e0 e1 e2
    go_wp2
    go_roundw
    case rel => exact ⟨k + 1, by omega, by go_num, HR.out.1, HR.out.2.1, HR.out.2.2.1, HR.out.2.2.2⟩
    case measure => simp [intOf]; omega
   ·have hd : decide (p1 < m) = false := by simpa using hok
    have HU : Hid (T p = up m T k) := by
     show _ = _
     unfold up
     rw [if_neg (by omega), if_pos (by omega), hp]
    have HR : Hid (Row w6 (B + 2) 143 (rowC (upTo (k + 1) m T) q)) := by
     have := K6.out.2.2.1
     rw [upTo_set k m T _ HU.out] at this
     exact this
    go_wp2
    go_roundw
    case rel => exact ⟨k + 1, by omega, by go_num, K6.out.1, K6.out.2.1, HR.out, K6.out.2.2.2.2⟩
    case measure => simp [intOf]; omega
  ·obtain rfl : k = q := by omega
   have HE : Hid (rowC (upTo k m T) k = rowC (up m T) k) := by
    show _ = _
    refine rowC_congr k (fun i _ => ?_)
    unfold upTo
    by_cases e : i < k
    ·rw [if_pos e]
    ·rw [if_neg e, Gt.up_pad m T i (by have := Hq.out; omega)]
   rw [HE.out] at r2
   have HF : Hid (Row (wr.setRow (B + 1) (rowC (up m T) k)) (B + 1) 143 (rowC (up m T) k) ∧ Below B w (wr.setRow (B + 1) (rowC (up m T) k))) := ⟨r1.row, belowSetRow hbel (by omega) _⟩
   go_wp2_with (first | (refine p_load (by rfl) _ (by rfl) (B + 2) (by rfl) (up m T) k r2 ?_) | (refine p_store (by rfl) _ _ (by rfl) (B + 1) (by rfl) (up m T) k (by rfl) noT 0 r1 ?_))
   refine bodyPost_ret (results_row Tryz.results145 _ _ (B + 1) (up m T) k (by rfl) HF.out.1) rfl ⟨rfl, ?_⟩
   rw [hB]
   exact HF.out.2
end Go.Proofs.YtodnodekheaacaaGreatDoor
namespace Go.Proofs.YtodnodekheaacaaGreatDoor
def padT (n : Nat) (S : Nat → ByteArray) : Nat → ByteArray := fun i => if i < n then S i else ByteArray.empty
theorem rowC_copy (S : Nat → ByteArray) (n : Nat) (hn : n ≤ 64) : ((rowC noT n).toList.take 0 ++ sL S n ++ (rowC noT n).toList.drop (0 + (sL S n).length)).toArray = rowC (padT n S) n := by
 apply Array.ext'
 apply List.ext_getElem?
 intro i
 rw [List.toList_toArray, List.take_zero, List.nil_append, sL_len, Nat.zero_add]
 have e : (rowC (padT n S) n).toList[i]? = (rowC (padT n S) n)[i]? := Array.getElem?_toList ..
 have e0 : ∀ j, (rowC noT n).toList[j]? = (rowC noT n)[j]? := fun j => Array.getElem?_toList ..
 rw [e]
 by_cases h1 : i < n
 ·rw [List.getElem?_append_left (by rw [sL_len]; exact h1), sL_get _ _ _ h1, rowC_get _ _ _ (by omega)]
  simp [padT, h1]
 ·rw [List.getElem?_append_right (by rw [sL_len]; omega), sL_len, List.getElem?_drop, show n + (i - n) = i by omega, e0]
  by_cases h2 : i < 64
  ·rw [rowC_get _ _ _ h2, rowC_get _ _ _ h2]
   simp [padT, noT, h1]
  ·by_cases h3 : i = 64
   ·subst h3; rw [rowC_last, rowC_last]
   ·rw [Array.getElem?_eq_none (by rw [rowC_size]; omega), Array.getElem?_eq_none (by rw [rowC_size]; omega)]
theorem results_row_flag {fn : Func} {p q : Tmp} (h : fn.results = #[.cell p 143, .tmp q]) (tmps : Array Value) (w : World) (g : Nat) (T : Nat → ByteArray) (m : Nat) (v : Value)
  (hp : tmps.getD p undef = .pointer (some ⟨g, 0, none⟩)) (hq : tmps.getD q undef = v) (hr : Row w g 143 (rowC T m)) : (results fn tmps).run Tryz.prog w = .ok (.tuple #[RwV T m, v]) w := by
 have hp' : tmps[p]?.getD undef = .pointer (some ⟨g, 0, none⟩) := by simpa using hp
 have hq' : tmps[q]?.getD undef = v := by simpa using hq
 simp [results, h, hp', hq', asAddr, run_loadVar_row w g 143 143 (rowC T m) (0, 0) _ hr Tryz.underlying143 rfl (by rw [Tryz.infoRw, rowC_size])]
 rfl
theorem leafRow_no (a : Option Addr) (n cap : Nat) (S : Nat → ByteArray) (w : World) (h : TxtAt w a n S) (hn : n ≤ 1048576) (hL : ∀ i, i < n → (S i).size ≤ maxLen) (hno : lvB n S = false) :
  Calls Tryz.prog 104 #[.slice a n cap] w fun e w' => e = .returned (.tuple #[RwV noT 0, .bool false]) ∧ Below w.heap.size w w' := by
 obtain ⟨w1, HW1⟩ : ∃ w1, Hid (w1 = w.alloc (.cells (rowC noT 0) 143)) := ⟨_, rfl⟩
 have K1 : Hid (Row w1 w.heap.size 143 (rowC noT 0) ∧ Below w.heap.size w w1) := by rw [HW1.out]; exact ⟨Row.new w _ _, (Below.refl _ _).alloc (Nat.le_refl _) _⟩
 have KA : Hid (Calls Tryz.prog 144 #[.slice a n cap] w1 fun e w' => e = .returned (.bool (aS n S)) ∧ w' = w1) := areSums_any a n cap S w1 (h.below K1.out.2) hn hL
 have HF : Hid (Row (w1.setRow w.heap.size (rowC noT 0)) w.heap.size 143 (rowC noT 0) ∧ Below w.heap.size w (w1.setRow w.heap.size (rowC noT 0))) := ⟨K1.out.1.row, belowSetRow K1.out.2 (Nat.le_refl _) _⟩
 by_cases h1 : n < 1
 ·have h1' : (n : Int) < 1 := by omega
  clear h hL KA
  go_enter Tryz.func104, Tryz.ntmps104
  go_wp2_with (first | (refine p_alloc (by rfl) (by rfl) ?_; rw [← HW1.out]) | (refine p_build0 (by rfl) (by rfl) ?_) | (refine p_store (by rfl) _ _ (by rfl) w.heap.size (by rfl) noT 0 (by rfl) noT 0 K1.out.1 ?_))
  refine bodyPost_ret (results_row_flag Tryz.results104 _ _ w.heap.size noT 0 _ (by rfl) (by rfl) HF.out.1) rfl ⟨rfl, HF.out.2⟩
 ·have h1' : ¬ (n : Int) < 1 := by omega
  by_cases h2 : 64 < n
  ·have h2' : (64 : Int) < (n : Int) := by omega
   clear h hL KA
   go_enter Tryz.func104, Tryz.ntmps104
   go_wp2_with (first | (refine p_alloc (by rfl) (by rfl) ?_; rw [← HW1.out]) | (refine p_build0 (by rfl) (by rfl) ?_) | (refine p_store (by rfl) _ _ (by rfl) w.heap.size (by rfl) noT 0 (by rfl) noT 0 K1.out.1 ?_))
   refine bodyPost_ret (results_row_flag Tryz.results104 _ _ w.heap.size noT 0 _ (by rfl) (by rfl) HF.out.1) rfl ⟨rfl, HF.out.2⟩
  ·have h2' : ¬ (64 : Int) < (n : Int) := by omega
   have haS : aS n S = false := by
    unfold lvB at hno
    rw [inB_true (by omega)] at hno
    simpa using hno
   rw [haS] at KA
   clear h hL hno haS
   go_enter Tryz.func104, Tryz.ntmps104
   go_wp2_with (first | (refine p_alloc (by rfl) (by rfl) ?_; rw [← HW1.out]) | (refine p_build0 (by rfl) (by rfl) ?_) | (refine p_store (by rfl) _ _ (by rfl) w.heap.size (by rfl) noT 0 (by rfl) noT 0 K1.out.1 ?_) | (go_at_call 144; refine KA.out.mono ?_; rintro e w' ⟨rfl, hw⟩; obtain rfl := hw.symm))
   refine bodyPost_ret (results_row_flag Tryz.results104 _ _ w.heap.size noT 0 _ (by rfl) (by rfl) HF.out.1) rfl ⟨rfl, HF.out.2⟩
theorem leafRow_yes (a : Option Addr) (n cap : Nat) (S : Nat → ByteArray) (w : World) (h : TxtAt w a n S) (hyes : lvB n S = true) :
  Calls Tryz.prog 104 #[.slice a n cap] w fun e w' => e = .returned (.tuple #[RwV (padT n S) n, .bool true]) ∧ Below w.heap.size w w' := by
 unfold lvB at hyes
 rw [Bool.and_eq_true] at hyes
 have hn : 1 ≤ n ∧ n ≤ 64 := by
  have := hyes.2
  unfold inB at this
  simp at this
  omega
 have hS := aS_iff.1 hyes.1
 obtain ⟨w1, HW1⟩ : ∃ w1, Hid (w1 = w.alloc (.cells (rowC noT 0) 143)) := ⟨_, rfl⟩
 have K1 : Hid (Row w1 w.heap.size 143 (rowC noT 0) ∧ Below w.heap.size w w1 ∧ w1.heap.size = w.heap.size + 1) := by rw [HW1.out]; exact ⟨Row.new w _ _, (Below.refl _ _).alloc (Nat.le_refl _) _, by simp⟩
 have KA : Hid (Calls Tryz.prog 144 #[.slice a n cap] w1 fun e w' => e = .returned (.bool true) ∧ w' = w1) := by
  have := areSums_any a n cap S w1 (h.below K1.out.2.1) (by omega) (fun i hi => by rw [hS i hi]; unfold maxLen; omega)
  rw [hyes.1] at this
  exact this
 obtain ⟨w2, HW2⟩ : ∃ w2, Hid (w2 = w1.alloc (.cells (rowC noT n) 143)) := ⟨_, rfl⟩
 have HS2 : Hid ((w1.alloc (.cells (rowC noT 0) 143)).setRow w1.heap.size (rowC noT n) = w2) := by rw [HW2.out]; exact setRow_alloc _ _ _ _
 have K2 : Hid (Row w2 w.heap.size 143 (rowC noT 0) ∧ Row w2 (w.heap.size + 1) 143 (rowC noT n) ∧ Below w.heap.size w w2) := by
  rw [HW2.out]
  refine ⟨K1.out.1.alloc _, ?_, K1.out.2.1.alloc (by have := K1.out.2.2; omega) _⟩
  have := Row.new w1 (rowC noT n) 143
  rw [K1.out.2.2] at this
  exact this
 obtain ⟨b, off, rfl, hcc⟩ := (h.below K2.out.2.2).some (by omega)
 obtain ⟨w3, HW3⟩ : ∃ w3, Hid (w3 = w2.setRow (w.heap.size + 1) (rowC (padT n S) n)) := ⟨_, rfl⟩
 have K3 : Hid (Row w3 w.heap.size 143 (rowC noT 0) ∧ Row w3 (w.heap.size + 1) 143 (rowC (padT n S) n) ∧ Below w.heap.size w w3) := by
  rw [HW3.out]
  exact ⟨K2.out.1.otherRow (by omega), K2.out.2.1.row, belowSetRow K2.out.2.2 (by omega) _⟩
 have hcp : (Builtin.copy_ #[28, 28] 3 #[.slice (some ⟨w.heap.size + 1, 0, none⟩) 64 64, .slice (some ⟨b, off, none⟩) n cap]).run Tryz.prog w2 = .ok (goInt n) w3 := by
  have := run_copy_row (P := Tryz.prog) w2 28 28 3 9 (w.heap.size + 1) 0 64 64 ⟨b, off, none⟩ n cap (rowC noT n) 143 (sL S n) Tryz.underlying28 (by
    have := Tryz.infoStr
    cases hi : Tryz.prog.info? 9 with
    | none => rw [hi] at this; simp at this
    | some i => rw [hi] at this; simp at this; simp [this.2.1]) K2.out.2.1 (by rw [sL_len]; exact (Nat.min_eq_left hn.2).symm) (fun j v hv => by
    have hj : j < n := by
     have := (List.getElem?_eq_some_iff.1 hv).1
     rwa [sL_len] at this
    rw [sL_get _ _ _ hj] at hv
    cases hv
    have ea : (⟨b, off, none⟩ : Addr).add j = ⟨b, off + j, none⟩ := by unfold Addr.add; split <;> simp_all
    rw [ea]
    exact hcc j hj) (by rw [sL_len, rowC_size]; omega) (fun v hv => by
    unfold sL at hv
    simp at hv
    obtain ⟨i, _, rfl⟩ := hv
    rfl)
  rw [rowC_copy S n hn.2, sL_len, ← HW3.out] at this
  exact this
 have h1' : ¬ (n : Int) < 1 := by omega
 have h2' : ¬ (64 : Int) < (n : Int) := by omega
 have HF : Hid (Row (w3.setRow w.heap.size (rowC (padT n S) n)) w.heap.size 143 (rowC (padT n S) n) ∧ Below w.heap.size w (w3.setRow w.heap.size (rowC (padT n S) n))) := ⟨K3.out.1.row, belowSetRow K3.out.2.2 (Nat.le_refl _) _⟩
 have hz1 := K1.out.2.2
 clear h hyes hS hcc
 go_enter Tryz.func104, Tryz.ntmps104
 go_wp2_with (first | (refine p_alloc (by rfl) (by rfl) ?_; first | rw [← HW1.out] | skip) | (refine p_build (by rfl) _ (by rfl) n (by rfl) ?_) | (refine p_store (by rfl) _ _ (by rfl) w1.heap.size (by rfl) noT n (by rfl) noT 0 (Row.new w1 _ _) ?_; rw [HS2.out]) | (refine p_load (by rfl) _ (by rfl) (w.heap.size + 1) (by rfl) (padT n S) n K3.out.2.1 ?_) | (refine p_store (by rfl) _ _ (by rfl) w.heap.size (by rfl) (padT n S) n (by rfl) noT 0 K3.out.1 ?_) | (go_at_call 144; refine KA.out.mono ?_; rintro e w' ⟨rfl, hw⟩; obtain rfl := hw.symm))
 refine bodyPost_ret (results_row_flag Tryz.results104 _ _ w.heap.size (padT n S) n _ (by rfl) (by rfl) HF.out.1) rfl ⟨rfl, HF.out.2⟩
end Go.Proofs.YtodnodekheaacaaGreatDoor
namespace Go.Proofs.YtodnodekheaacaaGreatDoor
open Go.ChangeShapes Go.WideShapes Go.ChangeAt Go.RowKit Go.Shelf
open Gt (nb hf nm pl pr jn)
theorem round_set {w W2 w9 : World} {b0 B c c1 : Nat} {v : Value} {y z : ByteArray} (hb2 : Below b0 w W2) (hb9 : Below W2.heap.size W2 w9) (r0 : Row W2 b0 28 #[v]) (r1 : Row W2 B 9 #[.string y]) (r2 : Row W2 (B + 1) 3 #[.int .i64 (c : Int)]) (hB : b0 < B) :
  Hid (Row (w9.setCell ⟨B, 0, none⟩ (.string z)) (B + 1) 3 #[.int .i64 (c : Int)] ∧
   W2.heap.size ≤ ((w9.setCell ⟨B, 0, none⟩ (.string z)).setCell ⟨B + 1, 0, none⟩ (.int .i64 (c1 : Int))).heap.size ∧
   (∀ j, B + 2 ≤ j → j < W2.heap.size → ((w9.setCell ⟨B, 0, none⟩ (.string z)).setCell ⟨B + 1, 0, none⟩ (.int .i64 (c1 : Int))).heap[j]? = W2.heap[j]?) ∧
   Below b0 w ((w9.setCell ⟨B, 0, none⟩ (.string z)).setCell ⟨B + 1, 0, none⟩ (.int .i64 (c1 : Int))) ∧
   Row ((w9.setCell ⟨B, 0, none⟩ (.string z)).setCell ⟨B + 1, 0, none⟩ (.int .i64 (c1 : Int))) b0 28 #[v] ∧
   Row ((w9.setCell ⟨B, 0, none⟩ (.string z)).setCell ⟨B + 1, 0, none⟩ (.int .i64 (c1 : Int))) B 9 #[.string z] ∧
   Row ((w9.setCell ⟨B, 0, none⟩ (.string z)).setCell ⟨B + 1, 0, none⟩ (.int .i64 (c1 : Int))) (B + 1) 3 #[.int .i64 (c1 : Int)]) := by
 have s0 := r0.below hb9 r0.lt
 have s1 := r1.below hb9 r1.lt
 have s2 := r2.below hb9 r2.lt
 have t2 := s2.other (k := B) 0 (.string z) (by omega)
 refine ⟨t2, by simpa using hb9.size, fun j h1 h2 => ?_, ?_, (s0.other 0 _ (by omega)).other 0 _ (by omega), (s1.set 0 (.string z)).other 0 _ (by omega), t2.set 0 (.int .i64 (c1 : Int))⟩
 ·rw [Below.heap_setCell _ _ _ _ (by simp; omega), Below.heap_setCell _ _ _ _ (by simp; omega)]
  exact hb9.block j h2
 ·exact ((hb2.trans (hb9.mono (Nat.le_of_lt r0.lt))).setCell (by simp; omega) _).setCell (by simp; omega) _
theorem proofRoot_in (x : ByteArray) (i n : Nat) (a : Option Addr) (k cap : Nat) (S : Nat → ByteArray) (w : World) (h : TxtAt w a k S) (hin : inT (i : Int) (n : Int) = true) (hx : x.size = 16) (hk : k = pl i n) (hS : ∀ j, j < k → (S j).size = 16) :
  Calls Tryz.prog 126 #[.string x, .int .i64 (i : Int), .int .i64 (n : Int), .slice a k cap] w fun e w' => e = .returned (.tuple #[.string (pr x i n S 0), .bool true]) ∧ Below w.heap.size w w' := by
 have hi : i < n ∧ n ≤ 64 := by simp [inT] at hin; omega
 have hk6 : k ≤ 6 := by rw [hk]; exact Gt.pl_le 6 _ _ (by omega)
 have hpl : plI (i : Int) (n : Int) = (k : Int) := by unfold plI; rw [if_pos hin, hk]; simp
 obtain ⟨w1, HW1⟩ : ∃ w1, Hid (w1 = w.alloc (.cells #[.slice a k cap] 28)) := ⟨_, rfl⟩
 have K1 : Hid (Row w1 w.heap.size 28 #[.slice a k cap] ∧ Below w.heap.size w w1) := by rw [HW1.out]; exact ⟨Row.new w _ _, (Below.refl _ _).alloc (Nat.le_refl _) _⟩
 have KP : Hid (∀ w0, Calls Tryz.prog 152 #[.int .i64 (i : Int), .int .i64 (n : Int)] w0 fun e w' => e = .returned (.int .i64 (k : Int)) ∧ Below w0.heap.size w0 w') := fun w0 => by rw [← hpl]; exact proofLen_any _ _ w0
 have KA : Hid (∀ W, Below w.heap.size w W → Calls Tryz.prog 144 #[.slice a k cap] W fun e w' => e = .returned (.bool true) ∧ w' = W) := fun W hb => by
  rw [← aS_yes hS]
  exact areSums_any a k cap S W (h.below hb) (by omega) (fun i hi => by rw [hS i hi]; unfold maxLen; omega)
 have KC : Hid (∀ w0, Calls Tryz.prog 72 #[.string x] w0 fun e w' => e = .returned (.string x) ∧ Below w0.heap.size w0 w') := fun w0 => clone_any x w0 (by omega)
 have KH : Hid (TxtAt w a k S) := h
 have KS : Hid (∀ j, j < k → (S j).size = 16) := hS
 have Kk : Hid (k = pl i n) := hk
 have hc := K1.out.1.cell 0
 have hlt := K1.out.1.lt
 simp at hc
 have h16' : ((x.size : Int) != 16) = false := by simp; omega
 have hkr' : ((k : Int) != (k : Int)) = false := by simp
 have Hx : Hid (x.size = 16) := hx
 clear h hS hk hpl hin hx
 refine (callsIn_wide (n := 2)).1 (callsIn_of_wp_marks Tryz.func126 rfl trivial (wpIn_wide.2 ?_) rfl)
 simp only [Tryz.ntmps126, List.size_toArray, List.length_cons, List.length_nil, Nat.reduceAdd, Nat.reduceSub, Array.replicate_succ, Array.replicate_zero, List.push_toArray, List.append_toArray, List.nil_append, List.cons_append]
 go_wp2_with fail
 rw [← HW1.out]
 go_region_held3 (fun w' => w'.cell? ⟨w.heap.size, 0, none⟩ = some (.slice a k cap)) (go_keep) ((first | (go_at_call 152; refine Calls.mono (KP.out _) ?_; rintro e w5 ⟨rfl, hb5'⟩; have hb5 := below_of_drew hb5'; clear hb5'; have h50 := (hb5.cell (p := ⟨w.heap.size, 0, none⟩) hlt).trans hc) | (guard_hyp hb5; go_at_call 144; refine Calls.mono (KA.out _ (K1.out.2.trans (hb5.mono K1.out.2.size))) ?_; rintro e w6 ⟨rfl, hw6⟩; obtain rfl := hw6.symm)))
 go_wp2_with fail
 refine (KC.out _).mono ?_
 rintro e w7 ⟨rfl, hb7⟩
 have HB : Hid (Below w.heap.size w w7 ∧ w.heap.size < w7.heap.size) := by
  have h1 := K1.out.2.trans (hb5.mono K1.out.2.size)
  have h2 := h1.trans (hb7.mono h1.size)
  refine ⟨h2, ?_⟩
  have := hb5.size
  have := hb7.size
  omega
 have HR : Hid (Row w7 w.heap.size 28 #[.slice a k cap]) := (K1.out.1.below hb5 hlt).below hb7 (Nat.lt_of_lt_of_le hlt hb5.size)
 go_wp2
 obtain ⟨B, hB⟩ : ∃ B, w7.heap.size = B := ⟨_, rfl⟩
 obtain ⟨w8, HW8⟩ : ∃ w8, Hid (w8 = (w7.alloc (.cells #[.string x] 9)).alloc (.cells #[.int .i64 0] 3)) := ⟨_, rfl⟩
 have HN : Hid (Row w8 w.heap.size 28 #[.slice a k cap] ∧ Row w8 B 9 #[.string x] ∧ Row w8 (B + 1) 3 #[.int .i64 ((0 : Nat) : Int)] ∧ Below w.heap.size w w8 ∧ w8.heap.size = B + 2 ∧ w.heap.size < B) := by
  rw [HW8.out, ← hB]
  refine ⟨(HR.out.alloc _).alloc _, (Row.new w7 _ _).alloc _, ?_, (HB.out.1.alloc HB.out.1.size _).alloc (by have := HB.out.1.size; simp; omega) _, by simp, HB.out.2⟩
  have := Row.new (w7.alloc (.cells #[.string x] 9)) #[.int .i64 ((0 : Nat) : Int)] 3
  rw [show (w7.alloc (.cells #[.string x] 9)).heap.size = w7.heap.size + 1 by simp] at this
  exact this
 rw [← HW8.out, hB]
 clear hB HB HR hb5 hb7 h50 hc hlt h16' hkr'
 refine (wpIn_wide (n := 2)).1 ?_
 refine wpIn_rangeM (recv := SpV (i : Int) (n : Int)) (gf := 153) (by rfl) (enters_of Tryz.func153 (by kernel_rfl) rfl) (joins_iter i n hi.1 hi.2) (fun _ => rfl)
  (fun s W => Below w.heap.size w W ∧ Row W w.heap.size 28 #[.slice a k cap] ∧ ∃ (y : ByteArray) (c : Nat), Row W B 9 #[.string y] ∧ Row W (B + 1) 3 #[.int .i64 (c : Int)] ∧ y.size = 16 ∧ c + pl s.1 s.2 = k ∧ pr y s.1 s.2 S c = pr x i n S 0) ?abide ?start ?round ?done
 case abide =>
  rintro s A A' j h1 h2 ⟨hb, hr0, y, c, hr1, hr2, hy, hc, hp⟩ hg
  have hn := HN.out.2.2.2.2
  exact ⟨below_grown hb hg hb.size (by omega), hr0.grown hg (by omega), y, c, hr1.grown hg (by omega), hr2.grown hg (by omega), hy, hc, hp⟩
 case start =>
  obtain ⟨h1, h2, h3, h4, _, _⟩ := HN.out
  exact ⟨h4, h1, x, 0, h2, h3, Hx.out, by rw [Gt.pl_nm, Nat.zero_add]; exact Kk.out.symm, by rw [Gt.pr_nm]⟩
 case round =>
  rintro l s W hok ⟨hb, hr0, y, c, hr1, hr2, hy, hc, hp⟩ hlt
  have hsem := Oper.semAt_some
  have hfn := wideFn
  have hdp := wideDepth
  gi_wp2
  refine ⟨World.grownBy.refl _ _, ?_⟩
  intro W2 hg2 hs2
  have hn := HN.out.2.2.2.2
  have r0 := hr0.grown hg2 (by omega)
  have r1 := hr1.grown hg2 (by omega)
  have r2 := hr2.grown hg2 (by omega)
  have hb2 := below_grown hb hg2 hb.size (by omega)
  have c0 := r0.cell 0
  have c1 := r1.cell 0
  have c2 := r2.cell 0
  simp at c0 c1 c2
  have hmx := Tryz.mixed
  have hck : c < k := by
   have h1 := hok.1
   rw [Gt.pl_yes s.1 (by omega) hok.2.1] at hc
   omega
  have hC : Hid (c + 1 + pl (jNx s).1 (jNx s).2 = k) := by
   have h1 := hok.1
   rw [Gt.pl_yes s.1 (by omega) hok.2.1] at hc
   show _ = _
   rw [Gt.pl_nm]
   omega
  have hcki : (c : Int) < (k : Int) := by omega
  obtain ⟨c1, hc1⟩ : ∃ c1, c + 1 = c1 := ⟨_, rfl⟩
  have hw1 : IntKind.i64.wrap ((c : Int) + 1) = (c1 : Int) := by rw [IntKind.wrap_i64]; omega
  rw [hc1] at hC
  have hs1 := hok.1
  have h16 := KS.out c hck
  obtain ⟨b', off, rfl, hcc⟩ := (KH.out.below hb2) c hck
  have hS2 : Hid (w8.heap.size + 2 < W2.heap.size) := by rw [hs2]; exact hlt
  clear hr0 hr1 hr2 hg2 hs2 hb hc
  by_cases hev : s.1 % 2 = 0
  ·have hlq : ((s.1 : Nat) : Int) < ((nb s.1 : Nat) : Int) := by unfold nb; rw [if_pos hev]; omega
   have HJ : Hid (∀ w0, Calls Tryz.prog 154 #[.string y, .string (S c)] w0 fun e w' => e = .returned (.string (jn y (S c))) ∧ Below w0.heap.size w0 w') := fun w0 => join_any _ _ w0 (by omega) (by omega)
   have HP : Hid (pr (jn y (S c)) (jNx s).1 (jNx s).2 S c1 = pr x i n S 0) := by
    show _ = _
    rw [Gt.pr_nm, ← hp, ← hc1, Gt.pr_yes y s.1 S c (by omega) hok.2.1, if_pos hev]
   have HZ : Hid ((jn y (S c)).size = 16) := Gt.jn_size _ _
   generalize jn y (S c) = z at HJ HP HZ
   generalize S c = sc at HJ hcc
   generalize nb s.1 = q at hlq
   generalize s.1 = p at hlq
   clear hp hev hc1
   gi_wp2_with fail
   gi_region_with_o (gi_at_call 154; refine (CallsIn.inRound l (callsIn_wide.2 (HJ.out _))).mono ?_; rintro e w9 ⟨rfl, hb9'⟩; have hb9 := below_of_drew hb9'; clear hb9'; have g1 := (r1.below hb9 r1.lt).cell 0; have f1 := (r1.below hb9 r1.lt).free 0; simp at g1; have HW := round_set (z := z) (c1 := c1) hb2 hb9 r0 r1 r2 hn.2; have g2 := HW.out.1.cell 0; have f2 := HW.out.1.free 0; simp at g2)
   all_goals gi_wp2
   all_goals exact ⟨HW.out.2.1, fun j h1 h2 => HW.out.2.2.1 j (by omega) (by have := hS2.out; omega), HW.out.2.2.2.1, HW.out.2.2.2.2.1, z, c1, HW.out.2.2.2.2.2.1, HW.out.2.2.2.2.2.2, HZ.out, hC.out, HP.out⟩
  ·have hlq : ¬ ((s.1 : Nat) : Int) < ((nb s.1 : Nat) : Int) := by unfold nb; rw [if_neg hev]; omega
   have HJ : Hid (∀ w0, Calls Tryz.prog 154 #[.string (S c), .string y] w0 fun e w' => e = .returned (.string (jn (S c) y)) ∧ Below w0.heap.size w0 w') := fun w0 => join_any _ _ w0 (by omega) (by omega)
   have HP : Hid (pr (jn (S c) y) (jNx s).1 (jNx s).2 S c1 = pr x i n S 0) := by
    show _ = _
    rw [Gt.pr_nm, ← hp, ← hc1, Gt.pr_yes y s.1 S c (by omega) hok.2.1, if_neg hev]
   have HZ : Hid ((jn (S c) y).size = 16) := Gt.jn_size _ _
   generalize jn (S c) y = z at HJ HP HZ
   generalize S c = sc at HJ hcc
   generalize nb s.1 = q at hlq
   generalize s.1 = p at hlq
   clear hp hev hc1
   gi_wp2_with fail
   gi_region_with_o (gi_at_call 154; refine (CallsIn.inRound l (callsIn_wide.2 (HJ.out _))).mono ?_; rintro e w9 ⟨rfl, hb9'⟩; have hb9 := below_of_drew hb9'; clear hb9'; have g1 := (r1.below hb9 r1.lt).cell 0; have f1 := (r1.below hb9 r1.lt).free 0; simp at g1; have HW := round_set (z := z) (c1 := c1) hb2 hb9 r0 r1 r2 hn.2; have g2 := HW.out.1.cell 0; have f2 := HW.out.1.free 0; simp at g2)
   all_goals gi_wp2
   all_goals exact ⟨HW.out.2.1, fun j h1 h2 => HW.out.2.2.1 j (by omega) (by have := hS2.out; omega), HW.out.2.2.2.1, HW.out.2.2.2.2.1, z, c1, HW.out.2.2.2.2.2.1, HW.out.2.2.2.2.2.2, HZ.out, hC.out, HP.out⟩
 case done =>
  rintro s W hf ⟨hb, hr0, y, c, hr1, hr2, hy, hc, hp⟩ hK
  have e0 := hr1.cell 0
  simp at e0
  have hyy : Hid (y = pr x i n S 0) := by rw [Gt.pr_one _ _ _ _ hf] at hp; exact hp
  go_wp2
  refine ⟨by simp, .inl ⟨_, _, rfl, run_takeDeferred hK, ?_⟩⟩
  exact ⟨_, results_tmp2 rfl _ _ _, by rw [← hyy.out]; rfl, below_grown hb (grownBy_put _ _ _) hb.size (by have := HN.out; omega)⟩
end Go.Proofs.YtodnodekheaacaaGreatDoor
namespace Go.Proofs.YtodnodekheaacaaGreatDoor
open Go.ChangeShapes Go.WideShapes Go.ChangeAt Go.RowKit Go.Shelf
open Gt (hf up)
abbrev RSt := Bool × Nat × (Nat → ByteArray)
abbrev rEnc (s : RSt) : Array Value := #[RwV s.2.2 s.2.1]
abbrev rOk (s : RSt) : Prop := s.1 = false ∧ 1 ≤ s.2.1 ∧ s.2.1 ≤ 64 ∧ ∀ i, i < s.2.1 → (s.2.2 i).size = 16
def rNx (s : RSt) : RSt := if s.2.1 ≤ 1 then (true, s.2.1, s.2.2) else (false, hf s.2.1, up s.2.1 s.2.2)
abbrev rFin (s : RSt) : Prop := s.1 = true
theorem rows_iter (T0 : Nat → ByteArray) (n : Nat) (h1n : 1 ≤ n) (hn : n ≤ 64) (hS : ∀ i, i < n → (T0 i).size = 16) : IterM Tryz.prog 106 (RwV T0 n) rEnc rOk rNx rFin (false, n, T0) := by
 intro nn m l J W hJ hY hm h0
 subst hm
 have KY : Hid (∀ s W1, rOk s → J s W1 → W.heap.size < W1.heap.size → YieldAt Fence.wide m Tryz.prog l (rEnc s) W1 fun e W' => e = .returned (.bool true) ∧ J (rNx s) W' ∧ W.heap.size < W'.heap.size ∧ W'.heap[W.heap.size]? = W1.heap[W.heap.size]?) := hY
 clear hY
 have KJ : Hid (∀ s A B, J s A → A.grownBy B (some W.heap.size) → J s B) := hJ
 clear hJ
 have hfn := wideFn
 have hdp := wideDepth
 have KS : Hid (∀ i, i < n → (T0 i).size = 16) := hS
 clear hS
 obtain ⟨b, hb⟩ : ∃ b, W.heap.size = b := ⟨_, rfl⟩
 have KW : Hid (W.heap.size = b) := hb
 refine callsIn_of_wp Tryz.func106 rfl trivial ?_ rfl
 simp only [Tryz.ntmps106, List.size_toArray, List.length_cons, List.length_nil, Nat.reduceAdd, Nat.reduceSub, Array.replicate_succ, Array.replicate_zero, List.push_toArray, List.append_toArray, List.nil_append, List.cons_append]
 gi_wp2_with (refine i_box (by rfl) _ (by rfl) T0 n (by rfl) ?_)
 go_simp
 gi_loopg [] n (fun gk wr => ∃ (k : Nat) (T : Nat → ByteArray), k = gk ∧ 1 ≤ k ∧ k ≤ 64 ∧ Hid (∀ i, i < k → (T i).size = 16) ∧ Row wr b 143 (rowC T k) ∧ Hid (J (false, k, T) wr))
 case atStart =>
  refine ⟨n, T0, rfl, h1n, hn, KS, ?_, KJ.out _ _ _ h0 (World.grownBy_alloc _ _ _)⟩
  rw [← hb]
  exact Row.new W _ _
 case round =>
  obtain ⟨k, T, rfl, hk1, hk64, HS, hr, HJ⟩ := hrel
  clear h0 KS
  have hlb : b < wr.heap.size := hr.lt
  obtain ⟨fn, tmps, assign, body, hy, hR⟩ := KY.out (false, k, T) wr ⟨rfl, hk1, hk64, HS.out⟩ HJ.out (by rw [KW.out]; exact hlb)
  have HR : Hid (RoundIn Fence.wide m Tryz.prog l fn tmps assign body wr fun e W' => e = .returned (.bool true) ∧ J (rNx (false, k, T)) W' ∧ W.heap.size < W'.heap.size ∧ W'.heap[W.heap.size]? = wr.heap[W.heap.size]?) := hR
  clear hR
  simp only [rEnc] at hy
  have hmm : m + 1 - 1 = m := rfl
  by_cases h1 : k ≤ 1
  ·have h1' : ¬ (1 : Int) < (k : Int) := by omega
   gi_wp2_with (refine i_load (by rfl) _ (by rfl) b (by rfl) T k hr ?_)
   refine HR.out.mono ?_
   rintro e w2 ⟨rfl, hJ2, hs2, hk2⟩
   have R2 : Row w2 b 143 (rowC T k) := by
    unfold Row
    rw [← KW.out, hk2, KW.out]
    exact hr
   have e64 : w2.cell? ⟨b, 64, none⟩ = some (.int .i64 (k : Int)) := by rw [R2.cell 64, rowC_last]
   have HJ2 : Hid (J (true, k, T) w2) := by unfold rNx at hJ2; rw [if_pos h1] at hJ2; exact hJ2
   clear hJ2 hs2 hk2 hr
   gi_wp2
   go_end0
   first | exact ⟨⟨_, rfl⟩, (true, k, T), rfl, HJ2.out⟩ | exact ⟨⟨_, rfl⟩, true, ⟨k, T, HJ2.out⟩, rfl⟩ | exact ⟨⟨_, rfl⟩, true, k, T, rfl, HJ2.out⟩ | exact ⟨⟨_, rfl⟩, true, rfl, k, T, HJ2.out⟩ | exact ⟨⟨_, rfl⟩, true, ⟨k, T, rfl, HJ2.out⟩⟩
  ·have h1' : (1 : Int) < (k : Int) := by omega
   gi_wp2_with (refine i_load (by rfl) _ (by rfl) b (by rfl) T k hr ?_)
   refine HR.out.mono ?_
   rintro e w2 ⟨rfl, hJ2, hs2, hk2⟩
   have R2 : Row w2 b 143 (rowC T k) := by
    unfold Row
    rw [← KW.out, hk2, KW.out]
    exact hr
   have e64 : w2.cell? ⟨b, 64, none⟩ = some (.int .i64 (k : Int)) := by rw [R2.cell 64, rowC_last]
   have HJ2 : Hid (J (false, hf k, up k T) w2) := by unfold rNx at hJ2; rw [if_neg h1] at hJ2; exact hJ2
   have KA : Hid (Calls Tryz.prog 145 #[RwV T k] w2 fun e w' => e = .returned (RwV (up k T) (hf k)) ∧ Below w2.heap.size w2 w') := rowAbove_any T k w2 hk1 hk64 HS.out
   have HU : Hid (∀ i, i < hf k → (up k T i).size = 16) := Gt.up_size HS.out
   have hlt : 1 ≤ hf k ∧ hf k < k := by unfold hf; omega
   clear hJ2 hs2 hk2 hr
   generalize hf k = k' at *
   generalize up k T = T' at *
   gi_wp2_with (refine i_load (by rfl) _ (by rfl) b (by rfl) T k R2 ?_)
   refine (callsIn_wide.2 KA.out).mono ?_
   rintro e w3 ⟨rfl, hb3⟩
   have R3 := R2.below hb3 R2.lt
   have HJ3 : Hid (J (false, k', T') (w3.setRow b (rowC T' k'))) := by
    have hg := grown_below (some b) hb3
    have hg2 : w3.grownBy (w3.setRow b (rowC T' k')) (some b) := ⟨rfl, rfl, rfl, by simp, fun j _ hj => setRow_other _ _ _ _ (fun e => hj (by rw [e]))⟩
    rw [← KW.out] at hg hg2 ⊢
    exact KJ.out _ _ _ (KJ.out _ _ _ HJ2.out hg) hg2
   have R4 := R3.row (ds := rowC T' k')
   gi_wp2_with (refine i_store (by rfl) _ _ (by rfl) b (by rfl) T' k' (by rfl) T k R3 ?_)
   gi_roundg k'
   case measure => exact hlt.2
   case rel => exact ⟨k', T', rfl, hlt.1, by omega, HU, R4, HJ3⟩
end Go.Proofs.YtodnodekheaacaaGreatDoor
namespace Go.Proofs.YtodnodekheaacaaGreatDoor
open Go.ChangeShapes Go.WideShapes Go.ChangeAt Go.RowKit Go.Shelf
open Gt (hf up rt)
def rtS (n : Nat) (S : Nat → ByteArray) : ByteArray := if lvB n S = true then rt n S else ⟨#[]⟩
theorem lvB_parts {n : Nat} {S : Nat → ByteArray} (h : lvB n S = true) : 1 ≤ n ∧ n ≤ 64 ∧ ∀ i, i < n → (S i).size = 16 := by
 unfold lvB at h
 rw [Bool.and_eq_true] at h
 have h2 := h.2
 unfold inB at h2
 simp at h2
 exact ⟨by omega, by omega, aS_iff.1 h.1⟩
theorem padT_at {n i : Nat} (S : Nat → ByteArray) (h : i < n) : padT n S i = S i := if_pos h
theorem root_no (a : Option Addr) (n cap : Nat) (S : Nat → ByteArray) (w : World) (h : TxtAt w a n S) (hn : n ≤ 1048576) (hL : ∀ i, i < n → (S i).size ≤ maxLen) (hno : lvB n S = false) :
  Calls Tryz.prog 83 #[.slice a n cap] w fun e w' => e = .returned (.tuple #[.string ⟨#[]⟩, .bool false]) ∧ Below w.heap.size w w' := by
 have KL : Hid (Calls Tryz.prog 104 #[.slice a n cap] w fun e w' => e = .returned (.tuple #[RwV noT 0, .bool false]) ∧ Below w.heap.size w w') := leafRow_no a n cap S w h hn hL hno
 clear h hL hno
 go_enter Tryz.func83, Tryz.ntmps83
 go_wp2_with fail
 refine KL.out.mono ?_
 rintro e w1 ⟨rfl, hb1⟩
 have HB : Hid (Below w.heap.size w (w1.alloc (.cells (rowC noT 0) 143))) := hb1.alloc hb1.size _
 have HF : Hid ((w1.alloc (.cells (rowC noT 0) 143)).setRow w1.heap.size (rowC noT 0) = w1.alloc (.cells (rowC noT 0) 143)) := setRow_alloc _ _ _ _
 go_wp2_with (first | (refine p_alloc (by rfl) (by rfl) ?_) | (refine p_store (by rfl) _ _ (by rfl) w1.heap.size (by rfl) noT 0 (by rfl) noT 0 (Row.new w1 _ _) ?_; rw [HF.out]))
 go_ret2
 exact ⟨rfl, HB.out⟩
theorem root_yes (a : Option Addr) (n cap : Nat) (S : Nat → ByteArray) (w : World) (h : TxtAt w a n S) (hyes : lvB n S = true) :
  Calls Tryz.prog 83 #[.slice a n cap] w fun e w' => e = .returned (.tuple #[.string (rt n S), .bool true]) ∧ Below w.heap.size w w' := by
 have KL : Hid (Calls Tryz.prog 104 #[.slice a n cap] w fun e w' => e = .returned (.tuple #[RwV (padT n S) n, .bool true]) ∧ Below w.heap.size w w') := leafRow_yes a n cap S w h hyes
 obtain ⟨h1, h64, h16⟩ := lvB_parts hyes
 obtain ⟨R, HR⟩ : ∃ R, Hid (rt n S = R) := ⟨_, rfl⟩
 have HT : Hid (rt n (padT n S) = R) := by show _ = _; rw [← HR.out]; exact Gt.rt_congr (by omega) (fun i hi => padT_at S hi)
 have H16 : Hid (∀ i, i < n → (padT n S i).size = 16) := fun i hi => by rw [padT_at S hi]; exact h16 i hi
 have HRs : Hid (R.size = 16) := by show _ = _; rw [← HR.out]; exact Gt.rt_size (by omega) h16
 rw [HR.out]
 clear h hyes h16 HR
 generalize padT n S = T at *
 refine (callsIn_wide (n := 2)).1 (callsIn_of_wp_marks Tryz.func83 rfl trivial (wpIn_wide.2 ?_) rfl)
 simp only [Tryz.ntmps83, List.size_toArray, List.length_cons, List.length_nil, Nat.reduceAdd, Nat.reduceSub, Array.replicate_succ, Array.replicate_zero, List.push_toArray, List.append_toArray, List.nil_append, List.cons_append]
 go_wp2_with fail
 refine KL.out.mono ?_
 rintro e w1 ⟨rfl, hb1⟩
 obtain ⟨w2, HW2⟩ : ∃ w2, Hid (w2 = w1.alloc (.cells (rowC T n) 143)) := ⟨_, rfl⟩
 have HF : Hid ((w1.alloc (.cells (rowC noT 0) 143)).setRow w1.heap.size (rowC T n) = w2) := by rw [HW2.out]; exact setRow_alloc _ _ _ _
 obtain ⟨B, hB⟩ : ∃ B, w1.heap.size = B := ⟨_, rfl⟩
 have K2 : Hid (Row w2 B 143 (rowC T n) ∧ Below w.heap.size w w2 ∧ w2.heap.size = B + 1 ∧ w.heap.size ≤ B) := by
  rw [HW2.out, ← hB]
  exact ⟨Row.new w1 _ _, hb1.alloc hb1.size _, by simp, hb1.size⟩
 have K3 : Hid (Row (w2.alloc (.cells #[.string ⟨#[]⟩] 9)) B 143 (rowC T n)) := K2.out.1.alloc _
 have hz2 := K2.out.2.2.1
 go_wp2_with (first | (refine p_alloc (by rfl) (by rfl) ?_) | (refine p_store (by rfl) _ _ (by rfl) w1.heap.size (by rfl) T n (by rfl) noT 0 (Row.new w1 _ _) ?_; rw [HF.out]) | (refine p_load (by rfl) _ (by rfl) B (by rfl) T n K3.out ?_))
 obtain ⟨w8, HW8⟩ : ∃ w8, Hid (w8 = w2.alloc (.cells #[.string ⟨#[]⟩] 9)) := ⟨_, rfl⟩
 have HN : Hid (Row w8 (B + 1) 9 #[.string ⟨#[]⟩] ∧ Below w.heap.size w w8 ∧ w8.heap.size = B + 2 ∧ w.heap.size ≤ B) := by
  rw [HW8.out]
  obtain ⟨a1, a2, a3, a4⟩ := K2.out
  refine ⟨?_, a2.alloc (by omega) _, by simp; omega, a4⟩
  have := Row.new w2 #[.string ⟨#[]⟩] 9
  rw [a3] at this
  exact this
 rw [← HW8.out]
 clear hB hz2 hb1
 refine (wpIn_wide (n := 2)).1 ?_
 refine wpIn_rangeM (recv := RwV T n) (gf := 106) (by rfl) (enters_of Tryz.func106 (by kernel_rfl) rfl) (rows_iter T n h1 h64 H16.out) (fun _ => rfl)
  (fun s W => Below w.heap.size w W ∧ ∃ r : ByteArray, Row W (B + 1) 9 #[.string r] ∧ (s.1 = false → rt s.2.1 s.2.2 = R) ∧ (s.1 = true → r = R)) ?abide ?start ?round ?done
 case abide =>
  rintro s A A' j h1 h2 ⟨hb, r, hr, hp, hq⟩ hg
  have hn := HN.out.2.2
  exact ⟨below_grown hb hg hb.size (by omega), r, hr.grown hg (by omega), hp, hq⟩
 case start => exact ⟨HN.out.2.1, _, HN.out.1, fun _ => HT.out, fun e => by cases e⟩
 case round =>
  rintro l ⟨d, m, T'⟩ W hok ⟨hb, r, hr, hp, hq⟩ hlt
  have hn := HN.out.2.2
  have hd : d = false := hok.1
  have hp2 := hp hd
  have HX : Hid (R = rt m T') := hp2.symm
  have HO : Hid (rOk (d, m, T')) := hok
  clear hp hq hp2 hok
  have hsem := Oper.semAt_some
  have HF2 : Hid ((W.alloc (.cells (rowC noT 0) 143)).setRow W.heap.size (rowC T' m) = W.alloc (.cells (rowC T' m) 143)) := setRow_alloc _ _ _ _
  go_simp
  gi_wp2_with (first | (refine i_alloc (by rfl) (by rfl) ?_) | (refine i_store (by rfl) _ _ (by rfl) W.heap.size (by rfl) T' m (by rfl) noT 0 (Row.new W _ _) ?_; rw [HF2.out]))
  refine ⟨World.grownBy_alloc _ _ _, ?_⟩
  intro W2 hg2 hs2
  have r1 := (hr.alloc (.cells (rowC T' m) 143)).grown hg2 (by omega)
  have rX := (Row.new W (rowC T' m) 143).grown hg2 (by omega)
  have hb2 := below_grown (hb.alloc hb.size (.cells (rowC T' m) 143)) hg2 (by simp; have := hb.size; omega) (by omega)
  have c1 := r1.cell 0
  have f1 := r1.free 0
  have cX : W2.cell? ⟨W.heap.size, 0, none⟩ = some (.string (T' 0)) := by rw [rX.cell 0, rowC_get _ _ _ (by omega)]
  simp at c1
  have HR1 : Hid (Row (W2.setCell ⟨B + 1, 0, none⟩ (.string (T' 0))) (B + 1) 9 #[.string (T' 0)]) := r1.set 0 (.string (T' 0))
  have HB1 : Hid (Below w.heap.size w (W2.setCell ⟨B + 1, 0, none⟩ (.string (T' 0)))) := hb2.setCell (by simp; omega) _
  have HE : Hid (((rNx (d, m, T')).1 = false → rt (rNx (d, m, T')).2.1 (rNx (d, m, T')).2.2 = R) ∧ ((rNx (d, m, T')).1 = true → T' 0 = R)) := by
   show _ ∧ _
   unfold rNx
   by_cases e : m ≤ 1
   ·rw [if_pos e]
    refine ⟨fun x => (by cases x), fun _ => ?_⟩
    rw [HX.out, Gt.rt_one _ e]
   ·rw [if_neg e]
    refine ⟨fun _ => ?_, fun x => (by cases x)⟩
    rw [HX.out, Gt.rt_more _ e]
  generalize T' 0 = t0 at cX HR1 HB1 HE
  clear hd HX HO hg2 hs2 hr
  gi_wp2
  exact ⟨by simp, fun j h1 h2 => Below.heap_setCell _ _ _ _ (by simp; omega), HB1.out, t0, HR1.out, HE.out⟩
 case done =>
  rintro s W hf ⟨hb, r, hr, hp, hq⟩ hK
  obtain rfl : r = R := hq hf
  have e0 := hr.cell 0
  simp at e0
  have KC : Hid (∀ w0, Calls Tryz.prog 72 #[.string r] w0 fun e w' => e = .returned (.string r) ∧ Below w0.heap.size w0 w') := fun w0 => clone_any r w0 (by have := HRs.out; omega)
  go_wp2_with fail
  refine (KC.out _).mono ?_
  rintro e w9 ⟨rfl, hb9⟩
  have hK9 : w9.heap[w8.heap.size]? = some (.deferred (some [])) := (hb9.block _ (Array.getElem?_eq_some_iff.1 hK).1).trans hK
  have HB9 : Hid (Below w.heap.size w w9) := hb.trans (hb9.mono hb.size)
  go_wp2
  refine ⟨by simp, .inl ⟨_, _, rfl, run_takeDeferred hK9, ?_⟩⟩
  exact ⟨_, results_tmp2 rfl _ _ _, rfl, below_grown HB9.out (grownBy_put _ _ _) HB9.out.size (by have := HN.out.2.2; omega)⟩
theorem root_any (a : Option Addr) (n cap : Nat) (S : Nat → ByteArray) (w : World) (h : TxtAt w a n S) (hn : n ≤ 1048576) (hL : ∀ i, i < n → (S i).size ≤ maxLen) :
  Calls Tryz.prog 83 #[.slice a n cap] w fun e w' => e = .returned (.tuple #[.string (rtS n S), .bool (lvB n S)]) ∧ Below w.heap.size w w' := by
 unfold rtS
 cases hB : lvB n S with
 | false => exact root_no a n cap S w h hn hL hB
 | true => exact root_yes a n cap S w h hB
end Go.Proofs.YtodnodekheaacaaGreatDoor
