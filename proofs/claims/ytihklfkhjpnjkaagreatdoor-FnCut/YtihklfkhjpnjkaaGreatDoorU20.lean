import Derived.Test.YtihklfkhjpnjkaaGreatDoorU16
import Derived.Test.YtihklfkhjpnjkaaGreatDoorU10
import Derived.Lib.Strings
import Derived.Lib.Walk
import Derived.Lib.BufferWrite
import Derived.Lib.UnsafeStr
import Derived.Lib.Hide
import Derived.Laws.MakeOwn
import Derived.Test.YtihklfkhjpnjkaaGreatDoorU1
import Derived.Test.YtihklfkhjpnjkaaGreatDoorU4
set_option maxHeartbeats 8000000
set_option maxRecDepth 2000
open Go.ChangeShapes Go.WideShapes Go.ChangeAt Go.RowKit
namespace Go.Proofs.YtihklfkhjpnjkaaGreatDoor
open Go.ChangeShapes Go.WideShapes Go.ChangeAt Go.RowKit Go.Shelf
open Gt (nb hf nm pl)
def plI (i n : Int) : Int := if inT i n = true then ((pl i.toNat n.toNat : Nat) : Int) else -1
theorem Row.grown {w w' : World} {g j : Nat} {t : TypeId} {cs : Array Value} (h : Row w g t cs) (hg : w.grownBy w' (some j)) (hj : g ≠ j) : Row w' g t cs := (hg.block g h.lt (by simpa using hj)).trans h
theorem below_grown {B j : Nat} {w0 w w' : World} (h : Below B w0 w) (hg : w.grownBy w' (some j)) (hB : B ≤ w.heap.size) (hj : B ≤ j) : Below B w0 w' := h.grown hg hB (fun k e => by cases e; exact hj)
theorem proofLen_in (i n : Nat) (w : World) (hin : inT (i : Int) (n : Int) = true) :
  Calls Tryz.prog 116 #[.int .i64 (i : Int), .int .i64 (n : Int)] w fun e w' => e = .returned (.int .i64 ((pl i n : Nat) : Int)) ∧ Below w.heap.size w w' := by
 have hi : i < n ∧ n ≤ 64 := by simp [inT] at hin; omega
 have KT : Hid (∀ w0, Calls Tryz.prog 106 #[SpV (i : Int) (n : Int)] w0 fun e w' => e = .returned (.bool true) ∧ Below w0.heap.size w0 w') := by
  have := fun w0 => isInTree_any (i : Int) (n : Int) w0
  rw [hin] at this
  exact this
 have hfn := wideFn
 have hdp := wideDepth
 refine (callsIn_wide (n := 2)).1 ?_
 refine callsIn_of_wp_marks Tryz.func116 rfl trivial ?_ rfl
 simp only [Tryz.ntmps116, List.size_toArray, List.length_cons, List.length_nil, Nat.reduceAdd, Nat.reduceSub, Array.replicate_succ, Array.replicate_zero, List.push_toArray, List.append_toArray, List.nil_append, List.cons_append]
 have R0 := Row.new w #[.int .i64 (i : Int), .int .i64 (n : Int)] 124
 have HB0 : Hid (Below w.heap.size w (w.alloc (.cells #[.int .i64 (i : Int), .int .i64 (n : Int)] 124))) := (Below.refl _ _).alloc (Nat.le_refl _) _
 gi_wp2_with fail
 refine (callsIn_wide.2 (KT.out _)).mono ?_
 rintro e w1 ⟨rfl, hb1⟩
 have R1 := R0.below hb1 R0.lt
 have R2 := R1.alloc (.cells #[.int .i64 0] 3)
 have c0 := R2.cell 0
 have c1 := R2.cell 1
 simp at c0 c1
 have HN : Hid (Row (w1.alloc (.cells #[.int .i64 0] 3)) w1.heap.size 3 #[.int .i64 ((0 : Nat) : Int)] ∧ Below w.heap.size w (w1.alloc (.cells #[.int .i64 0] 3)) ∧ (w1.alloc (.cells #[.int .i64 0] 3)).heap.size = w1.heap.size + 1 ∧ w.heap.size ≤ w1.heap.size) := by
  have hb := below2 HB0.out hb1
  exact ⟨Row.new _ _ _, hb.alloc hb.size _, by simp, hb.size⟩
 gi_wp2
 clear c0 c1 R2 R1 R0 HB0
 generalize w1.alloc (.cells #[.int .i64 0] 3) = w2 at HN ⊢
 obtain ⟨B, hB⟩ : ∃ B, w1.heap.size = B := ⟨_, rfl⟩
 rw [hB] at HN ⊢
 clear hB
 refine wpIn_rangeM (recv := SpV (i : Int) (n : Int)) (gf := 118) (by rfl) (enters_of Tryz.func118 (by kernel_rfl) rfl) (joins_iter i n hi.1 hi.2) (fun _ => rfl)
  (fun s W => Below w.heap.size w W ∧ ∃ c : Nat, Row W B 3 #[.int .i64 (c : Int)] ∧ c + pl s.1 s.2 = pl i n) ?abide ?start ?round ?done
 case abide =>
  rintro s A A' j h1 h2 ⟨hb, c, hr, hc⟩ hg
  exact ⟨below_grown hb hg hb.size (by have := HN.out; omega), c, hr.grown hg (by have := HN.out; omega), hc⟩
 case start => exact ⟨HN.out.2.1, 0, HN.out.1, by rw [Gt.pl_nm]; omega⟩
 case round =>
  rintro l s W hok ⟨hb, c, hr, hc⟩ hlt
  have hn6 : c ≤ 64 := by
   have := Gt.pl_le 6 i n (by omega)
   omega
  have hsem := Oper.semAt_some
  gi_wp2
  refine ⟨World.grownBy.refl _ _, ?_⟩
  intro W2 hg2 hs2
  have r2 := hr.grown hg2 (by have := HN.out; omega)
  have hb2 := below_grown hb hg2 hb.size (by have := HN.out; omega)
  have e0 := r2.cell 0
  have f0 := r2.free 0
  simp at e0
  obtain ⟨c1, hc1⟩ : ∃ c1, c + 1 = c1 := ⟨_, rfl⟩
  have hw : IntKind.i64.wrap ((c : Int) + 1) = (c1 : Int) := by rw [IntKind.wrap_i64]; omega
  have HR : Hid (Row (W2.setCell ⟨B, 0, none⟩ (.int .i64 (c1 : Int))) B 3 #[.int .i64 (c1 : Int)]) := r2.set 0 (.int .i64 (c1 : Int))
  have HB : Hid (Below w.heap.size w (W2.setCell ⟨B, 0, none⟩ (.int .i64 (c1 : Int)))) := hb2.setCell (by have := HN.out; simp; omega) _
  have HC : Hid (c1 + pl (jNx s).1 (jNx s).2 = pl i n) := by
   have h1 := hok.1
   rw [Gt.pl_yes s.1 (by omega) hok.2.1] at hc
   show _ = _
   rw [Gt.pl_nm]
   omega
  clear hc1
  gi_wp2
  exact ⟨by simp, fun j h1 h2 => Below.heap_setCell _ _ _ _ (by have := HN.out; simp; omega), HB.out, c1, HR.out, HC.out⟩
 case done =>
  rintro s W hf ⟨hb, c, hr, hc⟩ hK
  have e0 := hr.cell 0
  simp at e0
  have hcc : c = pl i n := by rw [Gt.pl_one _ hf] at hc; omega
  gi_wp2
  refine ⟨by simp, .inl ⟨_, _, rfl, run_takeDeferred hK, ?_⟩⟩
  exact ⟨_, results_tmp rfl _ _ _, by rw [← hcc]; rfl, below_grown hb (grownBy_put _ _ _) hb.size (by have := HN.out; omega)⟩
theorem proofLen_any (i n : Int) (w : World) : Calls Tryz.prog 116 #[.int .i64 i, .int .i64 n] w fun e w' => e = .returned (.int .i64 (plI i n)) ∧ Below w.heap.size w w' := by
 cases hin : inT i n with
 | true =>
  obtain ⟨i', rfl⟩ : ∃ i' : Nat, i = (i' : Int) := ⟨i.toNat, by simp [inT] at hin; omega⟩
  obtain ⟨n', rfl⟩ : ∃ n' : Nat, n = (n' : Int) := ⟨n.toNat, by simp [inT] at hin; omega⟩
  have e : plI (i' : Int) (n' : Int) = ((pl i' n' : Nat) : Int) := by unfold plI; rw [if_pos hin]; simp
  rw [e]
  exact proofLen_in i' n' w hin
 | false =>
  have e : plI i n = -1 := by unfold plI; rw [hin]; rfl
  rw [e]
  have KT : Hid (∀ w0, Calls Tryz.prog 106 #[SpV i n] w0 fun e w' => e = .returned (.bool false) ∧ Below w0.heap.size w0 w') := by
   have := fun w0 => isInTree_any i n w0
   rw [hin] at this
   exact this
  go_enter Tryz.func116, Tryz.ntmps116
  go_wp2_with fail
  refine (KT.out _).mono ?_
  rintro e w1 ⟨rfl, hb1⟩
  have hb := below2 ((Below.refl _ w).alloc (Nat.le_refl _) (.cells #[.int .i64 i, .int .i64 n] 124)) hb1
  go_wp2
  go_ret
  exact ⟨rfl, hb⟩
end Go.Proofs.YtihklfkhjpnjkaaGreatDoor
namespace Go.Proofs.YtihklfkhjpnjkaaGreatDoor
open Gt (nb hf pl)
theorem up_nums (p s : Nat) (hp : p < s) (hs : s ≤ 64) : IntKind.i64.wrap ((p : Int) + 1) = (p : Int) + 1 ∧ (p : Int).tmod 2 = (p : Int) % 2 ∧ IntKind.i64.wrap (2 * ((p : Int) % 2)) = 2 * ((p : Int) % 2) ∧ IntKind.i64.wrap ((p : Int) + 1 - 2 * ((p : Int) % 2)) = ((nb p : Nat) : Int) ∧
  (p : Int).tdiv 2 = ((p / 2 : Nat) : Int) ∧ IntKind.i64.wrap ((p / 2 : Nat) : Int) = ((p / 2 : Nat) : Int) ∧ IntKind.i64.wrap ((s : Int) + 1) = (s : Int) + 1 ∧ ((s : Int) + 1).tdiv 2 = ((hf s : Nat) : Int) ∧ IntKind.i64.wrap ((hf s : Nat) : Int) = ((hf s : Nat) : Int) := by
 refine ⟨by rw [IntKind.wrap_i64]; omega, by rw [Int.tmod_eq_emod_of_nonneg (by omega)], by rw [IntKind.wrap_i64]; omega, ?_, by rw [Int.tdiv_eq_ediv_of_nonneg (by omega)]; omega, by rw [IntKind.wrap_i64]; omega, by rw [IntKind.wrap_i64]; omega, by rw [Int.tdiv_eq_ediv_of_nonneg (by omega)]; unfold hf; omega, by unfold hf; rw [IntKind.wrap_i64]; omega⟩
 rw [Gt.nb_model, IntKind.wrap_i64]
 have : nb p ≤ p + 1 := by unfold nb; split <;> omega
 omega
theorem inB_false {x a b : Int} (h : ¬ (a ≤ x ∧ x ≤ b)) : inB x a b = false := by unfold inB; simpa using h
theorem inB_true {x a b : Int} (h : a ≤ x ∧ x ≤ b) : inB x a b = true := by unfold inB; simpa using h
end Go.Proofs.YtihklfkhjpnjkaaGreatDoor
namespace Go.Proofs.YtihklfkhjpnjkaaGreatDoor
def aS (n : Nat) (S : Nat → ByteArray) : Bool := decide (∀ i, i < n → (S i).size = 16)
theorem aS_yes {n : Nat} {S : Nat → ByteArray} (h : ∀ i, i < n → (S i).size = 16) : aS n S = true := by unfold aS; simpa using h
theorem aS_no {n k : Nat} {S : Nat → ByteArray} (hk : k < n) (h : (S k).size ≠ 16) : aS n S = false := by unfold aS; simp; exact ⟨k, hk, h⟩
theorem aS_iff {n : Nat} {S : Nat → ByteArray} : aS n S = true ↔ ∀ i, i < n → (S i).size = 16 := by unfold aS; simp
theorem areSums_any (a : Option Addr) (n cap : Nat) (S : Nat → ByteArray) (w : World) (h : TxtAt w a n S) (hn : n ≤ 1048576) (hL : ∀ i, i < n → (S i).size ≤ maxLen) :
  Calls Tryz.prog 117 #[.slice a n cap] w fun e w' => e = .returned (.bool (aS n S)) ∧ w' = w := by
 unfold maxLen at hL
 have KH : Hid (TxtAt w a n S) := h
 have KL : Hid (∀ i, i < n → (S i).size ≤ 9223372036854775807) := hL
 clear h hL
 go_enter Tryz.func117, Tryz.ntmps117
 go_wp2
 go_loop [7] (fun i => ∃ k : Nat, k ≤ n ∧ i = .int .i64 k ∧ Hid (∀ i, i < k → (S i).size = 16)) (fun i => n - (intOf i).toNat)
 case atStart => exact ⟨0, Nat.zero_le _, rfl, fun i hi => by omega⟩
 case round =>
  obtain ⟨k, hk, rfl, HS⟩ := hrel
  by_cases hlt : k < n
  ·obtain ⟨b, off, rfl, hc⟩ := KH.out k hlt
   have hlti : (k : Int) < (n : Int) := by omega
   have hl := KL.out k hlt
   obtain ⟨s, hs⟩ : ∃ s, S k = s := ⟨_, rfl⟩
   rw [hs] at hc hl
   by_cases h16 : s.size = 16
   ·have h16' : (s.size : Int) = 16 := by omega
    have HS2 : Hid (∀ i, i < k + 1 → (S i).size = 16) := fun i hi => by
     by_cases e : i = k
     ·subst e; rw [hs]; exact h16
     ·exact HS.out i (by omega)
    clear h16 hs
    go_wp2
    go_round
    case rel => exact ⟨k + 1, by omega, by go_num, HS2⟩
    case measure => simp [intOf]; omega
   ·have h16' : ((s.size : Int) != 16) = true := by simp; omega
    have HE : Hid (aS n S = false) := aS_no hlt (by rw [hs]; exact h16)
    clear h16 hs
    go_wp2
    go_ret
    exact ⟨by rw [HE.out]; rfl, rfl⟩
  ·obtain rfl : k = n := by omega
   have HE : Hid (aS k S = true) := aS_yes HS.out
   go_wp2
   go_ret
   exact ⟨by rw [HE.out]; rfl, rfl⟩
def lvB (n : Nat) (S : Nat → ByteArray) : Bool := aS n S && inB (n : Int) 1 64
theorem sLeaves_any (a : Option Addr) (n cap : Nat) (S : Nat → ByteArray) (w : World) (h : TxtAt w a n S) (hn : n ≤ 1048576) (hL : ∀ i, i < n → (S i).size ≤ maxLen) :
  Calls Tryz.prog 114 #[.slice a n cap] w fun e w' => e = .returned (.bool (lvB n S)) ∧ w' = w := by
 unfold maxLen at hL
 have KH : Hid (TxtAt w a n S) := h
 have KL : Hid (∀ i, i < n → (S i).size ≤ 9223372036854775807) := hL
 clear h hL
 go_enter Tryz.func114, Tryz.ntmps114
 go_wp2
 go_loop [3] (fun i => ∃ k : Nat, k ≤ n ∧ i = .int .i64 k ∧ Hid (∀ i, i < k → (S i).size = 16)) (fun i => n - (intOf i).toNat)
 case atStart => exact ⟨0, Nat.zero_le _, rfl, fun i hi => by omega⟩
 case round =>
  obtain ⟨k, hk, rfl, HS⟩ := hrel
  by_cases hlt : k < n
  ·obtain ⟨b, off, rfl, hc⟩ := KH.out k hlt
   have hlti : (k : Int) < (n : Int) := by omega
   have hl := KL.out k hlt
   obtain ⟨s, hs⟩ : ∃ s, S k = s := ⟨_, rfl⟩
   rw [hs] at hc hl
   by_cases h16 : s.size = 16
   ·have h16' : (s.size : Int) = 16 := by omega
    have HS2 : Hid (∀ i, i < k + 1 → (S i).size = 16) := fun i hi => by
     by_cases e : i = k
     ·subst e; rw [hs]; exact h16
     ·exact HS.out i (by omega)
    clear h16 hs
    go_wp2
    go_round
    case rel => exact ⟨k + 1, by omega, by go_num, HS2⟩
    case measure => simp [intOf]; omega
   ·have h16' : ((s.size : Int) != 16) = true := by simp; omega
    have HE : Hid (lvB n S = false) := by show _ = _; unfold lvB; rw [aS_no hlt (by rw [hs]; exact h16)]; rfl
    clear h16 hs
    go_wp2
    go_ret
    exact ⟨by rw [HE.out]; rfl, rfl⟩
  ·obtain rfl : k = n := by omega
   have HE : Hid (lvB k S = inB (k : Int) 1 64) := by show _ = _; unfold lvB; rw [aS_yes HS.out]; rfl
   go_wp2_with (go_at_call 60; refine (sIn_any _ _ _ _).mono ?_; rintro e w' ⟨rfl, hw⟩; obtain rfl := hw.symm)
   go_ret
   exact ⟨by rw [HE.out]; rfl, rfl⟩
set_option maxRecDepth 100000 in
theorem cloneLite_any (s : ByteArray) (w : World) (hlim : s.size ≤ 1048576) :
  Calls Tryz.prog 109 #[.string s] w fun e w' => e = .returned (.string s) ∧ Below w.heap.size w w' := by
 by_cases h0 : s.size = 0
 ·have hs : s = ⟨#[]⟩ := by
   apply ByteArray.ext
   exact Array.eq_empty_of_size_eq_zero h0
  subst hs
  go_enter Tryz.func109, Tryz.ntmps109
  go_wp2
  go_ret
  exact ⟨rfl, Below.refl _ _⟩
 ·obtain ⟨i0, hi, hz0, hz1, hz2⟩ := info_parts Tryz.infoByte
  have hinfo : (Tryz.prog.info? 5).map (·.size) = some 1 := by rw [hi]; simp [hz1]
  have hco : Tryz.prog.cellsOf 5 = 1 := by simp [Program.cellsOf, hi, hz1]
  obtain ⟨M, hM⟩ : ∃ M, M = madeCells (Value.int .u8 0).cells (((s.size : Nat) : Int).toNat * i0.size) := ⟨_, rfl⟩
  have hMs : M.size = s.size := by rw [hM, size_madeCells, hz1]; simp
  have hmk : ∀ W : World, (Instr.makeSlice 22 (.int .i64 (s.size : Int)) (.int .i64 (s.size : Int))).run Tryz.prog W = .ok (.slice (some ⟨W.heap.size, 0, none⟩) s.size s.size) (W.alloc (.cells M 5)) := fun W => by
   have h := run_make (P := Tryz.prog) W 22 5 i0 (.int .u8 0) Tryz.underlying22 hi hz0 .i64 .i64 (s.size : Int) (s.size : Int) (by omega) (by omega) (by rw [hz2]; omega) (by omega)
   rw [← hM] at h
   simpa using h
  clear hM
  have hcp := Lib.run_copy_row_string (P := Tryz.prog) (w.alloc (.cells M 5)) 22 9 3 5 w.heap.size 0 s.size s.size s M 5 Tryz.underlying22 hinfo (heap_alloc_new w _) (Nat.le_refl _) (by omega)
  obtain ⟨Y, hY⟩ : ∃ Y, Y = (M.toList.take 0 ++ Lib.byteCells s.data.toList ++ M.toList.drop (0 + s.size)).toArray := ⟨_, rfl⟩
  rw [← hY] at hcp
  have hYl : Y.toList = Lib.byteCells s.data.toList := by
   rw [hY, List.toList_toArray, List.take_zero, List.nil_append, List.drop_of_length_le (by rw [Array.length_toList]; omega), List.append_nil]
  have hYs : Y.size = s.size := by rw [← Array.length_toList, hYl, Lib.byteCells_length, ← Lib.size_eq]
  have hgY : ((w.alloc (.cells M 5)).setRow w.heap.size Y).heap[w.heap.size]? = some (.cells Y 5 (0, 0)) := setRow_heap _ _ M _ 5 (0, 0) (heap_alloc_new w _)
  have hne : s.data.toList ≠ [] := fun e => h0 (by rw [Lib.size_eq, e]; rfl)
  have hUS := Lib.run_unsafeString_row (P := Tryz.prog) ((w.alloc (.cells M 5)).setRow w.heap.size Y) 150 3 9 5 Tryz.underlying150 hco w.heap.size Y.size (by unfold World.shape?; rw [hgY]) s.data.toList hne (by rw [← Lib.size_eq]; omega) (by rw [← Lib.size_eq]; omega)
   (fun j x hx => Lib.cells_of_row hgY Y.size j _ (by rw [List.take_of_length_le (by rw [Array.length_toList]; exact Nat.le_refl _), hYl]; simp [Lib.byteCells, hx]))
  rw [← Lib.size_eq] at hUS
  clear hY
  go_enter Tryz.func109, Tryz.ntmps109
  go_wp2
  go_ret
  have hb1 : Below w.heap.size w (w.alloc (.cells M 5)) := (Below.refl _ w).alloc (Nat.le_refl _) _
  have hb2 : Below w.heap.size (w.alloc (.cells M 5)) ((w.alloc (.cells M 5)).setRow w.heap.size Y) := ⟨rfl, rfl, rfl, by simp, fun k hk => setRow_other _ _ _ _ (by omega)⟩
  exact ⟨rfl, Lib.below_freeze (hb1.trans hb2) (p := ⟨w.heap.size, 0, none⟩) (Nat.le_refl _) _⟩
theorem clone_any (s : ByteArray) (w : World) (hlim : s.size ≤ 1048576) :
  Calls Tryz.prog 74 #[.string s] w fun e w' => e = .returned (.string s) ∧ Below w.heap.size w w' := by
 go_enter Tryz.func74, Tryz.ntmps74
 go_wp2_with fail
 refine (cloneLite_any s _ hlim).mono ?_
 rintro e w1 ⟨rfl, b1⟩
 go_wp2
 go_ret
 exact ⟨rfl, b1⟩
end Go.Proofs.YtihklfkhjpnjkaaGreatDoor
namespace Go.Proofs.YtihklfkhjpnjkaaGreatDoor
open Go.ChangeShapes Go.WideShapes Go.ChangeAt Go.RowKit Go.Shelf
open Gt (nb hf nm pl pr jn)
def prB (x : ByteArray) (i n : Int) (k : Nat) (S : Nat → ByteArray) : Bool := decide (x.size = 16) && decide ((k : Int) = plI i n) && aS k S
def prS (x : ByteArray) (i n : Int) (k : Nat) (S : Nat → ByteArray) : ByteArray := if prB x i n k S = true then pr x i.toNat n.toNat S 0 else ⟨#[]⟩
theorem proofRoot_no (x : ByteArray) (i n : Int) (a : Option Addr) (k cap : Nat) (S : Nat → ByteArray) (w : World) (h : TxtAt w a k S) (hk : k ≤ 1048576) (hL : ∀ i, i < k → (S i).size ≤ maxLen) (hno : prB x i n k S = false) :
  Calls Tryz.prog 80 #[.string x, .int .i64 i, .int .i64 n, .slice a k cap] w fun e w' => e = .returned (.tuple #[.string ⟨#[]⟩, .bool false]) ∧ Below w.heap.size w w' := by
 obtain ⟨w1, HW1⟩ : ∃ w1, Hid (w1 = w.alloc (.cells #[.slice a k cap] 31)) := ⟨_, rfl⟩
 have K1 : Hid (Row w1 w.heap.size 31 #[.slice a k cap] ∧ Below w.heap.size w w1) := by rw [HW1.out]; exact ⟨Row.new w _ _, (Below.refl _ _).alloc (Nat.le_refl _) _⟩
 have KP : Hid (∀ w0, Calls Tryz.prog 116 #[.int .i64 i, .int .i64 n] w0 fun e w' => e = .returned (.int .i64 (plI i n)) ∧ Below w0.heap.size w0 w') := fun w0 => proofLen_any i n w0
 have KA : Hid (∀ W, Below w.heap.size w W → Calls Tryz.prog 117 #[.slice a k cap] W fun e w' => e = .returned (.bool (aS k S)) ∧ w' = W) := fun W hb => areSums_any a k cap S W (h.below hb) hk hL
 have hc := K1.out.1.cell 0
 have hlt := K1.out.1.lt
 simp at hc
 obtain ⟨r, hr⟩ : ∃ r, plI i n = r := ⟨_, rfl⟩
 rw [hr] at KP
 unfold prB at hno
 rw [hr] at hno
 by_cases h16 : x.size = 16
 ·have h16' : ((x.size : Int) != 16) = false := by simp; omega
  by_cases hkr : (k : Int) = r
  ·have hkr' : ((k : Int) != r) = false := by simp; exact hkr
   have haS : aS k S = false := by simpa [h16, hkr] using hno
   rw [haS] at KA
   clear h hL hno h16 hkr haS hr
   go_enter Tryz.func80, Tryz.ntmps80
   go_wp2_with fail
   rw [← HW1.out]
   go_region_held3 (fun w' => w'.cell? ⟨w.heap.size, 0, none⟩ = some (.slice a k cap)) (go_keep) ((first | (go_at_call 116; refine Calls.mono (KP.out _) ?_; rintro e w5 ⟨rfl, hb5'⟩; have hb5 := below_of_drew hb5'; clear hb5'; have h50 := (hb5.cell (p := ⟨w.heap.size, 0, none⟩) hlt).trans hc) | (guard_hyp hb5; go_at_call 117; refine Calls.mono (KA.out _ (K1.out.2.trans (hb5.mono K1.out.2.size))) ?_; rintro e w6 ⟨rfl, hw6⟩; obtain rfl := hw6.symm)))
   go_wp2
   go_ret2
   exact ⟨rfl, K1.out.2.trans (hb5.mono K1.out.2.size)⟩
  ·have hkr' : ((k : Int) != r) = true := by simp; exact hkr
   clear h hL hno h16 hkr hr KA
   go_enter Tryz.func80, Tryz.ntmps80
   go_wp2_with fail
   rw [← HW1.out]
   go_region_with (go_at_call 116; refine Calls.mono (KP.out _) ?_; rintro e w5 ⟨rfl, hb5'⟩; have hb5 := below_of_drew hb5'; clear hb5'; have h50 := (hb5.cell (p := ⟨w.heap.size, 0, none⟩) hlt).trans hc)
   all_goals go_wp2
   all_goals go_ret2
   all_goals exact ⟨rfl, K1.out.2.trans (hb5.mono K1.out.2.size)⟩
 ·have h16' : ((x.size : Int) != 16) = true := by simp; omega
  clear h hL hno h16 hr KA
  go_enter Tryz.func80, Tryz.ntmps80
  go_wp2_with fail
  rw [← HW1.out]
  go_quiet (fail)
  go_wp2
  go_ret2
  exact ⟨rfl, belowDrewN K1.out.2 _⟩
end Go.Proofs.YtihklfkhjpnjkaaGreatDoor
namespace Go.Proofs.YtihklfkhjpnjkaaGreatDoor
open Go.RowKit
def rowC (T : Nat → ByteArray) (m : Nat) : Array Value := (sL T 64 ++ [Value.int .i64 (m : Int)]).toArray
theorem rowC_size (T : Nat → ByteArray) (m : Nat) : (rowC T m).size = 65 := by simp [rowC, sL]
theorem rowC_get (T : Nat → ByteArray) (m i : Nat) (h : i < 64) : (rowC T m)[i]? = some (.string (T i)) := by
 unfold rowC
 rw [List.getElem?_toArray, List.getElem?_append_left (by rw [sL_len]; exact h), sL_get _ _ _ h]
theorem rowC_last (T : Nat → ByteArray) (m : Nat) : (rowC T m)[64]? = some (.int .i64 (m : Int)) := by
 unfold rowC
 rw [List.getElem?_toArray, List.getElem?_append_right (by rw [sL_len]; exact Nat.le_refl _), sL_len]
 rfl
theorem rowC_set (T : Nat → ByteArray) (m i : Nat) (s : ByteArray) (h : i < 64) : (rowC T m).setIfInBounds i (.string s) = rowC (fun j => if j = i then s else T j) m := by
 apply Array.ext'
 unfold rowC
 rw [Array.toList_setIfInBounds, List.toList_toArray, List.toList_toArray, List.set_append_left _ _ (by rw [sL_len]; exact h), sL_set _ _ _ _ h]
theorem rowC_congr {T T' : Nat → ByteArray} (m : Nat) (h : ∀ i, i < 64 → T i = T' i) : rowC T m = rowC T' m := by unfold rowC; rw [sL_congr h]
theorem rowC_one (T : Nat → ByteArray) (m : Nat) : (rowC T m).all (·.oneCell') = true := by
 unfold rowC
 simp [sL, Value.oneCell']
def RwV (T : Nat → ByteArray) (m : Nat) : Value := .agg (rowC T m)
def noT : Nat → ByteArray := fun _ => ByteArray.empty
theorem Tryz.infoRw : (Tryz.prog.info? 119).map (·.size) = some 65 := by kernel_rfl
theorem Tryz.zeroRw : (Tryz.prog.info? 119).bind (·.zero) = some (RwV noT 0) := by kernel_rfl
theorem Tryz.builtRw0 : Tryz.prog.built 119 [] = some (rowC noT 0) := by kernel_rfl
theorem Tryz.builtRw (m : Nat) : Tryz.prog.built 119 [(1, .int .i64 (m : Int))] = some (rowC noT m) := by kernel_rfl
theorem run_allocRw (w : World) : (Instr.alloc 119 true (.tuple #[])).run Tryz.prog w = .ok (.pointer (some ⟨w.heap.size, 0, none⟩)) (w.alloc (.cells (rowC noT 0) 119)) := by
 have hz := Tryz.zeroRw
 cases hit : Tryz.prog.info? 119 with
 | none => simp [hit] at hz
 | some it =>
  simp [hit] at hz
  have ha : (zeroValue 119).run Tryz.prog w = .ok (RwV noT 0) w := by simp [zeroValue, typeInfo, hit, hz]
  unfold Instr.alloc
  simp only [Sem.run_bind, ha, Result.andThen_ok]
  rfl
section
variable {P : Program} {F : Fence} {n : Nat} {ops : Array Oper} {rest : List Oper} {o : Oper} {a : Act} {w : World} {Q : Exit → Act → World → Prop}
theorem in_value (hg : o.guard = none) (hnd : ∀ c, o.op ≠ .defer c) (hab : o.about P w a.eval = none) (v : Value) (w' : World) (hrun : (execOp a.eval o).run P w = .ok (.value v) w')
  (h : wpListIn F n P ops Q rest (a.put o.dst v) w') : wpListIn F n P ops Q (o :: rest) a w := by
 refine wpListIn_plain hg fun K hK => ?_
 unfold Oper.wpIn
 rw [Oper.semAt_plain F _ _ hnd, hrun, Oper.uponIn_value]
 exact ⟨fun f hf => (by rw [hab] at hf; cases hf), hK _ _ h⟩
theorem in_skip (hg : o.guard = none) (hnd : ∀ c, o.op ≠ .defer c) (hab : o.about P w a.eval = none) (w' : World) (hrun : (execOp a.eval o).run P w = .ok .skip w')
  (h : wpListIn F n P ops Q rest (a.put o.dst undef) w') : wpListIn F n P ops Q (o :: rest) a w := by
 refine wpListIn_plain hg fun K hK => ?_
 unfold Oper.wpIn
 rw [Oper.semAt_plain F _ _ hnd, hrun, Oper.uponIn_skip]
 exact ⟨fun f hf => (by rw [hab] at hf; cases hf), hK _ _ h⟩
theorem p_value (hg : o.guard = none) (v : Value) (w' : World) (hrun : (execOp a.eval o).run P w = .ok (.value v) w')
  (h : wpList P ops Q rest (a.put o.dst v) w') : wpList P ops Q (o :: rest) a w := by
 refine wpList_plain hg fun K hK => ?_
 unfold Oper.wp
 rw [hrun, Oper.upon_value]
 exact hK _ _ h
theorem p_skip (hg : o.guard = none) (w' : World) (hrun : (execOp a.eval o).run P w = .ok .skip w')
  (h : wpList P ops Q rest (a.put o.dst undef) w') : wpList P ops Q (o :: rest) a w := by
 refine wpList_plain hg fun K hK => ?_
 unfold Oper.wp
 rw [hrun, Oper.upon_skip]
 exact hK _ _ h
end
section
variable {F : Fence} {n : Nat} {ops : Array Oper} {rest : List Oper} {o : Oper} {a : Act} {w : World} {Q : Exit → Act → World → Prop}
theorem x_alloc (ho : o.op = .alloc 119) : (execOp a.eval o).run Tryz.prog w = .ok (.value (.pointer (some ⟨w.heap.size, 0, none⟩))) (w.alloc (.cells (rowC noT 0) 119)) := by
 unfold execOp
 simp only [ho, Sem.run_bind, run_allocRw, Result.andThen_ok]
 rfl
theorem x_box (x : Operand) (ho : o.op = .box 119 x) (T : Nat → ByteArray) (m : Nat) (hx : a.eval x = RwV T m) : (execOp a.eval o).run Tryz.prog w = .ok (.value (.pointer (some ⟨w.heap.size, 0, none⟩))) (w.alloc (.cells (rowC T m) 119)) := by
 unfold execOp
 simp only [ho, hx, Sem.run_bind, Instr.box, newVar, newRow, run_newObj_alloc, Sem.run_pure, Result.andThen_ok]
 rfl
theorem x_load (x : Operand) (ho : o.op = .load 119 x) (g : Nat) (hx : a.eval x = .pointer (some ⟨g, 0, none⟩)) (T : Nat → ByteArray) (m : Nat) (hr : Row w g 119 (rowC T m)) : (execOp a.eval o).run Tryz.prog w = .ok (.value (RwV T m)) w := by
 unfold execOp
 simp only [ho, hx, Instr.loadAt, Instr.sureAddr, Sem.run_bind, Sem.run_pure, Result.andThen_ok, run_loadVar_row w g 119 119 (rowC T m) (0, 0) _ hr Tryz.underlying119 rfl (by rw [Tryz.infoRw, rowC_size])]
 rfl
theorem x_store (x y : Operand) (ho : o.op = .store 119 x y) (g : Nat) (hx : a.eval x = .pointer (some ⟨g, 0, none⟩)) (T : Nat → ByteArray) (m : Nat) (hy : a.eval y = RwV T m) (T' : Nat → ByteArray) (m' : Nat) (hr : Row w g 119 (rowC T' m')) :
  (execOp a.eval o).run Tryz.prog w = .ok .skip (w.setRow g (rowC T m)) := by
 unfold execOp
 have hy' : a.eval y = .agg (rowC T m) := hy
 simp only [ho, hx, hy', Instr.storeAt, Instr.sureAddr, Sem.run_bind, Sem.run_pure, Result.andThen_ok, run_storeVar_row w g 119 119 (rowC T' m') (rowC T m) hr (by rw [Tryz.infoRw, rowC_size]) (by rw [rowC_size, rowC_size]) (rowC_one T m)]
theorem x_build (x : Operand) (ho : o.op = .build 119 #[(1, x)]) (m : Nat) (hx : a.eval x = .int .i64 (m : Int)) : (execOp a.eval o).run Tryz.prog w = .ok (.value (RwV noT m)) w := by
 have hb := run_build (P := Tryz.prog) w 119 #[(1, .int .i64 (m : Int))] (rowC noT m) (Tryz.builtRw m)
 unfold execOp
 simp [ho, hx, hb]
 rfl
theorem x_build0 (ho : o.op = .build 119 #[]) : (execOp a.eval o).run Tryz.prog w = .ok (.value (RwV noT 0)) w := by
 have hb := run_build (P := Tryz.prog) w 119 #[] (rowC noT 0) Tryz.builtRw0
 unfold execOp
 simp [ho, hb]
 rfl
theorem p_alloc (hg : o.guard = none) (ho : o.op = .alloc 119) (h : wpList Tryz.prog ops Q rest (a.put o.dst (.pointer (some ⟨w.heap.size, 0, none⟩))) (w.alloc (.cells (rowC noT 0) 119))) : wpList Tryz.prog ops Q (o :: rest) a w := p_value hg _ _ (x_alloc ho) h
theorem p_box (hg : o.guard = none) (x : Operand) (ho : o.op = .box 119 x) (T : Nat → ByteArray) (m : Nat) (hx : a.eval x = RwV T m) (h : wpList Tryz.prog ops Q rest (a.put o.dst (.pointer (some ⟨w.heap.size, 0, none⟩))) (w.alloc (.cells (rowC T m) 119))) : wpList Tryz.prog ops Q (o :: rest) a w := p_value hg _ _ (x_box x ho T m hx) h
theorem p_load (hg : o.guard = none) (x : Operand) (ho : o.op = .load 119 x) (g : Nat) (hx : a.eval x = .pointer (some ⟨g, 0, none⟩)) (T : Nat → ByteArray) (m : Nat) (hr : Row w g 119 (rowC T m)) (h : wpList Tryz.prog ops Q rest (a.put o.dst (RwV T m)) w) : wpList Tryz.prog ops Q (o :: rest) a w := p_value hg _ _ (x_load x ho g hx T m hr) h
theorem p_store (hg : o.guard = none) (x y : Operand) (ho : o.op = .store 119 x y) (g : Nat) (hx : a.eval x = .pointer (some ⟨g, 0, none⟩)) (T : Nat → ByteArray) (m : Nat) (hy : a.eval y = RwV T m) (T' : Nat → ByteArray) (m' : Nat) (hr : Row w g 119 (rowC T' m'))
  (h : wpList Tryz.prog ops Q rest (a.put o.dst undef) (w.setRow g (rowC T m))) : wpList Tryz.prog ops Q (o :: rest) a w := p_skip hg _ (x_store x y ho g hx T m hy T' m' hr) h
theorem p_build (hg : o.guard = none) (x : Operand) (ho : o.op = .build 119 #[(1, x)]) (m : Nat) (hx : a.eval x = .int .i64 (m : Int)) (h : wpList Tryz.prog ops Q rest (a.put o.dst (RwV noT m)) w) : wpList Tryz.prog ops Q (o :: rest) a w := p_value hg _ _ (x_build x ho m hx) h
theorem p_build0 (hg : o.guard = none) (ho : o.op = .build 119 #[]) (h : wpList Tryz.prog ops Q rest (a.put o.dst (RwV noT 0)) w) : wpList Tryz.prog ops Q (o :: rest) a w := p_value hg _ _ (x_build0 ho) h
theorem i_alloc (hg : o.guard = none) (ho : o.op = .alloc 119) (h : wpListIn F n Tryz.prog ops Q rest (a.put o.dst (.pointer (some ⟨w.heap.size, 0, none⟩))) (w.alloc (.cells (rowC noT 0) 119))) : wpListIn F n Tryz.prog ops Q (o :: rest) a w := in_value hg (by rw [ho]; intro c hc; cases hc) (by simp [Oper.about, ho]) _ _ (x_alloc ho) h
theorem i_box (hg : o.guard = none) (x : Operand) (ho : o.op = .box 119 x) (T : Nat → ByteArray) (m : Nat) (hx : a.eval x = RwV T m) (h : wpListIn F n Tryz.prog ops Q rest (a.put o.dst (.pointer (some ⟨w.heap.size, 0, none⟩))) (w.alloc (.cells (rowC T m) 119))) : wpListIn F n Tryz.prog ops Q (o :: rest) a w := in_value hg (by rw [ho]; intro c hc; cases hc) (by simp [Oper.about, ho]) _ _ (x_box x ho T m hx) h
theorem i_load (hg : o.guard = none) (x : Operand) (ho : o.op = .load 119 x) (g : Nat) (hx : a.eval x = .pointer (some ⟨g, 0, none⟩)) (T : Nat → ByteArray) (m : Nat) (hr : Row w g 119 (rowC T m)) (h : wpListIn F n Tryz.prog ops Q rest (a.put o.dst (RwV T m)) w) : wpListIn F n Tryz.prog ops Q (o :: rest) a w := in_value hg (by rw [ho]; intro c hc; cases hc) (by simp [Oper.about, ho]) _ _ (x_load x ho g hx T m hr) h
theorem i_store (hg : o.guard = none) (x y : Operand) (ho : o.op = .store 119 x y) (g : Nat) (hx : a.eval x = .pointer (some ⟨g, 0, none⟩)) (T : Nat → ByteArray) (m : Nat) (hy : a.eval y = RwV T m) (T' : Nat → ByteArray) (m' : Nat) (hr : Row w g 119 (rowC T' m'))
  (h : wpListIn F n Tryz.prog ops Q rest (a.put o.dst undef) (w.setRow g (rowC T m))) : wpListIn F n Tryz.prog ops Q (o :: rest) a w := in_skip hg (by rw [ho]; intro c hc; cases hc) (by simp [Oper.about, ho]) _ (x_store x y ho g hx T m hy T' m' hr) h
end
end Go.Proofs.YtihklfkhjpnjkaaGreatDoor
