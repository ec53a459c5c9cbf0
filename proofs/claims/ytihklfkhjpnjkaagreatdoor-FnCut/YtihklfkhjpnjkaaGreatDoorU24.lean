import Derived.Test.YtihklfkhjpnjkaaGreatDoorU20
import Derived.Laws.CopyRow
set_option maxHeartbeats 8000000
set_option maxRecDepth 2000
open Go.ChangeShapes Go.WideShapes Go.ChangeAt Go.RowKit
namespace Go.Proofs.YtihklfkhjpnjkaaGreatDoor
def padT (n : Nat) (S : Nat → ByteArray) : Nat → ByteArray := fun i => if i < n then S i else ByteArray.empty
theorem rowC_copy (S : Nat → ByteArray) (n : Nat) (hn : n ≤ 64) : ((rowC noT n).toList.take 0 ++ sL S n ++ (rowC noT n).toList.drop (0 + (sL S n).length)).toArray = rowC (padT n S) n := by
 apply Array.ext'
 apply List.ext_getElem?
 intro i
 rw [List.toList_toArray, List.take_zero, List.nil_append, sL_len, Nat.zero_add]
 have e : (rowC (padT n S) n).toList[i]? = (rowC (padT n S) n)[i]? := Array.getElem?_toList ..
 have e0 : ∀ j, (rowC noT n).toList[j]? = (rowC noT n)[j]? := fun j => Array.getElem?_toList ..
 rw [e]
 by_cases h1 : i < n
 ·rw [List.getElem?_append_left (by rw [sL_len]; exact h1), sL_get _ _ _ h1, rowC_get _ _ _ (by omega)]
  simp [padT, h1]
 ·rw [List.getElem?_append_right (by rw [sL_len]; omega), sL_len, List.getElem?_drop, show n + (i - n) = i by omega, e0]
  by_cases h2 : i < 64
  ·rw [rowC_get _ _ _ h2, rowC_get _ _ _ h2]
   simp [padT, noT, h1]
  ·by_cases h3 : i = 64
   ·subst h3; rw [rowC_last, rowC_last]
   ·rw [Array.getElem?_eq_none (by rw [rowC_size]; omega), Array.getElem?_eq_none (by rw [rowC_size]; omega)]
theorem results_row_flag {fn : Func} {p q : Tmp} (h : fn.results = #[.cell p 119, .tmp q]) (tmps : Array Value) (w : World) (g : Nat) (T : Nat → ByteArray) (m : Nat) (v : Value)
  (hp : tmps.getD p undef = .pointer (some ⟨g, 0, none⟩)) (hq : tmps.getD q undef = v) (hr : Row w g 119 (rowC T m)) : (results fn tmps).run Tryz.prog w = .ok (.tuple #[RwV T m, v]) w := by
 have hp' : tmps[p]?.getD undef = .pointer (some ⟨g, 0, none⟩) := by simpa using hp
 have hq' : tmps[q]?.getD undef = v := by simpa using hq
 simp [results, h, hp', hq', asAddr, run_loadVar_row w g 119 119 (rowC T m) (0, 0) _ hr Tryz.underlying119 rfl (by rw [Tryz.infoRw, rowC_size])]
 rfl
theorem leafRow_no (a : Option Addr) (n cap : Nat) (S : Nat → ByteArray) (w : World) (h : TxtAt w a n S) (hn : n ≤ 1048576) (hL : ∀ i, i < n → (S i).size ≤ maxLen) (hno : lvB n S = false) :
  Calls Tryz.prog 104 #[.slice a n cap] w fun e w' => e = .returned (.tuple #[RwV noT 0, .bool false]) ∧ Below w.heap.size w w' := by
 obtain ⟨w1, HW1⟩ : ∃ w1, Hid (w1 = w.alloc (.cells (rowC noT 0) 119)) := ⟨_, rfl⟩
 have K1 : Hid (Row w1 w.heap.size 119 (rowC noT 0) ∧ Below w.heap.size w w1) := by rw [HW1.out]; exact ⟨Row.new w _ _, (Below.refl _ _).alloc (Nat.le_refl _) _⟩
 have KA : Hid (Calls Tryz.prog 117 #[.slice a n cap] w1 fun e w' => e = .returned (.bool (aS n S)) ∧ w' = w1) := areSums_any a n cap S w1 (h.below K1.out.2) hn hL
 have HF : Hid (Row (w1.setRow w.heap.size (rowC noT 0)) w.heap.size 119 (rowC noT 0) ∧ Below w.heap.size w (w1.setRow w.heap.size (rowC noT 0))) := ⟨K1.out.1.row, belowSetRow K1.out.2 (Nat.le_refl _) _⟩
 by_cases h1 : n < 1
 ·have h1' : (n : Int) < 1 := by omega
  clear h hL KA
  go_enter Tryz.func104, Tryz.ntmps104
  go_wp2_with (first | (refine p_alloc (by rfl) (by rfl) ?_; rw [← HW1.out]) | (refine p_build0 (by rfl) (by rfl) ?_) | (refine p_store (by rfl) _ _ (by rfl) w.heap.size (by rfl) noT 0 (by rfl) noT 0 K1.out.1 ?_))
  refine bodyPost_ret (results_row_flag Tryz.results104 _ _ w.heap.size noT 0 _ (by rfl) (by rfl) HF.out.1) rfl ⟨rfl, HF.out.2⟩
 ·have h1' : ¬ (n : Int) < 1 := by omega
  by_cases h2 : 64 < n
  ·have h2' : (64 : Int) < (n : Int) := by omega
   clear h hL KA
   go_enter Tryz.func104, Tryz.ntmps104
   go_wp2_with (first | (refine p_alloc (by rfl) (by rfl) ?_; rw [← HW1.out]) | (refine p_build0 (by rfl) (by rfl) ?_) | (refine p_store (by rfl) _ _ (by rfl) w.heap.size (by rfl) noT 0 (by rfl) noT 0 K1.out.1 ?_))
   refine bodyPost_ret (results_row_flag Tryz.results104 _ _ w.heap.size noT 0 _ (by rfl) (by rfl) HF.out.1) rfl ⟨rfl, HF.out.2⟩
  ·have h2' : ¬ (64 : Int) < (n : Int) := by omega
   have haS : aS n S = false := by
    unfold lvB at hno
    rw [inB_true (by omega)] at hno
    simpa using hno
   rw [haS] at KA
   clear h hL hno haS
   go_enter Tryz.func104, Tryz.ntmps104
   go_wp2_with (first | (refine p_alloc (by rfl) (by rfl) ?_; rw [← HW1.out]) | (refine p_build0 (by rfl) (by rfl) ?_) | (refine p_store (by rfl) _ _ (by rfl) w.heap.size (by rfl) noT 0 (by rfl) noT 0 K1.out.1 ?_) | (go_at_call 117; refine KA.out.mono ?_; rintro e w' ⟨rfl, hw⟩; obtain rfl := hw.symm))
   refine bodyPost_ret (results_row_flag Tryz.results104 _ _ w.heap.size noT 0 _ (by rfl) (by rfl) HF.out.1) rfl ⟨rfl, HF.out.2⟩
theorem leafRow_yes (a : Option Addr) (n cap : Nat) (S : Nat → ByteArray) (w : World) (h : TxtAt w a n S) (hyes : lvB n S = true) :
  Calls Tryz.prog 104 #[.slice a n cap] w fun e w' => e = .returned (.tuple #[RwV (padT n S) n, .bool true]) ∧ Below w.heap.size w w' := by
 unfold lvB at hyes
 rw [Bool.and_eq_true] at hyes
 have hn : 1 ≤ n ∧ n ≤ 64 := by
  have := hyes.2
  unfold inB at this
  simp at this
  omega
 have hS := aS_iff.1 hyes.1
 obtain ⟨w1, HW1⟩ : ∃ w1, Hid (w1 = w.alloc (.cells (rowC noT 0) 119)) := ⟨_, rfl⟩
 have K1 : Hid (Row w1 w.heap.size 119 (rowC noT 0) ∧ Below w.heap.size w w1 ∧ w1.heap.size = w.heap.size + 1) := by rw [HW1.out]; exact ⟨Row.new w _ _, (Below.refl _ _).alloc (Nat.le_refl _) _, by simp⟩
 have KA : Hid (Calls Tryz.prog 117 #[.slice a n cap] w1 fun e w' => e = .returned (.bool true) ∧ w' = w1) := by
  have := areSums_any a n cap S w1 (h.below K1.out.2.1) (by omega) (fun i hi => by rw [hS i hi]; unfold maxLen; omega)
  rw [hyes.1] at this
  exact this
 obtain ⟨w2, HW2⟩ : ∃ w2, Hid (w2 = w1.alloc (.cells (rowC noT n) 119)) := ⟨_, rfl⟩
 have HS2 : Hid ((w1.alloc (.cells (rowC noT 0) 119)).setRow w1.heap.size (rowC noT n) = w2) := by rw [HW2.out]; exact setRow_alloc _ _ _ _
 have K2 : Hid (Row w2 w.heap.size 119 (rowC noT 0) ∧ Row w2 (w.heap.size + 1) 119 (rowC noT n) ∧ Below w.heap.size w w2) := by
  rw [HW2.out]
  refine ⟨K1.out.1.alloc _, ?_, K1.out.2.1.alloc (by have := K1.out.2.2; omega) _⟩
  have := Row.new w1 (rowC noT n) 119
  rw [K1.out.2.2] at this
  exact this
 obtain ⟨b, off, rfl, hcc⟩ := (h.below K2.out.2.2).some (by omega)
 obtain ⟨w3, HW3⟩ : ∃ w3, Hid (w3 = w2.setRow (w.heap.size + 1) (rowC (padT n S) n)) := ⟨_, rfl⟩
 have K3 : Hid (Row w3 w.heap.size 119 (rowC noT 0) ∧ Row w3 (w.heap.size + 1) 119 (rowC (padT n S) n) ∧ Below w.heap.size w w3) := by
  rw [HW3.out]
  exact ⟨K2.out.1.otherRow (by omega), K2.out.2.1.row, belowSetRow K2.out.2.2 (by omega) _⟩
 have hcp : (Builtin.copy_ #[31, 31] 3 #[.slice (some ⟨w.heap.size + 1, 0, none⟩) 64 64, .slice (some ⟨b, off, none⟩) n cap]).run Tryz.prog w2 = .ok (goInt n) w3 := by
  have := run_copy_row (P := Tryz.prog) w2 31 31 3 9 (w.heap.size + 1) 0 64 64 ⟨b, off, none⟩ n cap (rowC noT n) 119 (sL S n) Tryz.underlying31 (by
    have := Tryz.infoStr
    cases hi : Tryz.prog.info? 9 with
    | none => rw [hi] at this; simp at this
    | some i => rw [hi] at this; simp at this; simp [this.2.1]) K2.out.2.1 (by rw [sL_len]; exact (Nat.min_eq_left hn.2).symm) (fun j v hv => by
    have hj : j < n := by
     have := (List.getElem?_eq_some_iff.1 hv).1
     rwa [sL_len] at this
    rw [sL_get _ _ _ hj] at hv
    cases hv
    have ea : (⟨b, off, none⟩ : Addr).add j = ⟨b, off + j, none⟩ := by unfold Addr.add; split <;> simp_all
    rw [ea]
    exact hcc j hj) (by rw [sL_len, rowC_size]; omega) (fun v hv => by
    unfold sL at hv
    simp at hv
    obtain ⟨i, _, rfl⟩ := hv
    rfl)
  rw [rowC_copy S n hn.2, sL_len, ← HW3.out] at this
  exact this
 have h1' : ¬ (n : Int) < 1 := by omega
 have h2' : ¬ (64 : Int) < (n : Int) := by omega
 have HF : Hid (Row (w3.setRow w.heap.size (rowC (padT n S) n)) w.heap.size 119 (rowC (padT n S) n) ∧ Below w.heap.size w (w3.setRow w.heap.size (rowC (padT n S) n))) := ⟨K3.out.1.row, belowSetRow K3.out.2.2 (Nat.le_refl _) _⟩
 have hz1 := K1.out.2.2
 clear h hyes hS hcc
 go_enter Tryz.func104, Tryz.ntmps104
 go_wp2_with (first | (refine p_alloc (by rfl) (by rfl) ?_; first | rw [← HW1.out] | skip) | (refine p_build (by rfl) _ (by rfl) n (by rfl) ?_) | (refine p_store (by rfl) _ _ (by rfl) w1.heap.size (by rfl) noT n (by rfl) noT 0 (Row.new w1 _ _) ?_; rw [HS2.out]) | (refine p_load (by rfl) _ (by rfl) (w.heap.size + 1) (by rfl) (padT n S) n K3.out.2.1 ?_) | (refine p_store (by rfl) _ _ (by rfl) w.heap.size (by rfl) (padT n S) n (by rfl) noT 0 K3.out.1 ?_) | (go_at_call 117; refine KA.out.mono ?_; rintro e w' ⟨rfl, hw⟩; obtain rfl := hw.symm))
 refine bodyPost_ret (results_row_flag Tryz.results104 _ _ w.heap.size (padT n S) n _ (by rfl) (by rfl) HF.out.1) rfl ⟨rfl, HF.out.2⟩
end Go.Proofs.YtihklfkhjpnjkaaGreatDoor
