import Derived.Test.YtihklfkhjpnjkaaGreatDoorU6
import Derived.Test.YtihklfkhjpnjkaaGreatDoorU2
import Derived.Deep.RegionHeld3
import Derived.Deep.AppendLies
set_option maxHeartbeats 8000000
set_option maxRecDepth 2000
open Go.ChangeShapes Go.WideShapes Go.ChangeAt Go.RowKit
namespace Go.Proofs.YtihklfkhjpnjkaaGreatDoor
def eI (f : Nat → Nat) (n : Nat) : List Int := (List.range n).map fun i => ((f i : Nat) : Int)
theorem eI_len (f : Nat → Nat) (n : Nat) : (eI f n).length = n := by simp [eI]
theorem eI_get (f : Nat → Nat) (n i : Nat) (h : i < n) : (eI f n)[i]? = some ((f i : Nat) : Int) := by simp [eI, h]
theorem eI_getD (f : Nat → Nat) (n i : Nat) (h : i < n) : (eI f n).getD i 0 = ((f i : Nat) : Int) := by simp [List.getD, eI_get f n i h]
theorem eI_congr {f g : Nat → Nat} {n : Nat} (h : ∀ i, i < n → f i = g i) : eI f n = eI g n := by
 unfold eI
 apply List.map_congr_left
 intro i hi
 rw [h i (List.mem_range.1 hi)]
theorem eI_ext {zs : List Int} {f : Nat → Nat} {n : Nat} (hl : zs.length = n) (h : ∀ i, i < n → zs.getD i 0 = ((f i : Nat) : Int)) : zs = eI f n := by
 apply List.ext_getElem?
 intro i
 by_cases hi : i < n
 ·have h1 := h i hi
  rw [eI_get f n i hi]
  have h2 : i < zs.length := by omega
  rw [List.getElem?_eq_getElem h2]
  simp [List.getD, List.getElem?_eq_getElem h2] at h1
  rw [h1]
 ·rw [List.getElem?_eq_none (by omega), List.getElem?_eq_none (by rw [eI_len]; omega)]
theorem eI_set (f : Nat → Nat) (n k v : Nat) (d : IntKind) (h : k < n) : ((eI f n).map (Value.int d)).set k (.int d (v : Int)) = (eI (fun i => if i = k then v else f i) n).map (Value.int d) := by
 apply List.ext_getElem?
 intro i
 rw [List.getElem?_set]
 by_cases hi : i < n
 ·by_cases e : k = i
  ·subst e
   simp [eI, h]
  ·simp [eI, hi, e, Ne.symm e]
 ·by_cases e : k = i
  ·omega
  ·rw [if_neg e, List.getElem?_eq_none (by simp [eI_len]; omega), List.getElem?_eq_none (by simp [eI_len]; omega)]
theorem eI_const {f : Nat → Nat} (n v : Nat) (h : ∀ i, i < n → f i = v) : eI f n = List.replicate n (v : Int) := by
 symm
 apply eI_ext
 ·simp
 ·intro i hi
  rw [h i hi]
  simp [List.getD, hi]
end Go.Proofs.YtihklfkhjpnjkaaGreatDoor
