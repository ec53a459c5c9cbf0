/- For every input: the function SlotOf of the program answers as its model does, whatever its node and its root are; it leaves the node as it was, and its answer owns its memory. No condition. Written by a program. -/
import Derived.Test.YtkcnpkkihbpnmaaDoorD22
import Derived.Test.YtkcnpkkihbpnmaaDoorD29
import Derived.Test.YtkcnpkkihbpnmaaDoorD28
namespace Go.Proofs.YtkcnpkkihbpnmaaDoor
set_option maxRecDepth 2000
open Go.ChangeShapes Go.WideShapes Go.ChangeAt Go.RowKit
theorem tot_ge2 {g : Nat → Nat} {n i : Nat} (hi : i < n) : g i ≤ tot g n := by have := tot_step (g := g) hi; omega
/-- What the count tells of the slots. -/
theorem wtL_little {n : Nat} {S : Nat → Sl} (h : wtL n S ≤ 1048576) : n ≤ 1048576 ∧ (∀ i, i < n → SlS (S i)) ∧ (∀ i, i < n → SlK (S i)) ∧ 1 + tot (fun i => wkS (S i)) n ≤ 40000000 := by
  unfold wtL at h
  have hw : ∀ i, i < n → wtS (S i) ≤ 1048576 := fun i hi => by have : wtS (S i) ≤ tot (fun i => wtS (S i)) n := tot_ge2 (g := fun i => wtS (S i)) hi; omega
  have h10 : tot (fun i => wkS (S i)) n ≤ 10 * n + tot (fun i => wtS (S i)) n := by
    clear h hw
    induction n with
    | zero => exact Nat.le_refl _
    | succ n ih =>
      show tot (fun i => wkS (S i)) n + wkS (S n) ≤ 10 * (n + 1) + (tot (fun i => wtS (S i)) n + wtS (S n))
      have : wkS (S n) ≤ 10 + wtS (S n) := by unfold wkS wtS wtP; omega
      omega
  refine ⟨by omega, fun i hi => ?_, fun i hi => ?_, by omega⟩
  · have := hw i hi
    unfold wtS wtP at this
    exact ⟨by omega, by omega, by omega⟩
  · have := hw i hi
    unfold wtS wtP at this
    refine ⟨by omega, by omega, by omega, by omega, fun j hj => ?_, by omega, by omega⟩
    have : ((S i).p.S j).size ≤ tot (fun j => ((S i).p.S j).size) (S i).p.m := tot_ge2 (g := fun j => ((S i).p.S j).size) hj
    omega
section
variable {w W W' : World} {B E X G bx bg : Nat} {id f : Int} {a : Option Addr} {n c gx : Nat} {T TG TH : Sl} {v6 v11 v12 u6 u11 u12 : Value}
end
end Go.Proofs.YtkcnpkkihbpnmaaDoor
