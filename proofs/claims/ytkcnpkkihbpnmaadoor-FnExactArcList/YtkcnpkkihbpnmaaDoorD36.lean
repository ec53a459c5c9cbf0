/- A net's start in the program. Conditions: lists of at most 2^20. -/
import Derived.Test.YtkcnpkkihbpnmaaDoorD34
import Derived.Test.YtkcnpkkihbpnmaaDoorD18
import Derived.Test.YtkcnpkkihbpnmaaDoorD24
import Derived.Test.YtkcnpkkihbpnmaaDoorD35
import Derived.WideKeyEntry
import Derived.Laws.StructEq
import Derived.Laws.IdiomCopy
import Derived.Test.YtkcnpkkihbpnmaaDoorD29
import Derived.Test.YtkcnpkkihbpnmaaDoorD31
import Derived.Test.YtkcnpkkihbpnmaaDoorD8
namespace Go.Proofs.YtkcnpkkihbpnmaaDoor
set_option maxRecDepth 2000
open Go.ChangeShapes Go.WideShapes Go.ChangeAt Go.RowKit

end Go.Proofs.YtkcnpkkihbpnmaaDoor
/- A net's start in the program: what stands in memory while its literal is built, in whatever order. Lemmas. -/
namespace Go.Proofs.YtkcnpkkihbpnmaaDoor
set_option maxRecDepth 2000
open Go.ChangeShapes Go.WideShapes Go.ChangeAt Go.RowKit

section
variable {W0 W W' : World} {m : Nat} {zs : List Int} {p2 p3 p5 p6 p8 : Bool} {x20 x21 x23 x24 x6 : Value}
end
end Go.Proofs.YtkcnpkkihbpnmaaDoor
/- A net's start in the program, where it may start. Conditions: lists of at most 2^20. -/
namespace Go.Proofs.YtkcnpkkihbpnmaaDoor
set_option maxRecDepth 2000
open Go.ChangeShapes Go.WideShapes Go.ChangeAt Go.RowKit

end Go.Proofs.YtkcnpkkihbpnmaaDoor
/- A net's start, in the program and in the model, told in one way; what stands in memory while its law is gone through. Conditions: lists of at most 2^20. -/
namespace Go.Proofs.YtkcnpkkihbpnmaaDoor
set_option maxRecDepth 2000
open Go.ChangeShapes Go.WideShapes Go.ChangeAt Go.RowKit

section
variable {w4 W W' : World} {bg G : Nat} {fx : Int} {m : Nat} {N N' : Nat → Nd} {zs zs' : List Int} {Y Y' : Nat → Sy} {b1 b2 b3 : Option Addr} {d1 l2 d2 d3 : Nat}
end
end Go.Proofs.YtkcnpkkihbpnmaaDoor
/- A map whose keys are badges (structs of two numbers): what its operations answer. No condition but what each says. -/
namespace Go.Proofs.YtkcnpkkihbpnmaaDoor
set_option maxRecDepth 2000
open Go.ChangeShapes Go.WideShapes Go.ChangeAt Go.RowKit

end Go.Proofs.YtkcnpkkihbpnmaaDoor
/- A map that counts badges: looked up, and one more counted. No condition but what each says. -/
namespace Go.Proofs.YtkcnpkkihbpnmaaDoor
set_option maxRecDepth 2000
open Go.ChangeShapes Go.WideShapes Go.ChangeAt Go.RowKit Go.ChangeMaps Go.MapKept Go.WideElems

end Go.Proofs.YtkcnpkkihbpnmaaDoor
/- The liars of a net, counted in a map, in the program. Conditions: lists of at most 2^20. -/
namespace Go.Proofs.YtkcnpkkihbpnmaaDoor
set_option maxRecDepth 2000
open Go.ChangeShapes Go.WideShapes Go.ChangeAt Go.RowKit Go.ChangeMaps

end Go.Proofs.YtkcnpkkihbpnmaaDoor
/- The seats of a net, as a list of ours; whether one's badge is counted. Conditions: lists of at most 2^20. -/
namespace Go.Proofs.YtkcnpkkihbpnmaaDoor
set_option maxRecDepth 2000
open Go.ChangeShapes Go.WideShapes Go.ChangeAt Go.RowKit

end Go.Proofs.YtkcnpkkihbpnmaaDoor
/- Seats of which some are left out (slices.IndexFunc, slices.DeleteFunc), in the program. Conditions: lists of at most 2^20. -/
namespace Go.Proofs.YtkcnpkkihbpnmaaDoor
set_option maxRecDepth 2000
open Go.ChangeShapes Go.WideShapes Go.ChangeAt Go.RowKit

end Go.Proofs.YtkcnpkkihbpnmaaDoor
/- Seats of which some are left out (slices.DeleteFunc), in the program. Conditions: lists of at most 2^20. -/
namespace Go.Proofs.YtkcnpkkihbpnmaaDoor
set_option maxRecDepth 2000
open Go.ChangeShapes Go.WideShapes Go.ChangeAt Go.RowKit

end Go.Proofs.YtkcnpkkihbpnmaaDoor
/- Seats of which some are left out (slices.DeleteFunc), in the program. Conditions: lists of at most 2^20. -/
namespace Go.Proofs.YtkcnpkkihbpnmaaDoor
set_option maxRecDepth 2000
open Go.ChangeShapes Go.WideShapes Go.ChangeAt Go.RowKit

end Go.Proofs.YtkcnpkkihbpnmaaDoor
/- The seats of those who are no liars, in the program. Conditions: lists of at most 2^20. -/
namespace Go.Proofs.YtkcnpkkihbpnmaaDoor
set_option maxRecDepth 2000
open Go.ChangeShapes Go.WideShapes Go.ChangeAt Go.RowKit

end Go.Proofs.YtkcnpkkihbpnmaaDoor
/- Which nodes that are no liars are done with a root (NetDone), in the program. Conditions: lists of at most 2^20. -/
namespace Go.Proofs.YtkcnpkkihbpnmaaDoor
set_option maxRecDepth 2000
open Go.ChangeShapes Go.WideShapes Go.ChangeAt Go.RowKit

/-- What the count tells of each node. -/
structure NdQ (d : Nd) : Prop where
  n : d.n ≤ 1048576
  k : ∀ i, i < d.n → SlK (d.S i)
  s : ∀ i, i < d.n → SlS (d.S i)
end Go.Proofs.YtkcnpkkihbpnmaaDoor
/- Which nodes that are no liars are done with a root (NetDone), in the model. Conditions: lists of at most 2^20. -/
namespace Go.Proofs.YtkcnpkkihbpnmaaDoor
set_option maxRecDepth 2000
open Go.ChangeShapes Go.WideShapes Go.ChangeAt Go.RowKit

section
variable {w wr w' : World} {A : Nat} {f : Int} {a : Option Addr} {n c : Nat} {l : Option Addr} {zl d : Nat} {v3 : Value} {L : List Int} {gg len cc : Nat}
end
end Go.Proofs.YtkcnpkkihbpnmaaDoor
/- What the count of a net tells of it, for the laws over nets. Lemmas. -/
namespace Go.Proofs.YtkcnpkkihbpnmaaDoor
set_option maxRecDepth 2000
open Go.ChangeShapes Go.WideShapes Go.ChangeAt Go.RowKit

theorem tot_mul {g h : Nat → Nat} {c : Nat} (hg : ∀ i, g i ≤ c + 10 * h i) (n : Nat) : tot g n ≤ c * n + 10 * tot h n := by
  induction n with
  | zero => exact Nat.zero_le _
  | succ n ih =>
    show tot g n + g n ≤ c * (n + 1) + 10 * (tot h n + h n)
    have := hg n
    rw [Nat.mul_succ]
    omega
theorem wkN_le (d : Nd) : wkN d ≤ 2 + 10 * wtN d := by
  have h1 := tot_mul (g := fun i => wkS (d.S i)) (h := fun i => wtS (d.S i)) (c := 10) (fun i => by unfold wkS wtS wtP; omega) d.n
  unfold wkN wtN wtL
  omega
theorem ofy_wt (k : Nat) (Y : Nat → Sy) (m : Nat) : ofy k Y m ≤ k + 9 * m + tot (fun i => wtY (Y i)) m := by
  induction m with
  | zero => simp [ofy, tot]
  | succ m ih =>
    show ofy k Y m + 9 + (Y m).p.m ≤ k + 9 * (m + 1) + (tot (fun i => wtY (Y i)) m + wtY (Y m))
    have : (Y m).p.m ≤ wtY (Y m) := by unfold wtY wtP; omega
    omega
theorem wtT_little {n : Nat} {N : Nat → Nd} {zs : List Int} {m : Nat} {Y : Nat → Sy} (h : wtT n N zs m Y ≤ 1048576) : (∀ i, i < n → NdQ (N i)) ∧ NtW n N zs m Y := by
  unfold wtT wtNs wtYs at h
  have hw : ∀ i, i < n → wtL (N i).n (N i).S ≤ 1048576 := fun i hi => by show wtN (N i) ≤ 1048576; have : wtN (N i) ≤ tot (fun i => wtN (N i)) n := tot_ge2 (g := fun i => wtN (N i)) hi; omega
  have hy : ∀ i, i < m → wtY (Y i) ≤ 1048576 := fun i hi => by have : wtY (Y i) ≤ tot (fun i => wtY (Y i)) m := tot_ge2 (g := fun i => wtY (Y i)) hi; omega
  refine ⟨fun i hi => ?_, by omega, fun i hi => ?_, by omega, by omega, fun i hi => ?_, ?_⟩
  · obtain ⟨h1, h2, h3, _⟩ := wtL_little (hw i hi)
    exact ⟨h1, h3, h2⟩
  · obtain ⟨h1, h2, _, _⟩ := wtL_little (hw i hi)
    exact ⟨h1, h2⟩
  · have := hy i hi
    unfold wtY wtP at this
    omega
  · have h1 := tot_mul (g := fun i => wkN (N i)) (h := fun i => wtN (N i)) (c := 2) (fun i => wkN_le (N i)) n
    have h2 := ofy_wt (mq2 n N zs) Y m
    unfold mq3
    unfold mq2 mq1 at h2 ⊢
    omega
theorem Trn.turned {w w' : World} {F : Nat → Prop} {b e : Nat} (h : Trn w w' F) (hF : ∀ g, F g → rng b e g) : Trn w w' (rng b e) := h.mono hF
end Go.Proofs.YtkcnpkkihbpnmaaDoor
