/- What the exact laws count of slots and nodes. Conditions: what each says. -/
import Derived.Test.YthnjhjgffkilcaaGreatDoorH33
namespace Go.Proofs.YthnjhjgffkilcaaGreatDoor
set_option maxRecDepth 2000
open Go.ChangeShapes Go.WideShapes Go.ChangeAt Go.RowKit

/-- What is left of l behind a weight, or -1. -/
def szN (l x : Nat) : Int := if x ≤ l then ((l - x : Nat) : Int) else -1
theorem szN_yes {l x : Nat} (h : x ≤ l) : szN l x = ((l - x : Nat) : Int) := if_pos h
theorem szN_no {l x : Nat} (h : ¬ x ≤ l) : szN l x = -1 := if_neg h
def wtP (p : Pc) : Nat := p.r.size + p.b.size + (p.m + tot (fun i => (p.S i).size) p.m)
theorem szPc_eq (p : Pc) (l : Nat) : szPc p.r p.b p.m p.S l = szN l (wtP p) := by
  by_cases h : wtP p ≤ l
  · rw [szN_yes h]; exact szPc_yes h
  · rw [szN_no h]; exact szPc_no h
/-- What the form tells of a slot that came in. -/
structure SlI (w : World) (s : Sl) (a6 : Option Addr) : Prop where
  r : s.r.size ≤ maxLen
  pr : s.p.r.size ≤ maxLen
  pb : s.p.b.size ≤ maxLen
  tx : IsTxt w a6 s.p.m s.p.S
  ne : s.ze.length ≤ maxLen
  nr : s.zr.length ≤ maxLen
/-- The same without its memory. -/
structure SlB (s : Sl) : Prop where
  r : s.r.size ≤ maxLen
  pr : s.p.r.size ≤ maxLen
  pb : s.p.b.size ≤ maxLen
  m : s.p.m ≤ maxLen
  tx : ∀ i, i < s.p.m → (s.p.S i).size ≤ maxLen
  ne : s.ze.length ≤ maxLen
  nr : s.zr.length ≤ maxLen
theorem SlB.i {s : Sl} (h : SlB s) {w : World} {a6 : Option Addr} (ht : TxtAt w a6 s.p.m s.p.S) : SlI w s a6 := ⟨h.r, h.pr, h.pb, ⟨ht, h.m, h.tx⟩, h.ne, h.nr⟩
end Go.Proofs.YthnjhjgffkilcaaGreatDoor
