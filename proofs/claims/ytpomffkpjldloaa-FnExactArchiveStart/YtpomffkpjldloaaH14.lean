/- A place in a row of so many, in the program: whether it is one, its neighbour, the place above it. Conditions: for the neighbour and the place above it at most 2^20 in the row. -/
import Derived.Test.YtpomffkpjldloaaH10
import Derived.Test.YtpomffkpjldloaaH9
import Derived.Test.YtpomffkpjldloaaH6
import Derived.Deep.RegionHeld3
import Derived.Deep.AppendLies
import Derived.Test.YtpomffkpjldloaaH5
import Derived.Sort.LoopGhostIn
import Derived.Lib.Strings
import Derived.Lib.Walk
import Derived.Lib.BufferWrite
import Derived.Lib.UnsafeStr
import Derived.Lib.Hide
import Derived.Laws.MakeOwn
import Derived.Test.YtpomffkpjldloaaH4
import Derived.Laws.CopyRow
namespace Go.Proofs.Ytpomffkpjldloaa
set_option maxRecDepth 2000
open Go.ChangeShapes Go.WideShapes Go.ChangeAt Go.RowKit
open Gt (nb hf)

end Go.Proofs.Ytpomffkpjldloaa
/- The places on the way up from a place, in the program, that are joined: the contract of the iterator that tells them. Condition: a place of a row of at most 64. -/
namespace Go.Proofs.Ytpomffkpjldloaa
set_option maxRecDepth 2000
open Go.ChangeShapes Go.WideShapes Go.ChangeAt Go.RowKit Go.Shelf
open Gt (nb hf nm)

end Go.Proofs.Ytpomffkpjldloaa
/- How many texts a proof has, in the program: at every two numbers. No condition. -/
namespace Go.Proofs.Ytpomffkpjldloaa
set_option maxRecDepth 2000
open Go.ChangeShapes Go.WideShapes Go.ChangeAt Go.RowKit Go.Shelf
open Gt (nb hf nm pl)

theorem Row.grown {w w' : World} {g j : Nat} {t : TypeId} {cs : Array Value} (h : Row w g t cs) (hg : w.grownBy w' (some j)) (hj : g ≠ j) : Row w' g t cs := (hg.block g h.lt (by simpa using hj)).trans h
end Go.Proofs.Ytpomffkpjldloaa
/- How many texts a proof has, in the model: at every two numbers. No condition. -/
namespace Go.Proofs.Ytpomffkpjldloaa
set_option maxRecDepth 2000
open Go.ChangeShapes Go.WideShapes Go.ChangeAt Go.RowKit
open Gt (nb hf pl)

end Go.Proofs.Ytpomffkpjldloaa
/- Whether texts are sums, in the program and in its model; a text cloned. Conditions: at most 2^20 texts; a text of at most 2^20 bytes. -/
namespace Go.Proofs.Ytpomffkpjldloaa
set_option maxRecDepth 2000
open Go.ChangeShapes Go.WideShapes Go.ChangeAt Go.RowKit

end Go.Proofs.Ytpomffkpjldloaa
/- The root that a leaf and a proof lead to, in the program: where they are not so. Conditions: at most 2^20 texts. -/
namespace Go.Proofs.Ytpomffkpjldloaa
set_option maxRecDepth 2000
open Go.ChangeShapes Go.WideShapes Go.ChangeAt Go.RowKit Go.Shelf
open Gt (nb hf nm pl pr jn)

end Go.Proofs.Ytpomffkpjldloaa
/- Rows of 64 texts and a number, as the program has them: what is built, laid, loaded and stored of one, as laws of the walk. No condition but what each says. -/
namespace Go.Proofs.Ytpomffkpjldloaa
set_option maxRecDepth 2000
open Go.RowKit

/-! ### Laws of the walk -/
section
variable {P : Program} {F : Fence} {n : Nat} {ops : Array Oper} {rest : List Oper} {o : Oper} {a : Act} {w : World} {Q : Exit → Act → World → Prop}
end
section
variable {F : Fence} {n : Nat} {ops : Array Oper} {rest : List Oper} {o : Oper} {a : Act} {w : World} {Q : Exit → Act → World → Prop}
end
end Go.Proofs.Ytpomffkpjldloaa
/- The row above a row, in the program. Conditions: at most 64 in the row, each of sixteen bytes. -/
namespace Go.Proofs.Ytpomffkpjldloaa
set_option maxRecDepth 2000
open Go.ChangeShapes Go.WideShapes Go.ChangeAt Go.RowKit
open Gt (nb hf up jn)

end Go.Proofs.Ytpomffkpjldloaa
/- The lowest row of a tree, in the program: what is made of the leaves. Conditions: at most 2^20 texts. -/
namespace Go.Proofs.Ytpomffkpjldloaa
set_option maxRecDepth 2000
open Go.ChangeShapes Go.WideShapes Go.ChangeAt Go.RowKit

end Go.Proofs.Ytpomffkpjldloaa
/- The root that a leaf and a proof lead to, in the program. Conditions: at most 2^20 texts. -/
namespace Go.Proofs.Ytpomffkpjldloaa
set_option maxRecDepth 2000
open Go.ChangeShapes Go.WideShapes Go.ChangeAt Go.RowKit Go.Shelf
open Gt (nb hf nm pl pr jn)

end Go.Proofs.Ytpomffkpjldloaa
/- The root that a leaf and a proof lead to, in the model; what the program answers in one contract; whether it is a given root, in both. Conditions: at most 2^20 texts. -/
namespace Go.Proofs.Ytpomffkpjldloaa
set_option maxRecDepth 2000
open Go.ChangeShapes Go.WideShapes Go.ChangeAt Go.RowKit
open Gt (nb hf nm pl pr jn)

end Go.Proofs.Ytpomffkpjldloaa
/- The rows of a tree from a row up, in the program: the contract of the iterator that tells them. Conditions: one to 64 texts of sixteen bytes. -/
namespace Go.Proofs.Ytpomffkpjldloaa
set_option maxRecDepth 2000
open Go.ChangeShapes Go.WideShapes Go.ChangeAt Go.RowKit Go.Shelf
open Gt (hf up)

end Go.Proofs.Ytpomffkpjldloaa
/- Whether a proof leads to a root, in the program and in its model: what each answers. Conditions: at most 2^20 texts. -/
namespace Go.Proofs.Ytpomffkpjldloaa
set_option maxRecDepth 2000
open Go.ChangeShapes Go.WideShapes Go.ChangeAt Go.RowKit

end Go.Proofs.Ytpomffkpjldloaa
/- The root over leaves, in the program. Conditions: at most 2^20 texts. -/
namespace Go.Proofs.Ytpomffkpjldloaa
set_option maxRecDepth 2000
open Go.ChangeShapes Go.WideShapes Go.ChangeAt Go.RowKit Go.Shelf
open Gt (hf up rt)

end Go.Proofs.Ytpomffkpjldloaa
/- A leaf's proof, in the program. Conditions: at most 2^20 texts. -/
namespace Go.Proofs.Ytpomffkpjldloaa
set_option maxRecDepth 2000
open Go.ChangeShapes Go.WideShapes Go.ChangeAt Go.RowKit Go.Shelf
open Gt (hf up nb pl)

/-- Nothing that lay has turned but blocks of 'X'. -/
structure Kp (X : Nat → Prop) (W W' : World) : Prop where
  os : W'.os = W.os
  tape : W'.tape = W.tape
  output : W'.output = W.output
  size : W.heap.size ≤ W'.heap.size
  block : ∀ j, j < W.heap.size → ¬ X j → W'.heap[j]? = W.heap[j]?
theorem Kp.trans {X : Nat → Prop} {A B C : World} (h : Kp X A B) (k : Kp X B C) : Kp X A C :=
  ⟨k.os.trans h.os, k.tape.trans h.tape, k.output.trans h.output, Nat.le_trans h.size k.size, fun j hj hx => (k.block j (Nat.lt_of_lt_of_le hj h.size) hx).trans (h.block j hj hx)⟩
theorem Kp.below {X : Nat → Prop} {A B : World} (h : Below A.heap.size A B) : Kp X A B := ⟨h.os, h.tape, h.output, h.size, fun j hj _ => h.block j hj⟩
theorem Kp.grown {X : Nat → Prop} {A B : World} {g : Nat} (h : A.grownBy B (some g)) (hx : X g) : Kp X A B := ⟨h.os, h.tape, h.output, h.size, fun j hj hn => h.block j hj (fun e => by cases e; exact hn hx)⟩
theorem Kp.set {X : Nat → Prop} (A : World) (g i : Nat) (v : Value) (hx : X g) : Kp X A (A.setCell ⟨g, i, none⟩ v) := Kp.grown (grown_set A g i v) hx
theorem Kp.row {X : Nat → Prop} {A B : World} {g : Nat} {t : TypeId} {cs : Array Value} (h : Kp X A B) (r : Row A g t cs) (hx : ¬ X g) : Row B g t cs := (h.block g r.lt hx).trans r
theorem Kp.base {X : Nat → Prop} {N : Nat} {w A B : World} (h : Kp X A B) (hb : Below N w A) (hN : N ≤ A.heap.size) (hx : ∀ j, j < N → ¬ X j) : Below N w B :=
  hb.trans ⟨h.os, h.tape, h.output, h.size, fun j hj => h.block j (by omega) (hx j hj)⟩

end Go.Proofs.Ytpomffkpjldloaa
/- A leaf's proof, in the program: where there is one. -/
namespace Go.Proofs.Ytpomffkpjldloaa
set_option maxRecDepth 2000
open Go.ChangeShapes Go.WideShapes Go.ChangeAt Go.RowKit Go.Shelf
open Gt (hf up nb pl)

theorem Kp.mono {X Y : Nat → Prop} {A B : World} (h : Kp X A B) (hxy : ∀ j, X j → Y j) : Kp Y A B := ⟨h.os, h.tape, h.output, h.size, fun j hj hn => h.block j hj (fun hx => hn (hxy j hx))⟩
end Go.Proofs.Ytpomffkpjldloaa
