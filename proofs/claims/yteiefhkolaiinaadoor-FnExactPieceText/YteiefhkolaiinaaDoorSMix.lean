/- A round of mixing, in the program and in its model: what each answers at every four longs. No condition. -/
import Derived.Test.YteiefhkolaiinaaDoorSRoll
import Derived.Test.YteiefhkolaiinaaDoorSBlk
import Derived.Test.YteiefhkolaiinaaDoorSBlk
import Derived.BigQuiet
import Derived.Deep.QuietTactic
import Derived.StillTailTactics
namespace Go.Proofs.YteiefhkolaiinaaDoor
set_option maxRecDepth 2000
open Go.ChangeShapes Go.WideShapes Go.ChangeAt Go.RowKit
open Gs (U rolI V4 mx)

/-- Four longs as the value that they are. -/
abbrev A4 (v : V4) : Value := .agg #[.int .u64 (U v.a), .int .u64 (U v.b), .int .u64 (U v.c), .int .u64 (U v.d)]

theorem belowDrewN {B : Nat} {a w : World} (h : Below B a w) (n : Nat) : Below B a (w.drewN n) := ⟨h.os, h.tape, h.output, h.size, h.block⟩

theorem Tryd.mixed : Tryd.prog.follows .mixedOrders = true := by kernel_rfl

/-- Four longs as the cells that they are. -/
abbrev C4 (v : V4) : Array Value := #[.int .u64 (U v.a), .int .u64 (U v.b), .int .u64 (U v.c), .int .u64 (U v.d)]
end Go.Proofs.YteiefhkolaiinaaDoor
