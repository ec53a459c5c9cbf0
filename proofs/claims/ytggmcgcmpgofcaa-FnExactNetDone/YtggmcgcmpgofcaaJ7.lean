/- The program's hash: what its parts answer and make of it. Condition: a length of at most 2^20. -/
import Derived.Test.YtggmcgcmpgofcaaJ6
namespace Go.Proofs.Ytggmcgcmpgofcaa
set_option maxRecDepth 2000
open Go.ChangeShapes Go.WideShapes Go.ChangeAt Go.RowKit
open Gs (U rolI V4 mx inn key all4 fin)

/-- A hash as the cells that it is: the long that is gathered, how many bytes were put, the state. -/
abbrev H6 (L n : Nat) (v : V4) : Array Value := #[.int .u64 (L : Int), .int .i64 (n : Int), .int .u64 (U v.a), .int .u64 (U v.b), .int .u64 (U v.c), .int .u64 (U v.d)]

end Go.Proofs.Ytggmcgcmpgofcaa
