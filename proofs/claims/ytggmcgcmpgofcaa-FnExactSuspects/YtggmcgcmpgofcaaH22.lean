/- The laws' marks with the sums as letters; the lengths of the answers. -/
import Derived.Test.YtggmcgcmpgofcaaH17
import Derived.Test.YtggmcgcmpgofcaaH13
namespace Go.Proofs.Ytggmcgcmpgofcaa
set_option maxRecDepth 2000
open Go.ChangeShapes Go.WideShapes Go.ChangeAt Go.RowKit

theorem mark_q (B E : Nat) (a : Option Addr) (n cap k q : Nat) (zs : List Int) (w : World) (h : RowI w B E a n cap zs) (hn : n ≤ 1048576) (hk : k ≤ 10000000) (hq : k + n = q) :
    Calls Try.prog 14 #[.slice a n cap, .int .i64 (k : Int)] w fun e w' => e = .returned (.int .i64 (q : Int)) ∧ RowI w' B E a n cap (marks k n) ∧ Turned w w' B E := by
  subst hq
  exact mark_any B E a n cap k zs w h hn hk
theorem held_q (a : Option Addr) (n cap k q : Nat) (w : World) (h : IntsAt w a n (marks k n)) (hn : n ≤ 1048576) (hk : k ≤ 10000000) (hq : k + n = q) :
    Calls Try.prog 15 #[.slice a n cap, .int .i64 (k : Int)] w fun e w' => e = .returned (.int .i64 (q : Int)) ∧ w' = w := by
  subst hq
  exact held_any a n cap k w h hn hk
end Go.Proofs.Ytggmcgcmpgofcaa
