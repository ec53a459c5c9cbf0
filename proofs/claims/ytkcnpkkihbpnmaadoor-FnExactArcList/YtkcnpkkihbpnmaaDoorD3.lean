/- Longs by plain bits: turned both ways, one round of mixing and its way back, longs of up to eight bytes, and the sum of a text. No condition; nothing of the program is named. -/
import Derived.WalkKit
import Derived.ProofKit
import Derived.Laws.BitsAllLaws
import Derived.Laws.Bits64
import Derived.Laws.Bits64b
namespace Go.Proofs.YtkcnpkkihbpnmaaDoor
set_option maxRecDepth 2000
open Go.ChangeShapes Go.WideShapes Go.ChangeAt Go.RowKit

namespace Gs
/-- A long as the number that it is. -/
def U (x : BitVec 64) : Int := (x.toNat : Int)
/-! ### A long turned -/
def rol (x : BitVec 64) (r : Nat) : BitVec 64 := x.rotateLeft r
/-- A long turned by a whole number. -/
def rolI (x : BitVec 64) (n : Int) : BitVec 64 := rol x (n % 64).toNat
/-! ### Four longs, and a round -/
structure V4 where
  a : BitVec 64
  b : BitVec 64
  c : BitVec 64
  d : BitVec 64
def mx (v : V4) : V4 :=
  let a0 := v.a + v.b
  let c0 := v.c + v.d
  let b0 := rolI v.b 13 ^^^ a0
  let d0 := rolI v.d 16 ^^^ c0
  let a1 := rolI a0 32 + d0
  let c1 := c0 + b0
  ⟨a1, rolI b0 17 ^^^ c1, rolI c1 32, rolI d0 21 ^^^ a1⟩
/-- A long taken in. -/
def inn (v : V4) (x : BitVec 64) : V4 :=
  let u := mx (mx ⟨v.a, v.b, v.c, v.d ^^^ x⟩)
  ⟨u.a ^^^ x, u.b, u.c, u.d⟩
def all4 (v : V4) : BitVec 64 := v.a ^^^ v.b ^^^ v.c ^^^ v.d
def fin (v : V4) : V4 := mx (mx (mx (mx ⟨v.a, v.b, v.c ^^^ 255#64, v.d⟩)))
def key (a b : BitVec 64) : V4 := ⟨a ^^^ 8317987319222330741#64, b ^^^ 7237128888997146477#64, a ^^^ 7816392313619706465#64, b ^^^ 8387220255154660723#64⟩

/-! ### Longs of bytes, the lowest first -/
def le (T : Nat → Nat) (o : Nat) : Nat → Nat
  | 0 => 0
  | k + 1 => le T o k + T (o + k) * 256 ^ k
def blk (T : Nat → Nat) (v : V4) : Nat → V4
  | 0 => v
  | q + 1 => inn (blk T v q) (BitVec.ofNat 64 (le T (8 * q) 8))
/-- the last long: what is left, and the length above -/
def lst (T : Nat → Nat) (n : Nat) : BitVec 64 := BitVec.ofNat 64 (le T (8 * (n / 8)) (n % 8)) ||| (BitVec.ofNat 64 (n % 256) <<< 56)
def sip (T : Nat → Nat) (a b : BitVec 64) (n : Nat) : BitVec 64 := all4 (fin (inn (blk T (key a b) (n / 8)) (lst T n)))
end Gs
end Go.Proofs.YtkcnpkkihbpnmaaDoor
