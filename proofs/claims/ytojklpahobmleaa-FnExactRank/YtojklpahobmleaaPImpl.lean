/- The program's functions over polynomials as they are called: what each answers at any lists of at most 2^20 numbers, in memory of its own; nothing that was there turns. -/
import Derived.Test.YtojklpahobmleaaPRoot
namespace Go.Proofs.Ytojklpahobmleaa
open Go.ChangeShapes Go.WideShapes Go.ChangeAt Go.RowKit

def addP (xs ys : List Int) : List Int × Bool :=
  if okB xs = true ∧ okB ys = true then (eI (Gp.ad (coP xs) (coP ys)) (Gp.tl (Gp.ad (coP xs) (coP ys)) (max xs.length ys.length)), true) else ([], false)
def mulP (xs ys : List Int) : List Int × Bool :=
  if okB xs = true ∧ okB ys = true ∧ Gp.tl (Gp.cv (coP xs) (coP ys) xs.length) (xs.length + ys.length) ≤ 40 then (eI (Gp.cv (coP xs) (coP ys) xs.length) (Gp.tl (Gp.cv (coP xs) (coP ys) xs.length) (xs.length + ys.length)), true) else ([], false)
def divQ (xs ys : List Int) : Nat → Nat := Gp.dq (coP xs) (coP ys) (Gf.inv (coP ys (ys.length - 1))) ys.length (xs.length - ys.length + 1) (xs.length - ys.length + 1)
def divR (xs ys : List Int) : Nat → Nat := Gp.dr (coP xs) (coP ys) (Gf.inv (coP ys (ys.length - 1))) ys.length (xs.length - ys.length + 1) (xs.length - ys.length + 1)
def divP (xs ys : List Int) : List Int × List Int × Bool :=
  if okB xs = true ∧ okB ys = true ∧ 0 < ys.length then
    if ys.length ≤ xs.length then (eI (divQ xs ys) (Gp.tl (divQ xs ys) (xs.length - ys.length + 1)), eI (divR xs ys) (Gp.tl (divR xs ys) xs.length), true)
    else ([], eI (coP xs) (Gp.tl (coP xs) xs.length), true)
  else ([], [], false)
def atP (xs : List Int) (x : Int) : Int := if okB xs = true ∧ isB x = true then ((Gp.ev (coP xs) x.toNat xs.length : Nat) : Int) else -1

end Go.Proofs.Ytojklpahobmleaa
