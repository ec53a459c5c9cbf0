/- Texts scaled and summed byte by byte, in the program and in its model: what each answers at every text and number. Condition: texts of at most 2^20 bytes. -/
import Derived.Test.YteiefhkolaiinaaDoorSlices
import Derived.Test.YteiefhkolaiinaaDoorSField
import Derived.Laws.BytesArg
import Derived.Deep.QuietTactic
import Derived.BigQuiet
namespace Go.Proofs.YteiefhkolaiinaaDoor
set_option maxRecDepth 2000
open Go.ChangeShapes Go.WideShapes Go.ChangeAt Go.RowKit

theorem ret_str {a b : ByteArray} (h : a = b) : Ending.returned (.string a) = .returned (.string b) := by rw [h]
theorem u8_lt (c : UInt8) : c.toNat < 256 := c.toNat_lt

def scaleL (s : ByteArray) (A : Nat) : List Int := s.data.toList.map fun c => ((Gf.mul c.toNat A : Nat) : Int)
def scaleS (s : ByteArray) (a : Int) : ByteArray := if isB a = true then strOfNums (scaleL s a.toNat) else ByteArray.empty
theorem scaleL_len (s : ByteArray) (A : Nat) : (scaleL s A).length = s.size := by simp [scaleL]
theorem scaleL_at (s : ByteArray) (A k : Nat) (h : k < s.size) : (scaleL s A).getD k 0 = ((Gf.mul s[k].toNat A : Nat) : Int) := by
  have h' : k < s.data.toList.length := by simpa using h
  simp only [scaleL, List.getD, List.getElem?_map, List.getElem?_eq_getElem h', Option.map_some, Option.getD_some]
  rfl

end Go.Proofs.YteiefhkolaiinaaDoor
