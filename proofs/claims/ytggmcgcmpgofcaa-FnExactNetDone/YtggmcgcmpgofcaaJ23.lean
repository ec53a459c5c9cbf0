/- Whose a piece is, in the model. Conditions: F from 1 to 3, proofs of at most 2^20. -/
import Derived.Test.YtggmcgcmpgofcaaJ20
import Derived.Test.YtggmcgcmpgofcaaJ19
namespace Go.Proofs.Ytggmcgcmpgofcaa
set_option maxRecDepth 2000
open Go.ChangeShapes Go.WideShapes Go.ChangeAt Go.RowKit

def MineP (root : ByteArray) (id f : Int) (r : ByteArray) (k n i : Int) : Prop := r = root ∧ k = f + 1 ∧ n = 3 * f + 1 ∧ i = id
instance (root : ByteArray) (id f : Int) (r : ByteArray) (k n i : Int) : Decidable (MineP root id f r k n i) := by unfold MineP; infer_instance
end Go.Proofs.Ytggmcgcmpgofcaa
/- Whose a piece is, in the program. Conditions: F from 1 to 3, proofs of at most 2^20. -/
namespace Go.Proofs.Ytggmcgcmpgofcaa
set_option maxRecDepth 2000
open Go.ChangeShapes Go.WideShapes Go.ChangeAt Go.RowKit

end Go.Proofs.Ytggmcgcmpgofcaa
/- How far a slot is brought, in the program. Condition: F from 1 to 3. -/
namespace Go.Proofs.Ytggmcgcmpgofcaa
set_option maxRecDepth 2000
open Go.ChangeShapes Go.WideShapes Go.ChangeAt Go.RowKit

end Go.Proofs.Ytggmcgcmpgofcaa
/- Whether a slot is a node's, in the program. Conditions: F from 1 to 3, lists of at most 2^20. -/
namespace Go.Proofs.Ytggmcgcmpgofcaa
set_option maxRecDepth 2000
open Go.ChangeShapes Go.WideShapes Go.ChangeAt Go.RowKit

end Go.Proofs.Ytggmcgcmpgofcaa
/- Whether a node is right, in the program. Conditions: lists of at most 2^20, texts that can be. -/
namespace Go.Proofs.Ytggmcgcmpgofcaa
set_option maxRecDepth 2000
open Go.ChangeShapes Go.WideShapes Go.ChangeAt Go.RowKit

theorem ag13_list {y : Nat → Value} {c0 c1 c2 c3 c4 c5 c6 c7 c8 c9 c10 c11 c12 : Value} (h : ag13 y = .agg #[c0, c1, c2, c3, c4, c5, c6, c7, c8, c9, c10, c11, c12]) : [y 0, y 1, y 2, y 3, y 4, y 5, y 6, y 7, y 8, y 9, y 10, y 11, y 12] = [c0, c1, c2, c3, c4, c5, c6, c7, c8, c9, c10, c11, c12] := by
  have h' := congrArg (fun v => match v with | Value.agg a => a.toList | _ => []) h
  exact h'
abbrev slL (s : Sl) (v6 v11 v12 : Value) : List Value := [.string s.r, .string s.p.r, .int .i64 s.p.k, .int .i64 s.p.n, .int .i64 s.p.i, .string s.p.b, v6, .bool s.h, .bool s.e, .bool s.d, .bool s.o, v11, v12]
/-- A slot that is read, its cells written out. -/
theorem slot_at {w : World} {n : Nat} {S : Nat → Sl} {a : Option Addr} {cap : Nat} (h : Rd w (slsD n S) (.slice a n cap)) {i : Nat} (hi : i < n) :
    ∃ (b off : Nat) (a6 a11 a12 : Option Addr) (c6 c11 c12 : Nat), a = some ⟨b, off, none⟩ ∧ w.rangeAt b (off + i * 13) (slL (S i) (.slice a6 (S i).p.m c6) (.slice a11 (S i).ze.length c11) (.slice a12 (S i).zr.length c12)) ∧ TxtAt w a6 (S i).p.m (S i).p.S ∧ IntsAt w a11 (S i).ze.length (S i).ze ∧ IntsAt w a12 (S i).zr.length (S i).zr := by
  obtain ⟨b, off, y, a6, a11, a12, c6, c11, c12, ea, hc, e, t6, t11, t12⟩ := slot_row h hi
  obtain ⟨_, x⟩ := one_row (sz := 12) w (Below.refl _ _) hc
  have R := range13 x
  rw [ag13_list e] at R
  exact ⟨b, off, a6, a11, a12, c6, c11, c12, ea, R, t6, t11, t12⟩
end Go.Proofs.Ytggmcgcmpgofcaa
