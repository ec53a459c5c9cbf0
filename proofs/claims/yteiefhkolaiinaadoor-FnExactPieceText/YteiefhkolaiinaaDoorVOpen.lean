/- A piece that is handed in, read as the form reads it. No condition. -/
import Derived.Test.YteiefhkolaiinaaDoorVLaw
import Derived.Test.YteiefhkolaiinaaDoorRows
import Derived.Deep.Strs
namespace Go.Proofs.YteiefhkolaiinaaDoor
set_option maxRecDepth 2000
open Go.ChangeShapes Go.WideShapes Go.ChangeAt Go.RowKit

theorem list6 {α : Type} (l : List α) (h : l.length = 6) : ∃ a b c d e f, l = [a, b, c, d, e, f] := by
  match l, h with
  | [a, b, c, d, e, f], _ => exact ⟨a, b, c, d, e, f, rfl⟩
theorem open_piece {H : Type} {enc : TypeId × Value → H} {w : World} {base : Nat} {spare : Nat → Bool} {held : Bool} {fuel : Nat} {cs : List Value} {x : DataW H × List MemPlace} (h : DataW.trod enc Tryd.prog w base spare held fuel 24 cs = some x) :
    ∃ (r : ByteArray) (k n i : Int) (b : ByteArray) (a : Option Addr) (m c : Nat) (S : Nat → ByteArray), cs = [.string r, .int .i64 k, .int .i64 n, .int .i64 i, .string b, .slice a m c] ∧ ((Lit.int .i64 k).wf = true ∧ (Lit.int .i64 n).wf = true ∧ (Lit.int .i64 i).wf = true) ∧ r.size ≤ maxLen ∧ b.size ≤ maxLen ∧ IsTxt w a m S := by
  have c6 : Tryd.prog.cellsOf 24 = 6 := by kernel_rfl
  have cs1 : Tryd.prog.cellsOf 9 = 1 := by kernel_rfl
  have ci1 : Tryd.prog.cellsOf 3 = 1 := by kernel_rfl
  have cl1 : Tryd.prog.cellsOf 22 = 1 := by kernel_rfl
  obtain ⟨xs, f, _, _, hl, hlen, hf⟩ := DataW.trod_struct Tryd.underlying24 h
  rw [c6] at hl
  obtain ⟨c0, c1, c2, c3, c4, c5, rfl⟩ := list6 cs hl
  obtain ⟨y0, y1, y2, y3, y4, y5, rfl⟩ := list6 xs hlen
  have g0 := hf 0 _ rfl
  have g1 := hf 1 _ rfl
  have g2 := hf 2 _ rfl
  have g3 := hf 3 _ rfl
  have g4 := hf 4 _ rfl
  have g5 := hf 5 _ rfl
  simp [cs1, ci1, cl1] at g0 g1 g2 g3 g4 g5
  obtain ⟨r, e0, _, hr⟩ := DataW.trod_string Tryd.underlying9 g0
  obtain ⟨k, e1, _, u1⟩ := DataW.trod_int Tryd.underlying3 g1
  obtain ⟨n, e2, _, u2⟩ := DataW.trod_int Tryd.underlying3 g2
  obtain ⟨i, e3, _, u3⟩ := DataW.trod_int Tryd.underlying3 g3
  obtain ⟨b, e4, _, hb⟩ := DataW.trod_string Tryd.underlying9 g4
  simp at e0 e1 e2 e3 e4
  subst e0 e1 e2 e3 e4
  rcases Go.Deep.open_strs Tryd.underlying22 Tryd.underlying9 cs1 g5 with ⟨hcs, _⟩ | ⟨ad, l, c, m, Sx, hcs, _, hl', hm, hmm, _, hcell⟩
  · simp at hcs
    subst hcs
    exact ⟨r, k, n, i, b, none, 0, 0, fun _ => ByteArray.empty, rfl, ⟨u1, u2, u3⟩, hr, hb, fun i hi => absurd hi (Nat.not_lt_zero _), Nat.zero_le _, fun i hi => absurd hi (Nat.not_lt_zero _)⟩
  · simp at hcs
    subst hcs
    exact ⟨r, k, n, i, b, some ad, l, c, Sx, rfl, ⟨u1, u2, u3⟩, hr, hb, isTxt_of hl' hm (by rw [hmm]; split <;> omega) hcell⟩
end Go.Proofs.YteiefhkolaiinaaDoor
