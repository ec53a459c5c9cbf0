/- Lists of sayings: counted and copied. Conditions: lists of at most 2^20. Written by a program. -/
import Derived.Test.YtgiegoamcfjfmaaGreatJ31
import Derived.Test.YtgiegoamcfjfmaaGreatJ37
namespace Go.Proofs.YtgiegoamcfjfmaaGreat
set_option maxRecDepth 2000
open Go.ChangeShapes Go.WideShapes Go.ChangeAt Go.RowKit

theorem say_at {w : World} {n : Nat} {N : Nat → Sy} {a : Option Addr} {cap : Nat} (h : Rd w (sysD n N) (.slice a n cap)) {c : Nat} (hc : c < n) :
    ∃ (b off : Nat) (an : Option Addr) (cn : Nat), a = some ⟨b, off, none⟩ ∧ w.rangeAt b (off + c * 10) [.int .i64 (N c).k, .int .i64 (N c).f, .int .i64 (N c).t, .string (N c).r, .string (N c).p.r, .int .i64 (N c).p.k, .int .i64 (N c).p.n, .int .i64 (N c).p.i, .string (N c).p.b, .slice an (N c).p.m cn] ∧ TxtAt w an (N c).p.m (N c).p.S := by
  obtain ⟨b, off, y, an, cn, ea, hy, e, ht⟩ := say_row h hc
  obtain ⟨_, x⟩ := one_row (sz := 9) w (Below.refl _ _) hy
  have R := range10 x
  have h' := congrArg (fun v => match v with | Value.agg a => a.toList | _ => []) e
  have h'' : [y 0, y 1, y 2, y 3, y 4, y 5, y 6, y 7, y 8, y 9] = [.int .i64 (N c).k, .int .i64 (N c).f, .int .i64 (N c).t, .string (N c).r, .string (N c).p.r, .int .i64 (N c).p.k, .int .i64 (N c).p.n, .int .i64 (N c).p.i, .string (N c).p.b, .slice an (N c).p.m cn] := h'
  rw [h''] at R
  exact ⟨b, off, an, cn, ea, R, ht⟩
def zcY : List Value := [.int .i64 0, .int .i64 0, .int .i64 0, .string ByteArray.empty, .string ByteArray.empty, .int .i64 0, .int .i64 0, .int .i64 0, .string ByteArray.empty, .slice none 0 0]
theorem Tryz.infoSyZ : (Tryz.prog.info? 41).map (fun i => (i.zero, i.size, i.bytes)) = some (some (.agg zcY.toArray), 10, 120) := by kernel_rfl
end Go.Proofs.YtgiegoamcfjfmaaGreat
