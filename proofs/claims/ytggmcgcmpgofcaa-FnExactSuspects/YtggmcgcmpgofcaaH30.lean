/- The program's frame round a text, the pieces that it is cut into, the sums of all rows, and what is made of a text. Conditions stand at each. -/
import Derived.Test.YtggmcgcmpgofcaaH29
import Derived.Test.YtggmcgcmpgofcaaH28
import Derived.Test.YtggmcgcmpgofcaaH27
import Derived.Lib.BufferWrite
import Derived.Laws.CopyOwn
import Derived.Test.YtggmcgcmpgofcaaH15
import Derived.Test.YtggmcgcmpgofcaaH19
import Derived.Test.YtggmcgcmpgofcaaH14
import Derived.Test.YtggmcgcmpgofcaaH23
namespace Go.Proofs.Ytggmcgcmpgofcaa
set_option maxRecDepth 2000
open Go.ChangeShapes Go.WideShapes Go.ChangeAt Go.RowKit

theorem OwnB.heap {w : World} {B g n : Nat} {f : Nat → Nat} (h : OwnB w B g n n f) : w.heap[g]? = some (.cells ((eI f n).map (Value.int .u8)).toArray 5 (0, 0)) ∧ B ≤ g ∧ n ≤ maxLen := by
  rcases h.2 with ⟨e, _⟩ | ⟨g', cap, cur, e, hB, hg, hn, hm, hs, ht⟩
  · cases e
  · cases e
    have e2 : cur.toList.take (n * 1) = cur.toList := List.take_of_length_le (by rw [Array.length_toList, hs]; exact Nat.le_refl _)
    rw [e2] at ht
    refine ⟨?_, hB, hm⟩
    rw [hg, ← ht]
theorem OwnB.of {w : World} {B g n : Nat} {f : Nat → Nat} (h : w.heap[g]? = some (.cells ((eI f n).map (Value.int .u8)).toArray 5 (0, 0))) (hB : B ≤ g) (hm : n ≤ maxLen) : OwnB w B g n n f :=
  ⟨by simp [eI_len], .inr ⟨g, n, _, rfl, hB, h, Nat.le_refl _, hm, by simp [eI_len], by rw [List.take_of_length_le (by simp [eI_len])]⟩⟩
end Go.Proofs.Ytggmcgcmpgofcaa
/- The program's sums of all rows, over pieces and over texts; the pieces that a whole is cut into. Conditions stand at each. -/
namespace Go.Proofs.Ytggmcgcmpgofcaa
set_option maxRecDepth 2000
open Go.ChangeShapes Go.WideShapes Go.ChangeAt Go.RowKit

end Go.Proofs.Ytggmcgcmpgofcaa
/- The pieces that a whole is cut into; what the program makes of a text. Conditions: as the document has them, at most 2^20 bytes. -/
namespace Go.Proofs.Ytggmcgcmpgofcaa
set_option maxRecDepth 2000
open Go.ChangeShapes Go.WideShapes Go.ChangeAt Go.RowKit

end Go.Proofs.Ytggmcgcmpgofcaa
/- The model's sums of all rows over texts; whether two numbers are sides. Conditions: at most 16 texts of at most 2^20 bytes. -/
namespace Go.Proofs.Ytggmcgcmpgofcaa
set_option maxRecDepth 2000
open Go.ChangeShapes Go.WideShapes Go.ChangeAt Go.RowKit

end Go.Proofs.Ytggmcgcmpgofcaa
/- A piece that checks by itself, in the program and in its model: what each answers. Conditions: a proof of at most 2^20 texts; texts that a machine holds. -/
namespace Go.Proofs.Ytggmcgcmpgofcaa
set_option maxRecDepth 2000
open Go.ChangeShapes Go.WideShapes Go.ChangeAt Go.RowKit

def kOk (k n : Int) (b : ByteArray) : Prop := 1 ≤ k ∧ k ≤ n ∧ n ≤ 16 ∧ 1 ≤ b.size ∧ b.size ≤ 2002
instance (k n : Int) (b : ByteArray) : Decidable (kOk k n b) := by unfold kOk; exact inferInstance
end Go.Proofs.Ytggmcgcmpgofcaa
/- One piece of a cutting, in the program. Conditions: at most 64 bodies; a place among them. -/
namespace Go.Proofs.Ytggmcgcmpgofcaa
set_option maxRecDepth 2000
open Go.ChangeShapes Go.WideShapes Go.ChangeAt Go.RowKit

end Go.Proofs.Ytggmcgcmpgofcaa
