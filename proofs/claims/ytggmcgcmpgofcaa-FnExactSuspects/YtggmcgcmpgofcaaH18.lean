/- Marks over long lists of texts; a list of texts that came in. Conditions: at most 2^20 texts. -/
import Derived.Test.YtggmcgcmpgofcaaH14
import Derived.Test.YtggmcgcmpgofcaaRows
import Derived.Deep.Strs
namespace Go.Proofs.Ytggmcgcmpgofcaa
set_option maxRecDepth 2000
open Go.ChangeShapes Go.WideShapes Go.ChangeAt Go.RowKit

/-- A list of texts that came in. -/
def IsTxt (w : World) (a : Option Addr) (n : Nat) (S : Nat → ByteArray) : Prop := TxtAt w a n S ∧ n ≤ maxLen ∧ ∀ i, i < n → (S i).size ≤ maxLen
/-- The same, known to lie ahead of block 's'. -/
def ArgT (w : World) (s : Nat) (a : Option Addr) (n : Nat) (S : Nat → ByteArray) : Prop := TxtAt w a n S ∧ (0 < n → ∀ b off, a = some ⟨b, off, none⟩ → b < s)
theorem ArgT.below {w w' : World} {s : Nat} {a : Option Addr} {n : Nat} {S : Nat → ByteArray} (h : ArgT w s a n S) (hb : Below w.heap.size w w') : ArgT w' s a n S := ⟨h.1.below hb, h.2⟩
theorem ArgT.keep {w w' : World} {s : Nat} {a : Option Addr} {n : Nat} {S : Nat → ByteArray} (h : ArgT w s a n S) (hb : Below s w w') : ArgT w' s a n S :=
  ⟨fun i hi => by
    obtain ⟨b, off, e, hc⟩ := h.1 i hi
    exact ⟨b, off, e, (hb.cell (p := ⟨b, off + i, none⟩) (h.2 (by omega) b off e)).trans hc⟩, h.2⟩
end Go.Proofs.Ytggmcgcmpgofcaa
/- Pieces as the exact laws hand them in: counted, copied, compared. Conditions stand at each. -/
namespace Go.Proofs.Ytggmcgcmpgofcaa
set_option maxRecDepth 2000
open Go.ChangeShapes Go.WideShapes Go.ChangeAt Go.RowKit

end Go.Proofs.Ytggmcgcmpgofcaa
/- A piece that is handed in, read as the form reads it. No condition. -/
namespace Go.Proofs.Ytggmcgcmpgofcaa
set_option maxRecDepth 2000
open Go.ChangeShapes Go.WideShapes Go.ChangeAt Go.RowKit

end Go.Proofs.Ytggmcgcmpgofcaa
