import Derived.Test.YtihklfkhjpnjkaaGreatDoorK12
import Derived.Test.YtihklfkhjpnjkaaGreatDoorK8
import Derived.Test.YtihklfkhjpnjkaaGreatDoorK4
import Derived.Test.YtihklfkhjpnjkaaGreatDoorK14
set_option maxHeartbeats 8000000
set_option maxRecDepth 2000
open Go.ChangeShapes Go.WideShapes Go.ChangeAt Go.RowKit
namespace Go.Proofs.YtihklfkhjpnjkaaGreatDoor
open Gs (U V4)
theorem pickS_any (g n cap : Nat) (a : Option Addr) (lb off m lc : Nat) (w : World) (hc : Cur w g a n cap) (hm : 0 < m) (hm2 : m ≤ 256) (hl : lb ≠ g)
  (hcell : ∀ i, i < m → ∃ t : ByteArray, t.size = 1 ∧ w.cell? ⟨lb, off + i, none⟩ = some (.string t)) :
  Calls Tryz.prog 53 #[.pointer (some ⟨g, 0, none⟩), .slice (some ⟨lb, off, none⟩) m lc] w fun e w' => ∃ t : ByteArray, t.size = 1 ∧ e = .returned (.string t) ∧ w.grownBy w' (some g) ∧ Cur w' g a n cap := by
 go_enter Tryz.func53, Tryz.ntmps53
 go_wp2_with fail
 refine (belowN_any g n cap a _ _ hc).mono ?_
 rintro e w1 ⟨x, x0, x1, _, rfl, hg, hc1⟩
 have x2 := x1 (by omega)
 obtain ⟨k, rfl⟩ := Int.eq_ofNat_of_zero_le x0
 obtain ⟨t, ht, hz⟩ := hcell k (by omega)
 have hz1 := hg.cell hz (by simpa using hl)
 clear hcell hz x1
 go_wp2
 go_ret
 exact ⟨t, ht, rfl, hg, hc1⟩
end Go.Proofs.YtihklfkhjpnjkaaGreatDoor
