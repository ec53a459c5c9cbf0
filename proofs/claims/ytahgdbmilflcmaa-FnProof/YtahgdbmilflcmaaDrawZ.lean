/- What DrawProof and DrawProofLen draw. Conditions: a code of at most 2^20 bytes. -/
import Derived.Test.YtahgdbmilflcmaaDrawY
import Derived.Test.YtahgdbmilflcmaaDraws
import Derived.Test.YtahgdbmilflcmaaFrom
namespace Go.Proofs.Ytahgdbmilflcmaa
set_option maxRecDepth 2000
open Go.ChangeShapes Go.WideShapes Go.ChangeAt Go.RowKit

theorem belowOf {w w1 w2 : World} {g : Nat} (hb : Below w.heap.size w w1) (hg : w.heap.size ≤ g) (h : w1.grownBy w2 (some g)) : Below w.heap.size w w2 := hb.grown h hb.size (fun k e => by cases e; exact hg)

set_option maxHeartbeats 1000000 in
theorem drawProofLen_any (a : Option Addr) (n cap : Nat) (w : World) (hc : CodeAt w a n) :
    Calls Try.prog 15 #[.slice a n cap] w fun e w' => ∃ x y : Int, e = .returned (.tuple #[.int .i64 x, .int .i64 y]) ∧ Below w.heap.size w w' := by
  go_enter Try.func15, Try.ntmps15
  go_wp2_with fail
  refine (new_any a n cap _ hc.1 hc.bytes).mono ?_
  rintro e w1 ⟨g, rfl, hg, hb1, hc1⟩
  clear hc
  go_wp2_with fail
  refine (belowN_any g n cap a _ _ hc1).mono ?_
  rintro e w2 ⟨x, x0, x1, _, rfl, hg2, hc2⟩
  have x2 := x1 (by omega)
  clear x1
  have hw : IntKind.i64.wrap (x + 2) = x + 2 := by rw [IntKind.wrap_i64]; omega
  go_wp2_with fail
  refine (belowN_any g n cap a _ _ hc2).mono ?_
  rintro e w3 ⟨y, y0, y1, _, rfl, hg3, hc3⟩
  have y2 := y1 (by omega)
  clear y1
  have hw2 : IntKind.i64.wrap (y - 1) = y - 1 := by rw [IntKind.wrap_i64]; omega
  go_wp2
  go_ret2
  exact ⟨_, _, rfl, belowOf hb1 hg (grownBy_trans hg2 hg3)⟩

set_option maxHeartbeats 1000000 in
theorem drawProof_any (a : Option Addr) (n cap : Nat) (w : World) (hc : CodeAt w a n) :
    Calls Try.prog 9 #[.slice a n cap] w fun e w' => ∃ (m G c : Nat) (S : Nat → ByteArray) (x : Int), m ≤ 65 ∧ -1 ≤ x ∧ x ≤ (m : Int) ∧ e = .returned (.tuple #[.slice (some ⟨G, 0, none⟩) m c, .int .i64 x]) ∧ OwnT w' w.heap.size (some ⟨G, 0, none⟩) m c S ∧ (∀ i, i < m → (S i).size ≤ 16) ∧ Below w.heap.size w w' := by
  go_enter Try.func9, Try.ntmps9
  go_wp2_with fail
  refine (new_any a n cap _ hc.1 hc.bytes).mono ?_
  rintro e w1 ⟨g, rfl, hg, hb1, hc1⟩
  have hab := hc.under hg
  clear hc
  go_wp2_with fail
  refine (list06_any g n cap a _ hc1 hab).mono ?_
  rintro e w2 ⟨m, v, hm, rfl, G, c, S, rfl, ho, h16, hg2, hc2⟩
  have lG := World.ownsRow.lt ho _ rfl
  have hgl := hc1.lt
  have KO : Hid (OwnT w2 w1.heap.size (some ⟨G, 0, none⟩) m c S ∧ ∀ i, i < m → (S i).size ≤ 16) := ⟨ho, h16⟩
  clear ho h16
  have hw : IntKind.i64.wrap ((m : Int) + 2) = (m : Int) + 2 := by rw [IntKind.wrap_i64]; omega
  go_wp2_with fail
  refine (belowN_any g n cap a _ _ hc2).mono ?_
  rintro e w3 ⟨y, y0, y1, _, rfl, hg3, hc3⟩
  have y2 := y1 (by omega)
  clear y1
  have hw2 : IntKind.i64.wrap (y - 1) = y - 1 := by rw [IntKind.wrap_i64]; omega
  have HR : Hid (OwnT w3 w.heap.size (some ⟨G, 0, none⟩) m c S) := OwnT.base (own_kept KO.out.1 hg3 (fun z e => by cases e; simp; omega)) hb1.size
  go_wp2
  go_ret2
  exact ⟨m, G, c, S, _, hm, by omega, by omega, rfl, HR.out, KO.out.2, belowOf hb1 hg (grownBy_trans hg2 hg3)⟩
end Go.Proofs.Ytahgdbmilflcmaa
