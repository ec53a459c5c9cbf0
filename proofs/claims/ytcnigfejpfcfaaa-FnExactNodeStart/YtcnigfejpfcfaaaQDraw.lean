/- The drawing of inputs: a cursor over bytes gives numbers within their bounds, writes into itself alone, and leaves all else as it was. Condition: at most 2^20 bytes. -/
import Derived.Test.YtcnigfejpfcfaaaJ1
import Derived.Deep.QuietTactic
import Derived.BigQuiet
import Derived.Deep.RegionHeld3
namespace Go.Proofs.Ytcnigfejpfcfaaa
set_option maxRecDepth 2000
open Go.ChangeShapes Go.WideShapes Go.ChangeAt Go.RowKit

theorem and255 (n : Int) : bits .and .i64 n 255 = n % 256 := by
  show IntKind.i64.wrap ((BitVec.ofInt 64 n &&& BitVec.ofInt 64 255).toNat : Int) = _
  have h1 : (BitVec.ofInt 64 255) = BitVec.ofNat 64 255 := by decide
  have h2 : (BitVec.ofInt 64 n).toNat = (n % 18446744073709551616).toNat := by simp
  rw [BitVec.toNat_and, h1, h2, BitVec.toNat_ofNat, show (255 % 2 ^ 64 : Nat) = 2 ^ 8 - 1 from rfl, Nat.and_two_pow_sub_one_eq_mod, IntKind.wrap_i64]
  omega

theorem grownBy_trans {a b c : World} {row : Option Nat} (h : a.grownBy b row) (k : b.grownBy c row) : a.grownBy c row :=
  ⟨k.os.trans h.os, k.tape.trans h.tape, k.output.trans h.output, Nat.le_trans h.size k.size, fun j hj hn => (k.block j (Nat.lt_of_lt_of_le hj h.size) hn).trans (h.block j hj hn)⟩
theorem grownBy_below {a b : World} {g : Nat} (h : Below a.heap.size a b) : a.grownBy b (some g) :=
  ⟨h.os, h.tape, h.output, h.size, fun j hj _ => h.block j hj⟩
theorem below_of_grownBy {B g : Nat} {a b : World} (h : a.grownBy b (some g)) (hB : B ≤ g) (hs : B ≤ a.heap.size) : Below B a b :=
  ⟨h.os, h.tape, h.output, h.size, fun j hj => h.block j (by omega) (by simp; omega)⟩

/-- The 'n' cells behind the address hold bytes, in another block than 'g'. -/
def BytesAt (w : World) (a : Option Addr) (n g : Nat) : Prop :=
  ∀ j, j < n → ∃ b off x, a = some ⟨b, off, none⟩ ∧ b ≠ g ∧ w.cell? ⟨b, off + j, none⟩ = some (.int .u8 x) ∧ 0 ≤ x ∧ x ≤ 255
theorem BytesAt.grown {w w' : World} {a : Option Addr} {n g : Nat} (h : BytesAt w a n g) (hg : w.grownBy w' (some g)) : BytesAt w' a n g := by
  intro j hj
  obtain ⟨b, off, x, e, hb, hc, hx⟩ := h j hj
  exact ⟨b, off, x, e, hb, hg.cell hc (by simpa using hb), hx⟩
theorem cur_cells {w : World} {g : Nat} {x y z : Value} {ty : TypeId} (h : w.heap[g]? = some (.cells #[x, y, z] ty (0, 0))) :
    w.cell? ⟨g, 0, none⟩ = some x ∧ w.cell? ⟨g, 1, none⟩ = some y ∧ w.cell? ⟨g, 2, none⟩ = some z ∧ w.frozen? ⟨g, 1, none⟩ = false ∧ w.frozen? ⟨g, 2, none⟩ = false := by
  refine ⟨?_, ?_, ?_, ?_, ?_⟩ <;> first | (rw [cell_of_row w g _ _ ty _ h]; rfl) | exact frozen_of_row w g _ _ ty h

theorem cur_set2 {w : World} {g : Nat} {x y z v : Value} {ty : TypeId} (h : w.heap[g]? = some (.cells #[x, y, z] ty (0, 0))) :
    (w.setCell ⟨g, 2, none⟩ v).heap[g]? = some (.cells #[x, y, v] ty (0, 0)) ∧ w.grownBy (w.setCell ⟨g, 2, none⟩ v) (some g) :=
  ⟨by rw [heap_setCell_same w g 2 _ ty v h]; rfl, ⟨rfl, rfl, rfl, by simp, fun k _ hk => heap_setCell_other w ⟨g, 2, none⟩ k v (fun e => hk (by simp [e]))⟩⟩
theorem cur_set1 {w : World} {g : Nat} {x y z v : Value} {ty : TypeId} (h : w.heap[g]? = some (.cells #[x, y, z] ty (0, 0))) :
    (w.setCell ⟨g, 1, none⟩ v).heap[g]? = some (.cells #[x, v, z] ty (0, 0)) ∧ w.grownBy (w.setCell ⟨g, 1, none⟩ v) (some g) :=
  ⟨by rw [heap_setCell_same w g 1 _ ty v h]; rfl, ⟨rfl, rfl, rfl, by simp, fun k _ hk => heap_setCell_other w ⟨g, 1, none⟩ k v (fun e => hk (by simp [e]))⟩⟩
theorem grownBy_drewN {w w' : World} {row : Option Nat} (h : w.grownBy w' row) (m : Nat) : w.grownBy (w'.drewN m) row := ⟨h.os, h.tape, h.output, h.size, h.block⟩
theorem cur_set21 {w : World} {g : Nat} {x y z v u : Value} {ty : TypeId} (m : Nat) (h : w.heap[g]? = some (.cells #[x, y, z] ty (0, 0))) :
    w.grownBy (((w.setCell ⟨g, 2, none⟩ v).drewN m).setCell ⟨g, 1, none⟩ u) (some g) ∧ (((w.setCell ⟨g, 2, none⟩ v).drewN m).setCell ⟨g, 1, none⟩ u).heap[g]? = some (.cells #[x, u, v] ty (0, 0)) := by
  have h2 := cur_set2 (v := v) h
  have h3 : ((w.setCell ⟨g, 2, none⟩ v).drewN m).heap[g]? = some (.cells #[x, y, v] ty (0, 0)) := h2.1
  exact ⟨grownBy_trans (grownBy_drewN h2.2 m) (cur_set1 (v := u) h3).2, (cur_set1 (v := u) h3).1⟩

theorem lit_cells {w : World} {cs : List Int} {ty : TypeId} : ∀ i, i < cs.length → ∃ z, (w.alloc (.cells (cs.map (Value.int .i64)).toArray ty)).cell? ⟨w.heap.size, 0 + i, none⟩ = some (.int .i64 z) := by
  intro i hi
  rw [Nat.zero_add, cell_of_row _ _ _ _ ty _ (heap_alloc_new w _)]
  exact ⟨cs[i], by simp [hi]⟩
end Go.Proofs.Ytcnigfejpfcfaaa
