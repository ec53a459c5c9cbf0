/- The drawing of inputs: a cursor over bytes gives numbers within their bounds, writes into itself alone, and leaves all else as it was. Condition: at most 2^20 bytes. -/
import Derived.Test.YtahgdbmilflcmaaJ1
import Derived.Deep.QuietTactic
import Derived.BigQuiet
import Derived.Deep.RegionHeld3
namespace Go.Proofs.Ytahgdbmilflcmaa
set_option maxRecDepth 2000
open Go.ChangeShapes Go.WideShapes Go.ChangeAt Go.RowKit

theorem and255 (n : Int) : bits .and .i64 n 255 = n % 256 := by
  show IntKind.i64.wrap ((BitVec.ofInt 64 n &&& BitVec.ofInt 64 255).toNat : Int) = _
  have h1 : (BitVec.ofInt 64 255) = BitVec.ofNat 64 255 := by decide
  have h2 : (BitVec.ofInt 64 n).toNat = (n % 18446744073709551616).toNat := by simp
  rw [BitVec.toNat_and, h1, h2, BitVec.toNat_ofNat, show (255 % 2 ^ 64 : Nat) = 2 ^ 8 - 1 from rfl, Nat.and_two_pow_sub_one_eq_mod, IntKind.wrap_i64]
  omega

theorem grownBy_trans {a b c : World} {row : Option Nat} (h : a.grownBy b row) (k : b.grownBy c row) : a.grownBy c row :=
  ⟨k.os.trans h.os, k.tape.trans h.tape, k.output.trans h.output, Nat.le_trans h.size k.size, fun j hj hn => (k.block j (Nat.lt_of_lt_of_le hj h.size) hn).trans (h.block j hj hn)⟩
theorem grownBy_below {a b : World} {g : Nat} (h : Below a.heap.size a b) : a.grownBy b (some g) :=
  ⟨h.os, h.tape, h.output, h.size, fun j hj _ => h.block j hj⟩
theorem below_of_grownBy {B g : Nat} {a b : World} (h : a.grownBy b (some g)) (hB : B ≤ g) (hs : B ≤ a.heap.size) : Below B a b :=
  ⟨h.os, h.tape, h.output, h.size, fun j hj => h.block j (by omega) (by simp; omega)⟩

/-- The 'n' cells behind the address hold bytes, in another block than 'g'. -/
def BytesAt (w : World) (a : Option Addr) (n g : Nat) : Prop :=
  ∀ j, j < n → ∃ b off x, a = some ⟨b, off, none⟩ ∧ b ≠ g ∧ w.cell? ⟨b, off + j, none⟩ = some (.int .u8 x) ∧ 0 ≤ x ∧ x ≤ 255
theorem BytesAt.grown {w w' : World} {a : Option Addr} {n g : Nat} (h : BytesAt w a n g) (hg : w.grownBy w' (some g)) : BytesAt w' a n g := by
  intro j hj
  obtain ⟨b, off, x, e, hb, hc, hx⟩ := h j hj
  exact ⟨b, off, x, e, hb, hg.cell hc (by simpa using hb), hx⟩
/-- The cursor that lies in block 'g'. -/
def Cur (w : World) (g : Nat) (a : Option Addr) (n cap : Nat) : Prop :=
  n ≤ 1048576 ∧ (∃ (i : Nat) (h : Int), i ≤ n ∧ w.heap[g]? = some (.cells #[.slice a n cap, .int .i64 i, .int .i64 h] 89 (0, 0))) ∧ BytesAt w a n g
theorem Cur.kept {w w' : World} {g n cap : Nat} {a : Option Addr} {row : Option Nat} (h : Cur w g a n cap) (hg : w.grownBy w' row) (hr : row ≠ some g) (hb : ∀ b off, a = some ⟨b, off, none⟩ → row ≠ some b) : Cur w' g a n cap := by
  obtain ⟨hn, ⟨i, hh, hi, hblk⟩, hby⟩ := h
  refine ⟨hn, ⟨i, hh, hi, ?_⟩, ?_⟩
  · rw [hg.block g (Array.getElem?_eq_some_iff.1 hblk).1 (Ne.symm hr)]; exact hblk
  · intro j hj
    obtain ⟨b, off, x, e, hbg, hc, hx⟩ := hby j hj
    exact ⟨b, off, x, e, hbg, hg.cell hc (Ne.symm (hb b off e)), hx⟩

theorem cur_cells {w : World} {g : Nat} {x y z : Value} {ty : TypeId} (h : w.heap[g]? = some (.cells #[x, y, z] ty (0, 0))) :
    w.cell? ⟨g, 0, none⟩ = some x ∧ w.cell? ⟨g, 1, none⟩ = some y ∧ w.cell? ⟨g, 2, none⟩ = some z ∧ w.frozen? ⟨g, 1, none⟩ = false ∧ w.frozen? ⟨g, 2, none⟩ = false := by
  refine ⟨?_, ?_, ?_, ?_, ?_⟩ <;> first | (rw [cell_of_row w g _ _ ty _ h]; rfl) | exact frozen_of_row w g _ _ ty h

theorem cur_set2 {w : World} {g : Nat} {x y z v : Value} {ty : TypeId} (h : w.heap[g]? = some (.cells #[x, y, z] ty (0, 0))) :
    (w.setCell ⟨g, 2, none⟩ v).heap[g]? = some (.cells #[x, y, v] ty (0, 0)) ∧ w.grownBy (w.setCell ⟨g, 2, none⟩ v) (some g) :=
  ⟨by rw [heap_setCell_same w g 2 _ ty v h]; rfl, ⟨rfl, rfl, rfl, by simp, fun k _ hk => heap_setCell_other w ⟨g, 2, none⟩ k v (fun e => hk (by simp [e]))⟩⟩
theorem cur_set1 {w : World} {g : Nat} {x y z v : Value} {ty : TypeId} (h : w.heap[g]? = some (.cells #[x, y, z] ty (0, 0))) :
    (w.setCell ⟨g, 1, none⟩ v).heap[g]? = some (.cells #[x, v, z] ty (0, 0)) ∧ w.grownBy (w.setCell ⟨g, 1, none⟩ v) (some g) :=
  ⟨by rw [heap_setCell_same w g 1 _ ty v h]; rfl, ⟨rfl, rfl, rfl, by simp, fun k _ hk => heap_setCell_other w ⟨g, 1, none⟩ k v (fun e => hk (by simp [e]))⟩⟩
theorem grownBy_drewN {w w' : World} {row : Option Nat} (h : w.grownBy w' row) (m : Nat) : w.grownBy (w'.drewN m) row := ⟨h.os, h.tape, h.output, h.size, h.block⟩
theorem cur_set21 {w : World} {g : Nat} {x y z v u : Value} {ty : TypeId} (m : Nat) (h : w.heap[g]? = some (.cells #[x, y, z] ty (0, 0))) :
    w.grownBy (((w.setCell ⟨g, 2, none⟩ v).drewN m).setCell ⟨g, 1, none⟩ u) (some g) ∧ (((w.setCell ⟨g, 2, none⟩ v).drewN m).setCell ⟨g, 1, none⟩ u).heap[g]? = some (.cells #[x, u, v] ty (0, 0)) := by
  have h2 := cur_set2 (v := v) h
  have h3 : ((w.setCell ⟨g, 2, none⟩ v).drewN m).heap[g]? = some (.cells #[x, y, v] ty (0, 0)) := h2.1
  exact ⟨grownBy_trans (grownBy_drewN h2.2 m) (cur_set1 (v := u) h3).2, (cur_set1 (v := u) h3).1⟩

set_option maxHeartbeats 1000000 in
theorem byte_out (g n cap i : Nat) (hh : Int) (a : Option Addr) (w : World) (hi : ¬ i < n)
    (hblk : w.heap[g]? = some (.cells #[.slice a n cap, .int .i64 i, .int .i64 hh] 89 (0, 0))) :
    Calls Try.prog 70 #[.pointer (some ⟨g, 0, none⟩)] w fun e w' => ∃ x hv : Int, 0 ≤ x ∧ x ≤ 255 ∧ e = .returned (.int .i64 x) ∧ w.grownBy w' (some g) ∧ w'.heap[g]? = some (.cells #[.slice a n cap, .int .i64 i, .int .i64 hv] 89 (0, 0)) := by
  obtain ⟨c0, c1, c2, f1, f2⟩ := cur_cells hblk
  have HB : Hid (w.heap[g]? = some (.cells #[.slice a n cap, .int .i64 i, .int .i64 hh] 89 (0, 0))) := hblk
  have hand := and255
  clear hblk
  go_enter Try.func70, Try.ntmps70
  go_wp2
  go_quiet (fail)
  go_wp2
  go_quiet (fail)
  go_wp2
  go_ret
  exact ⟨_, _, Int.emod_nonneg _ (by decide), Int.le_of_lt_add_one (Int.emod_lt_of_pos _ (by decide)), rfl, grownBy_drewN (grownBy_drewN (cur_set2 HB.out).2 _) _, (cur_set2 HB.out).1⟩

set_option maxHeartbeats 1000000 in
theorem byte_in (g n cap i b off : Nat) (hh y : Int) (w : World) (hn : n ≤ 1048576) (hi : i < n) (hbg : b ≠ g) (hy : w.cell? ⟨b, off + i, none⟩ = some (.int .u8 y)) (y0 : 0 ≤ y) (y1 : y ≤ 255)
    (hblk : w.heap[g]? = some (.cells #[.slice (some ⟨b, off, none⟩) n cap, .int .i64 i, .int .i64 hh] 89 (0, 0))) :
    Calls Try.prog 70 #[.pointer (some ⟨g, 0, none⟩)] w fun e w' => ∃ x hv : Int, 0 ≤ x ∧ x ≤ 255 ∧ e = .returned (.int .i64 x) ∧ w.grownBy w' (some g) ∧ w'.heap[g]? = some (.cells #[.slice (some ⟨b, off, none⟩) n cap, .int .i64 ((i + 1 : Nat) : Int), .int .i64 hv] 89 (0, 0)) := by
  obtain ⟨c0, c1, c2, f1, f2⟩ := cur_cells hblk
  have HB : Hid (w.heap[g]? = some (.cells #[.slice (some ⟨b, off, none⟩) n cap, .int .i64 i, .int .i64 hh] 89 (0, 0))) := hblk
  have hand := and255
  have hii : (i : Int) < (n : Int) := by omega
  have hyy : ∀ v, (w.setCell ⟨g, 2, none⟩ v).cell? ⟨b, off + i, none⟩ = some (.int .u8 y) := fun v => ((cur_set2 (v := v) hblk).2.cell hy (by simpa using hbg))
  clear hblk
  go_enter Try.func70, Try.ntmps70
  go_wp2
  go_quiet (fail)
  go_wp2
  go_quiet (fail)
  go_wp2
  go_quiet (fail)
  go_wp2
  go_ret
  exact ⟨_, _, Int.emod_nonneg _ (by decide), Int.le_of_lt_add_one (Int.emod_lt_of_pos _ (by decide)), rfl, (cur_set21 _ HB.out).1, (cur_set21 _ HB.out).2⟩

theorem byte_any (g n cap : Nat) (a : Option Addr) (w : World) (hc : Cur w g a n cap) :
    Calls Try.prog 70 #[.pointer (some ⟨g, 0, none⟩)] w fun e w' => ∃ x : Int, 0 ≤ x ∧ x ≤ 255 ∧ e = .returned (.int .i64 x) ∧ w.grownBy w' (some g) ∧ Cur w' g a n cap := by
  obtain ⟨hn, ⟨i, hh, hi, hblk⟩, hby⟩ := hc
  by_cases hlt : i < n
  · obtain ⟨b, off, y, rfl, hbg, hy, y0, y1⟩ := hby i hlt
    refine (byte_in g n cap i b off hh y w hn hlt hbg hy y0 y1 hblk).mono ?_
    rintro e w' ⟨x, hv, x0, x1, rfl, hg, hb'⟩
    exact ⟨x, x0, x1, rfl, hg, hn, ⟨i + 1, hv, hlt, hb'⟩, hby.grown hg⟩
  · refine (byte_out g n cap i hh a w hlt hblk).mono ?_
    rintro e w' ⟨x, hv, x0, x1, rfl, hg, hb'⟩
    exact ⟨x, x0, x1, rfl, hg, hn, ⟨i, hv, hi, hb'⟩, hby.grown hg⟩

set_option maxHeartbeats 1000000 in
theorem belowN_any (g n cap : Nat) (a : Option Addr) (m : Int) (w : World) (hc : Cur w g a n cap) :
    Calls Try.prog 37 #[.pointer (some ⟨g, 0, none⟩), .int .i64 m] w fun e w' => ∃ x : Int, 0 ≤ x ∧ (0 < m → x < m) ∧ (m ≤ 0 → x = 0) ∧ e = .returned (.int .i64 x) ∧ w.grownBy w' (some g) ∧ Cur w' g a n cap := by
  by_cases h0 : m ≤ 0
  · go_enter Try.func37, Try.ntmps37
    go_wp2
    go_ret
    exact ⟨0, by omega, by omega, by omega, rfl, World.grownBy.refl _ _, hc⟩
  · by_cases h1 : m ≤ 256
    · go_enter Try.func37, Try.ntmps37
      go_wp2_with fail
      refine (byte_any g n cap a _ hc).mono ?_
      rintro e w1 ⟨x, x0, x1, rfl, hg, hc1⟩
      go_wp2
      go_ret
      exact ⟨_, Int.emod_nonneg _ (by omega), fun _ => Int.emod_lt_of_pos _ (by omega), fun h => by omega, rfl, hg, hc1⟩
    · go_enter Try.func37, Try.ntmps37
      go_wp2_with fail
      refine (byte_any g n cap a _ hc).mono ?_
      rintro e w1 ⟨x, x0, x1, rfl, hg1, hc1⟩
      go_wp2_with fail
      refine (byte_any g n cap a _ hc1).mono ?_
      rintro e w2 ⟨y, y0, y1, rfl, hg2, hc2⟩
      go_wp2_with fail
      refine (byte_any g n cap a _ hc2).mono ?_
      rintro e w3 ⟨z, z0, z1, rfl, hg3, hc3⟩
      go_wp2_with fail
      refine (byte_any g n cap a _ hc3).mono ?_
      rintro e w4 ⟨u, u0, u1, rfl, hg4, hc4⟩
      go_wp2
      go_ret
      exact ⟨_, Int.emod_nonneg _ (by omega), fun _ => Int.emod_lt_of_pos _ (by omega), fun h => by omega, rfl, grownBy_trans (grownBy_trans (grownBy_trans hg1 hg2) hg3) hg4, hc4⟩

set_option maxHeartbeats 400000 in
theorem once_any (g n cap : Nat) (a : Option Addr) (m : Int) (w : World) (hc : Cur w g a n cap) :
    Calls Try.prog 67 #[.pointer (some ⟨g, 0, none⟩), .int .i64 m] w fun e w' => ∃ x : Bool, e = .returned (.bool x) ∧ w.grownBy w' (some g) ∧ Cur w' g a n cap := by
  go_enter Try.func67, Try.ntmps67
  go_wp2_with fail
  refine (belowN_any g n cap a _ _ hc).mono ?_
  rintro e w1 ⟨x, _, _, _, rfl, hg, hc1⟩
  go_wp2
  go_ret
  exact ⟨_, rfl, hg, hc1⟩

set_option maxHeartbeats 400000 in
theorem pick_any (g n cap : Nat) (a : Option Addr) (lb off m lc : Nat) (w : World) (hc : Cur w g a n cap) (hm : 0 < m) (hm2 : m ≤ 256) (hl : lb ≠ g)
    (hcell : ∀ i, i < m → ∃ z, w.cell? ⟨lb, off + i, none⟩ = some (.int .i64 z)) :
    Calls Try.prog 68 #[.pointer (some ⟨g, 0, none⟩), .slice (some ⟨lb, off, none⟩) m lc] w fun e w' => ∃ x : Int, e = .returned (.int .i64 x) ∧ w.grownBy w' (some g) ∧ Cur w' g a n cap := by
  go_enter Try.func68, Try.ntmps68
  go_wp2_with fail
  refine (belowN_any g n cap a _ _ hc).mono ?_
  rintro e w1 ⟨x, x0, x1, _, rfl, hg, hc1⟩
  have x2 := x1 (by omega)
  obtain ⟨k, rfl⟩ := Int.eq_ofNat_of_zero_le x0
  obtain ⟨z, hz⟩ := hcell k (by omega)
  have hz1 := hg.cell hz (by simpa using hl)
  clear hcell hz x1
  go_wp2
  go_ret
  exact ⟨_, rfl, hg, hc1⟩

theorem lit_cells {w : World} {cs : List Int} {ty : TypeId} : ∀ i, i < cs.length → ∃ z, (w.alloc (.cells (cs.map (Value.int .i64)).toArray ty)).cell? ⟨w.heap.size, 0 + i, none⟩ = some (.int .i64 z) := by
  intro i hi
  rw [Nat.zero_add, cell_of_row _ _ _ _ ty _ (heap_alloc_new w _)]
  exact ⟨cs[i], by simp [hi]⟩
theorem Cur.lt {w : World} {g n cap : Nat} {a : Option Addr} (h : Cur w g a n cap) : g < w.heap.size := by
  obtain ⟨_, ⟨i, hh, _, hblk⟩, _⟩ := h
  exact (Array.getElem?_eq_some_iff.1 hblk).1
theorem Cur.alloc {w : World} {g n cap : Nat} {a : Option Addr} (h : Cur w g a n cap) (o : Obj) : Cur (w.alloc o) g a n cap :=
  h.kept (World.grownBy_alloc w o none) (by simp) (by simp)

set_option maxRecDepth 100000 in
set_option maxHeartbeats 1000000 in
theorem new_any (a : Option Addr) (n cap : Nat) (w : World) (hn : n ≤ 1048576) (hby : ∀ g, w.heap.size ≤ g → BytesAt w a n g) :
    Calls Try.prog 35 #[.slice a n cap] w fun e w' => ∃ g, e = .returned (.pointer (some ⟨g, 0, none⟩)) ∧ w.heap.size ≤ g ∧ Below w.heap.size w w' ∧ Cur w' g a n cap := by
  go_enter Try.func35, Try.ntmps35
  go_wp2
  go_loopw [3, 4] (fun h i wr => ∃ (k : Nat) (hh : Int), k ≤ n ∧ h = .int .i64 hh ∧ i = .int .i64 k ∧ wr = w) (fun _ i _ => n - (intOf i).toNat)
  case atStart => exact ⟨0, _, Nat.zero_le _, rfl, rfl, rfl⟩
  case round =>
    obtain ⟨k, hh, hk, rfl, rfl, rfl⟩ := hrel
    by_cases hlt : k < n ∧ k < 4000
    · obtain ⟨b, off, x, rfl, hbg, hc, x0, x1⟩ := hby _ (Nat.le_refl _) k hlt.1
      have h1 : (k : Int) < (n : Int) := by omega
      have h2 : (k : Int) < 4000 := by omega
      clear hby
      go_wp2
      go_roundw
      case rel => exact ⟨k + 1, _, by omega, rfl, by go_num, trivial⟩
      case measure => simp [intOf]; omega
    · have fin : ∀ hv : Int, Below wr.heap.size wr (wr.alloc (.cells #[.slice a n cap, .int .i64 0, .int .i64 hv] 89)) ∧ Cur (wr.alloc (.cells #[.slice a n cap, .int .i64 0, .int .i64 hv] 89)) wr.heap.size a n cap := fun hv =>
        ⟨(Below.refl _ _).alloc (Nat.le_refl _) _, hn, ⟨0, hv, Nat.zero_le _, heap_alloc_new wr _⟩, (hby _ (Nat.le_refl _)).grown (World.grownBy_alloc wr _ _)⟩
      have F : Hid (∀ hv : Int, Below wr.heap.size wr (wr.alloc (.cells #[.slice a n cap, .int .i64 0, .int .i64 hv] 89)) ∧ Cur (wr.alloc (.cells #[.slice a n cap, .int .i64 0, .int .i64 hv] 89)) wr.heap.size a n cap) := fin
      clear fin hby
      by_cases h1 : k < n
      · have h1' : (k : Int) < (n : Int) := by omega
        have h2 : ¬ (k : Int) < 4000 := by omega
        go_wp2
        go_ret
        exact ⟨_, rfl, Nat.le_refl _, (F.out hh).1, (F.out hh).2⟩
      · go_wp2
        go_ret
        exact ⟨_, rfl, Nat.le_refl _, (F.out hh).1, (F.out hh).2⟩
end Go.Proofs.Ytahgdbmilflcmaa
