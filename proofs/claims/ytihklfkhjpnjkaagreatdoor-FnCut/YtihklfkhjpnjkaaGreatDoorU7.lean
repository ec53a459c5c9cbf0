import Derived.Test.YtihklfkhjpnjkaaGreatDoorU6
import Derived.Deep.QuietTactic
import Derived.BigQuiet
import Derived.Deep.RegionHeld3
import Derived.Deep.AppendLies
set_option maxHeartbeats 8000000
set_option maxRecDepth 2000
open Go.ChangeShapes Go.WideShapes Go.ChangeAt Go.RowKit
namespace Go.Proofs.YtihklfkhjpnjkaaGreatDoor
theorem and255 (n : Int) : bits .and .i64 n 255 = n % 256 := by
 show IntKind.i64.wrap ((BitVec.ofInt 64 n &&& BitVec.ofInt 64 255).toNat : Int) = _
 have h1 : (BitVec.ofInt 64 255) = BitVec.ofNat 64 255 := by decide
 have h2 : (BitVec.ofInt 64 n).toNat = (n % 18446744073709551616).toNat := by simp
 rw [BitVec.toNat_and, h1, h2, BitVec.toNat_ofNat, show (255 % 2 ^ 64 : Nat) = 2 ^ 8 - 1 from rfl, Nat.and_two_pow_sub_one_eq_mod, IntKind.wrap_i64]
 omega
theorem grownBy_trans {a b c : World} {row : Option Nat} (h : a.grownBy b row) (k : b.grownBy c row) : a.grownBy c row :=
 ⟨k.os.trans h.os, k.tape.trans h.tape, k.output.trans h.output, Nat.le_trans h.size k.size, fun j hj hn => (k.block j (Nat.lt_of_lt_of_le hj h.size) hn).trans (h.block j hj hn)⟩
def BytesAt (w : World) (a : Option Addr) (n g : Nat) : Prop :=
 ∀ j, j < n → ∃ b off x, a = some ⟨b, off, none⟩ ∧ b ≠ g ∧ w.cell? ⟨b, off + j, none⟩ = some (.int .u8 x) ∧ 0 ≤ x ∧ x ≤ 255
theorem BytesAt.grown {w w' : World} {a : Option Addr} {n g : Nat} (h : BytesAt w a n g) (hg : w.grownBy w' (some g)) : BytesAt w' a n g := by
 intro j hj
 obtain ⟨b, off, x, e, hb, hc, hx⟩ := h j hj
 exact ⟨b, off, x, e, hb, hg.cell hc (by simpa using hb), hx⟩
def Cur (w : World) (g : Nat) (a : Option Addr) (n cap : Nat) : Prop :=
 n ≤ 1048576 ∧ (∃ (i : Nat) (h : Int), i ≤ n ∧ w.heap[g]? = some (.cells #[.slice a n cap, .int .i64 i, .int .i64 h] 77 (0, 0))) ∧ BytesAt w a n g
theorem Cur.kept {w w' : World} {g n cap : Nat} {a : Option Addr} {row : Option Nat} (h : Cur w g a n cap) (hg : w.grownBy w' row) (hr : row ≠ some g) (hb : ∀ b off, a = some ⟨b, off, none⟩ → row ≠ some b) : Cur w' g a n cap := by
 obtain ⟨hn, ⟨i, hh, hi, hblk⟩, hby⟩ := h
 refine ⟨hn, ⟨i, hh, hi, ?_⟩, ?_⟩
 ·rw [hg.block g (Array.getElem?_eq_some_iff.1 hblk).1 (Ne.symm hr)]; exact hblk
 ·intro j hj
  obtain ⟨b, off, x, e, hbg, hc, hx⟩ := hby j hj
  exact ⟨b, off, x, e, hbg, hg.cell hc (Ne.symm (hb b off e)), hx⟩
theorem cur_cells {w : World} {g : Nat} {x y z : Value} {ty : TypeId} (h : w.heap[g]? = some (.cells #[x, y, z] ty (0, 0))) :
  w.cell? ⟨g, 0, none⟩ = some x ∧ w.cell? ⟨g, 1, none⟩ = some y ∧ w.cell? ⟨g, 2, none⟩ = some z ∧ w.frozen? ⟨g, 1, none⟩ = false ∧ w.frozen? ⟨g, 2, none⟩ = false := by
 refine ⟨?_, ?_, ?_, ?_, ?_⟩ <;> first | (rw [cell_of_row w g _ _ ty _ h]; rfl) | exact frozen_of_row w g _ _ ty h
theorem cur_set2 {w : World} {g : Nat} {x y z v : Value} {ty : TypeId} (h : w.heap[g]? = some (.cells #[x, y, z] ty (0, 0))) :
  (w.setCell ⟨g, 2, none⟩ v).heap[g]? = some (.cells #[x, y, v] ty (0, 0)) ∧ w.grownBy (w.setCell ⟨g, 2, none⟩ v) (some g) :=
 ⟨by rw [heap_setCell_same w g 2 _ ty v h]; rfl, ⟨rfl, rfl, rfl, by simp, fun k _ hk => heap_setCell_other w ⟨g, 2, none⟩ k v (fun e => hk (by simp [e]))⟩⟩
theorem cur_set1 {w : World} {g : Nat} {x y z v : Value} {ty : TypeId} (h : w.heap[g]? = some (.cells #[x, y, z] ty (0, 0))) :
  (w.setCell ⟨g, 1, none⟩ v).heap[g]? = some (.cells #[x, v, z] ty (0, 0)) ∧ w.grownBy (w.setCell ⟨g, 1, none⟩ v) (some g) :=
 ⟨by rw [heap_setCell_same w g 1 _ ty v h]; rfl, ⟨rfl, rfl, rfl, by simp, fun k _ hk => heap_setCell_other w ⟨g, 1, none⟩ k v (fun e => hk (by simp [e]))⟩⟩
theorem grownBy_drewN {w w' : World} {row : Option Nat} (h : w.grownBy w' row) (m : Nat) : w.grownBy (w'.drewN m) row := ⟨h.os, h.tape, h.output, h.size, h.block⟩
theorem cur_set21 {w : World} {g : Nat} {x y z v u : Value} {ty : TypeId} (m : Nat) (h : w.heap[g]? = some (.cells #[x, y, z] ty (0, 0))) :
  w.grownBy (((w.setCell ⟨g, 2, none⟩ v).drewN m).setCell ⟨g, 1, none⟩ u) (some g) ∧ (((w.setCell ⟨g, 2, none⟩ v).drewN m).setCell ⟨g, 1, none⟩ u).heap[g]? = some (.cells #[x, u, v] ty (0, 0)) := by
 have h2 := cur_set2 (v := v) h
 have h3 : ((w.setCell ⟨g, 2, none⟩ v).drewN m).heap[g]? = some (.cells #[x, y, v] ty (0, 0)) := h2.1
 exact ⟨grownBy_trans (grownBy_drewN h2.2 m) (cur_set1 (v := u) h3).2, (cur_set1 (v := u) h3).1⟩
theorem byte_out (g n cap i : Nat) (hh : Int) (a : Option Addr) (w : World) (hi : ¬ i < n)
  (hblk : w.heap[g]? = some (.cells #[.slice a n cap, .int .i64 i, .int .i64 hh] 77 (0, 0))) :
  Calls Tryz.prog 89 #[.pointer (some ⟨g, 0, none⟩)] w fun e w' => ∃ x hv : Int, 0 ≤ x ∧ x ≤ 255 ∧ e = .returned (.int .i64 x) ∧ w.grownBy w' (some g) ∧ w'.heap[g]? = some (.cells #[.slice a n cap, .int .i64 i, .int .i64 hv] 77 (0, 0)) := by
 obtain ⟨c0, c1, c2, f1, f2⟩ := cur_cells hblk
 have HB : Hid (w.heap[g]? = some (.cells #[.slice a n cap, .int .i64 i, .int .i64 hh] 77 (0, 0))) := hblk
 have hand := and255
 clear hblk
 go_enter Tryz.func89, Tryz.ntmps89
 go_wp2
 go_quiet (fail)
 go_wp2
 go_quiet (fail)
 go_wp2
 go_ret
 exact ⟨_, _, Int.emod_nonneg _ (by decide), Int.le_of_lt_add_one (Int.emod_lt_of_pos _ (by decide)), rfl, grownBy_drewN (grownBy_drewN (cur_set2 HB.out).2 _) _, (cur_set2 HB.out).1⟩
theorem byte_in (g n cap i b off : Nat) (hh y : Int) (w : World) (hn : n ≤ 1048576) (hi : i < n) (hbg : b ≠ g) (hy : w.cell? ⟨b, off + i, none⟩ = some (.int .u8 y)) (y0 : 0 ≤ y) (y1 : y ≤ 255)
  (hblk : w.heap[g]? = some (.cells #[.slice (some ⟨b, off, none⟩) n cap, .int .i64 i, .int .i64 hh] 77 (0, 0))) :
  Calls Tryz.prog 89 #[.pointer (some ⟨g, 0, none⟩)] w fun e w' => ∃ x hv : Int, 0 ≤ x ∧ x ≤ 255 ∧ e = .returned (.int .i64 x) ∧ w.grownBy w' (some g) ∧ w'.heap[g]? = some (.cells #[.slice (some ⟨b, off, none⟩) n cap, .int .i64 ((i + 1 : Nat) : Int), .int .i64 hv] 77 (0, 0)) := by
 obtain ⟨c0, c1, c2, f1, f2⟩ := cur_cells hblk
 have HB : Hid (w.heap[g]? = some (.cells #[.slice (some ⟨b, off, none⟩) n cap, .int .i64 i, .int .i64 hh] 77 (0, 0))) := hblk
 have hand := and255
 have hii : (i : Int) < (n : Int) := by omega
 have hyy : ∀ v, (w.setCell ⟨g, 2, none⟩ v).cell? ⟨b, off + i, none⟩ = some (.int .u8 y) := fun v => ((cur_set2 (v := v) hblk).2.cell hy (by simpa using hbg))
 clear hblk
 go_enter Tryz.func89, Tryz.ntmps89
 go_wp2
 go_quiet (fail)
 go_wp2
 go_quiet (fail)
 go_wp2
 go_quiet (fail)
 go_wp2
 go_ret
 exact ⟨_, _, Int.emod_nonneg _ (by decide), Int.le_of_lt_add_one (Int.emod_lt_of_pos _ (by decide)), rfl, (cur_set21 _ HB.out).1, (cur_set21 _ HB.out).2⟩
theorem byte_any (g n cap : Nat) (a : Option Addr) (w : World) (hc : Cur w g a n cap) :
  Calls Tryz.prog 89 #[.pointer (some ⟨g, 0, none⟩)] w fun e w' => ∃ x : Int, 0 ≤ x ∧ x ≤ 255 ∧ e = .returned (.int .i64 x) ∧ w.grownBy w' (some g) ∧ Cur w' g a n cap := by
 obtain ⟨hn, ⟨i, hh, hi, hblk⟩, hby⟩ := hc
 by_cases hlt : i < n
 ·obtain ⟨b, off, y, rfl, hbg, hy, y0, y1⟩ := hby i hlt
  refine (byte_in g n cap i b off hh y w hn hlt hbg hy y0 y1 hblk).mono ?_
  rintro e w' ⟨x, hv, x0, x1, rfl, hg, hb'⟩
  exact ⟨x, x0, x1, rfl, hg, hn, ⟨i + 1, hv, hlt, hb'⟩, hby.grown hg⟩
 ·refine (byte_out g n cap i hh a w hlt hblk).mono ?_
  rintro e w' ⟨x, hv, x0, x1, rfl, hg, hb'⟩
  exact ⟨x, x0, x1, rfl, hg, hn, ⟨i, hv, hi, hb'⟩, hby.grown hg⟩
theorem belowN_any (g n cap : Nat) (a : Option Addr) (m : Int) (w : World) (hc : Cur w g a n cap) :
  Calls Tryz.prog 47 #[.pointer (some ⟨g, 0, none⟩), .int .i64 m] w fun e w' => ∃ x : Int, 0 ≤ x ∧ (0 < m → x < m) ∧ (m ≤ 0 → x = 0) ∧ e = .returned (.int .i64 x) ∧ w.grownBy w' (some g) ∧ Cur w' g a n cap := by
 by_cases h0 : m ≤ 0
 ·go_enter Tryz.func47, Tryz.ntmps47
  go_wp2
  go_ret
  exact ⟨0, by omega, by omega, by omega, rfl, World.grownBy.refl _ _, hc⟩
 ·by_cases h1 : m ≤ 256
  ·go_enter Tryz.func47, Tryz.ntmps47
   go_wp2_with fail
   refine (byte_any g n cap a _ hc).mono ?_
   rintro e w1 ⟨x, x0, x1, rfl, hg, hc1⟩
   go_wp2
   go_ret
   exact ⟨_, Int.emod_nonneg _ (by omega), fun _ => Int.emod_lt_of_pos _ (by omega), fun h => by omega, rfl, hg, hc1⟩
  ·go_enter Tryz.func47, Tryz.ntmps47
   go_wp2_with fail
   refine (byte_any g n cap a _ hc).mono ?_
   rintro e w1 ⟨x, x0, x1, rfl, hg1, hc1⟩
   go_wp2_with fail
   refine (byte_any g n cap a _ hc1).mono ?_
   rintro e w2 ⟨y, y0, y1, rfl, hg2, hc2⟩
   go_wp2_with fail
   refine (byte_any g n cap a _ hc2).mono ?_
   rintro e w3 ⟨z, z0, z1, rfl, hg3, hc3⟩
   go_wp2_with fail
   refine (byte_any g n cap a _ hc3).mono ?_
   rintro e w4 ⟨u, u0, u1, rfl, hg4, hc4⟩
   go_wp2
   go_ret
   exact ⟨_, Int.emod_nonneg _ (by omega), fun _ => Int.emod_lt_of_pos _ (by omega), fun h => by omega, rfl, grownBy_trans (grownBy_trans (grownBy_trans hg1 hg2) hg3) hg4, hc4⟩
theorem once_any (g n cap : Nat) (a : Option Addr) (m : Int) (w : World) (hc : Cur w g a n cap) :
  Calls Tryz.prog 65 #[.pointer (some ⟨g, 0, none⟩), .int .i64 m] w fun e w' => ∃ x : Bool, e = .returned (.bool x) ∧ w.grownBy w' (some g) ∧ Cur w' g a n cap := by
 go_enter Tryz.func65, Tryz.ntmps65
 go_wp2_with fail
 refine (belowN_any g n cap a _ _ hc).mono ?_
 rintro e w1 ⟨x, _, _, _, rfl, hg, hc1⟩
 go_wp2
 go_ret
 exact ⟨_, rfl, hg, hc1⟩
theorem pick_any (g n cap : Nat) (a : Option Addr) (lb off m lc : Nat) (w : World) (hc : Cur w g a n cap) (hm : 0 < m) (hm2 : m ≤ 256) (hl : lb ≠ g)
  (hcell : ∀ i, i < m → ∃ z, w.cell? ⟨lb, off + i, none⟩ = some (.int .i64 z)) :
  Calls Tryz.prog 66 #[.pointer (some ⟨g, 0, none⟩), .slice (some ⟨lb, off, none⟩) m lc] w fun e w' => ∃ x : Int, e = .returned (.int .i64 x) ∧ w.grownBy w' (some g) ∧ Cur w' g a n cap := by
 go_enter Tryz.func66, Tryz.ntmps66
 go_wp2_with fail
 refine (belowN_any g n cap a _ _ hc).mono ?_
 rintro e w1 ⟨x, x0, x1, _, rfl, hg, hc1⟩
 have x2 := x1 (by omega)
 obtain ⟨k, rfl⟩ := Int.eq_ofNat_of_zero_le x0
 obtain ⟨z, hz⟩ := hcell k (by omega)
 have hz1 := hg.cell hz (by simpa using hl)
 clear hcell hz x1
 go_wp2
 go_ret
 exact ⟨_, rfl, hg, hc1⟩
theorem lit_cells {w : World} {cs : List Int} {ty : TypeId} : ∀ i, i < cs.length → ∃ z, (w.alloc (.cells (cs.map (Value.int .i64)).toArray ty)).cell? ⟨w.heap.size, 0 + i, none⟩ = some (.int .i64 z) := by
 intro i hi
 rw [Nat.zero_add, cell_of_row _ _ _ _ ty _ (heap_alloc_new w _)]
 exact ⟨cs[i], by simp [hi]⟩
theorem Cur.lt {w : World} {g n cap : Nat} {a : Option Addr} (h : Cur w g a n cap) : g < w.heap.size := by
 obtain ⟨_, ⟨i, hh, _, hblk⟩, _⟩ := h
 exact (Array.getElem?_eq_some_iff.1 hblk).1
theorem Cur.alloc {w : World} {g n cap : Nat} {a : Option Addr} (h : Cur w g a n cap) (o : Obj) : Cur (w.alloc o) g a n cap :=
 h.kept (World.grownBy_alloc w o none) (by simp) (by simp)
theorem elem_any (g n cap : Nat) (a : Option Addr) (w : World) (hc : Cur w g a n cap) :
  Calls Tryz.prog 45 #[.pointer (some ⟨g, 0, none⟩)] w fun e w' => ∃ x : Int, e = .returned (.int .i64 x) ∧ w.grownBy w' (some g) ∧ Cur w' g a n cap := by
 go_enter Tryz.func45, Tryz.ntmps45
 go_wp2_with fail
 refine (once_any g n cap a _ _ hc).mono ?_
 rintro e w1 ⟨x, rfl, hg1, hc1⟩
 cases x
 ·go_wp2_with fail
  refine (belowN_any g n cap a _ _ hc1).mono ?_
  rintro e w2 ⟨x, _, _, _, rfl, hg2, hc2⟩
  go_wp2
  go_ret
  exact ⟨_, rfl, grownBy_trans hg1 hg2, hc2⟩
 ·have hlt := hc1.lt
  go_wp2_with fail
  refine (pick_any g n cap a w1.heap.size 0 7 7 _ (hc1.alloc _) (by omega) (by omega) (by omega) (lit_cells (cs := [-1, 256, 0, 1, 255, 2, 9223372036854775807]))).mono ?_
  rintro e w2 ⟨x, rfl, hg2, hc2⟩
  go_wp2
  go_ret
  exact ⟨_, rfl, grownBy_trans hg1 (grownBy_trans (World.grownBy_alloc w1 _ _) hg2), hc2⟩
set_option maxRecDepth 100000 in
theorem new_any (a : Option Addr) (n cap : Nat) (w : World) (hn : n ≤ 1048576) (hby : ∀ g, w.heap.size ≤ g → BytesAt w a n g) :
  Calls Tryz.prog 27 #[.slice a n cap] w fun e w' => ∃ g, e = .returned (.pointer (some ⟨g, 0, none⟩)) ∧ w.heap.size ≤ g ∧ Below w.heap.size w w' ∧ Cur w' g a n cap := by
 go_enter Tryz.func27, Tryz.ntmps27
 go_wp2
 go_loopw [3, 4] (fun h i wr => ∃ (k : Nat) (hh : Int), k ≤ n ∧ h = .int .i64 hh ∧ i = .int .i64 k ∧ wr = w) (fun _ i _ => n - (intOf i).toNat)
 case atStart => exact ⟨0, _, Nat.zero_le _, rfl, rfl, rfl⟩
 case round =>
  obtain ⟨k, hh, hk, rfl, rfl, rfl⟩ := hrel
  by_cases hlt : k < n ∧ k < 4000
  ·obtain ⟨b, off, x, rfl, hbg, hc, x0, x1⟩ := hby _ (Nat.le_refl _) k hlt.1
   have h1 : (k : Int) < (n : Int) := by omega
   have h2 : (k : Int) < 4000 := by omega
   clear hby
   go_wp2
   go_roundw
   case rel => exact ⟨k + 1, _, by omega, rfl, by go_num, trivial⟩
   case measure => simp [intOf]; omega
  ·have fin : ∀ hv : Int, Below wr.heap.size wr (wr.alloc (.cells #[.slice a n cap, .int .i64 0, .int .i64 hv] 77)) ∧ Cur (wr.alloc (.cells #[.slice a n cap, .int .i64 0, .int .i64 hv] 77)) wr.heap.size a n cap := fun hv =>
    ⟨(Below.refl _ _).alloc (Nat.le_refl _) _, hn, ⟨0, hv, Nat.zero_le _, heap_alloc_new wr _⟩, (hby _ (Nat.le_refl _)).grown (World.grownBy_alloc wr _ _)⟩
   have F : Hid (∀ hv : Int, Below wr.heap.size wr (wr.alloc (.cells #[.slice a n cap, .int .i64 0, .int .i64 hv] 77)) ∧ Cur (wr.alloc (.cells #[.slice a n cap, .int .i64 0, .int .i64 hv] 77)) wr.heap.size a n cap) := fin
   clear fin hby
   by_cases h1 : k < n
   ·have h1' : (k : Int) < (n : Int) := by omega
    have h2 : ¬ (k : Int) < 4000 := by omega
    go_wp2
    go_ret
    exact ⟨_, rfl, Nat.le_refl _, (F.out hh).1, (F.out hh).2⟩
   ·go_wp2
    go_ret
    exact ⟨_, rfl, Nat.le_refl _, (F.out hh).1, (F.out hh).2⟩
def CodeAt (w : World) (a : Option Addr) (n : Nat) : Prop :=
 n ≤ 1048576 ∧ ∀ j, j < n → ∃ b off x, a = some ⟨b, off, none⟩ ∧ w.cell? ⟨b, off + j, none⟩ = some (.int .u8 x) ∧ 0 ≤ x ∧ x ≤ 255
theorem CodeAt.below {w w' : World} {a : Option Addr} {n : Nat} (h : CodeAt w a n) (hb : Below w.heap.size w w') : CodeAt w' a n :=
 ⟨h.1, fun j hj => by
  obtain ⟨b, off, x, e, hc, hx⟩ := h.2 j hj
  exact ⟨b, off, x, e, (hb.cell (p := ⟨b, off + j, none⟩) (block_lt_of_cell hc)).trans hc, hx⟩⟩
theorem CodeAt.bytes {w : World} {a : Option Addr} {n : Nat} (h : CodeAt w a n) (g : Nat) (hg : w.heap.size ≤ g) : BytesAt w a n g := by
 intro j hj
 obtain ⟨b, off, x, e, hc, hx⟩ := h.2 j hj
 have := block_lt_of_cell hc
 exact ⟨b, off, x, e, by simp at this; omega, hc, hx⟩
theorem IsRow.code {w : World} {a : Option Addr} {len cap : Nat} {zs : List Int} (h : IsRow .u8 w a len cap zs) (hn : len ≤ 1048576) : CodeAt w a len := by
 refine ⟨hn, ?_⟩
 rcases h with ⟨rfl, rfl, rfl, rfl⟩ | ⟨x, rfl, hl, hm, hz, hcell, hwz⟩
 ·intro j hj; omega
 ·intro i hi
  obtain ⟨b, off, spot⟩ := x
  have hc := hcell i (by omega)
  have hspot : spot = none := by simpa [Addr.add] using World.cell?_spot (hcell 0 (by omega))
  subst hspot
  have ea : (⟨b, off, none⟩ : Addr).add i = ⟨b, off + i, none⟩ := by unfold Addr.add; split <;> simp_all
  rw [ea] at hc
  have hmem : zs.getD i 0 ∈ zs := by
   have hi2 : i < zs.length := by omega
   simp [hi2]
  have hb := bounds_u8 (hwz _ hmem)
  exact ⟨b, off, _, rfl, hc, by omega, by omega⟩
def Under (a : Option Addr) (n g : Nat) : Prop := 0 < n → ∀ b off, a = some ⟨b, off, none⟩ → b < g
theorem CodeAt.under {w : World} {a : Option Addr} {n g : Nat} (h : CodeAt w a n) (hg : w.heap.size ≤ g) : Under a n g := by
 intro hn b off e
 obtain ⟨b', off', x, e', hc, _⟩ := h.2 0 hn
 rw [e] at e'
 simp at e'
 have := block_lt_of_cell hc
 simp at this
 omega
theorem Cur.far {w w' : World} {g n cap r : Nat} {a : Option Addr} (h : Cur w g a n cap) (hg : w.grownBy w' (some r)) (hr : g < r) (hab : Under a n g) : Cur w' g a n cap := by
 obtain ⟨hn, ⟨i, hh, hi, hblk⟩, hby⟩ := h
 refine ⟨hn, ⟨i, hh, hi, ?_⟩, ?_⟩
 ·rw [hg.block g (Array.getElem?_eq_some_iff.1 hblk).1 (by simp; omega)]; exact hblk
 ·intro j hj
  obtain ⟨b, off, x, e, hbg, hc, hx⟩ := hby j hj
  have := hab (by omega) b off e
  exact ⟨b, off, x, e, hbg, hg.cell hc (by simp; omega), hx⟩
theorem grown_new {w0 w w' : World} {g r : Nat} (h : w0.grownBy w (some g)) (k : w.grownBy w' (some r)) (hr : w0.heap.size ≤ r) : w0.grownBy w' (some g) :=
 ⟨k.os.trans h.os, k.tape.trans h.tape, k.output.trans h.output, Nat.le_trans h.size k.size, fun j hj hn => (k.block j (Nat.lt_of_lt_of_le hj h.size) (by simp; omega)).trans (h.block j hj hn)⟩
theorem bytes_any (g n cap : Nat) (a : Option Addr) (m : Nat) (w : World) (hc : Cur w g a n cap) (hab : Under a n g) (hm : m ≤ 4000) :
  Calls Tryz.prog 46 #[.pointer (some ⟨g, 0, none⟩), .int .i64 (m : Int)] w fun e w' => ∃ s : ByteArray, s.size = m ∧ e = .returned (.string s) ∧ w.grownBy w' (some g) ∧ Cur w' g a n cap := by
 obtain ⟨i0, hi, hz0, hz1, hz2⟩ := info_parts Tryz.infoByte
 have hgl := hc.lt
 go_enter Tryz.func46, Tryz.ntmps46
 go_wp2
 have ho1 : (w.alloc (.cells #[] 5)).ownsRow w.heap.size 5 1 (.slice (some ⟨w.heap.size, 0, none⟩) 0 0) 0 (([] : List Int).map (Value.int .u8)) :=
  World.ownsRow_lit w #[] 0 (Nat.le_refl _) (by unfold maxLen; omega) rfl
 go_loopw [5, 6] (fun v i wr => ∃ (k gg cap2 : Nat) (xs : List Int), k ≤ m ∧ i = .int .i64 k ∧ v = .slice (some ⟨gg, 0, none⟩) k cap2 ∧ w.heap.size ≤ gg ∧ wr.ownsRow w.heap.size 5 1 (.slice (some ⟨gg, 0, none⟩) k cap2) k (xs.map (Value.int .u8)) ∧ w.grownBy wr (some g) ∧ Cur wr g a n cap) (fun _ i _ => m - (intOf i).toNat)
 case atStart => exact ⟨0, _, _, [], Nat.zero_le _, rfl, rfl, Nat.le_refl _, ho1, World.grownBy_alloc _ _ _, hc.alloc _⟩
 case round =>
  obtain ⟨k, gg, cap2, xs, hk, rfl, rfl, hgg, hown, hgr, hcr⟩ := hrel
  clear ho1 hc
  by_cases hlt : k < m
  ·have hlti : (k : Int) < (m : Int) := by omega
   go_wp2_with fail
   refine (belowN_any g n cap a _ _ hcr).mono ?_
   rintro e w1 ⟨x, x0, x1, _, rfl, hg1, hc1⟩
   have x2 := x1 (by omega)
   have hown1 := hown.kept hg1 (.inr (by simp [Value.ownBlock]; omega))
   have hs1 : w.heap.size ≤ w1.heap.size := Nat.le_trans hgr.size hg1.size
   clear hown hcr x1
   go_wp2_with (at_builtin; refine wpList_append_lies _ (by rfl) _ _ 22 (by rfl) w.heap.size 5 i0 (.int .u8 0) 1 1 Tryz.underlying22 hi hz0 hz1 hz2 rfl (by decide) (.slice (some ⟨gg, 0, none⟩) k cap2) k _ (by rfl) (hown1.alloc _) ⟨w1.heap.size, 0, none⟩ 1 1 [.int .u8 x] (by rfl) (by rfl) (World.news_of_block (cs := #[.int .u8 x]) (t := 5) (fr := (0, 0)) (heap_alloc_new w1 _)) (by simp [Value.oneCell']) (by omega) (by unfold maxLen; omega) (by omega) (by simp; omega) (w1.heap.size + 1) (by simp) ?_; intro g2 cap3 w2 hown2 hgrow hat hltg)
   have hgrow' : (w1.alloc (.cells #[.int .u8 x] 5)).grownBy w2 (some gg) := hgrow
   go_roundw
   case rel => exact ⟨k + 1, g2, cap3, xs ++ [x], by omega, by go_num, rfl, (hown2.lt g2 rfl).1, by rw [List.map_append]; exact hown2, grown_new (grownBy_trans (grownBy_trans hgr hg1) (World.grownBy_alloc w1 _ _)) hgrow' hgg, (hc1.alloc _).far hgrow' (by omega) hab⟩
   case measure => simp [intOf]; omega
  ·have e : k = m := by omega
   subst e
   have hl : xs.length = k := by simpa using hown.1
   have HL : Hid (xs.length = k) := hl
   clear hl
   have hcv := run_convert_bytes_arg (P := Tryz.prog) wr 22 5 Tryz.underlying22 Tryz.underlying5 gg 0 k cap2 xs HL.out (fun i hi => by
    rw [Nat.zero_add, hown.cellAt i (by omega)]
    simp [HL.out, hi]) 9 Tryz.underlying9
   go_wp2
   go_ret
   exact ⟨_, by rw [strOfNums_size]; exact HL.out, rfl, hgr, hcr⟩
theorem big_any (a : Option Addr) (n cap : Nat) (w : World) : Calls Tryz.prog 6 #[.slice a n cap] w fun e w' => e = .returned (.bool (decide (1048576 < (n : Int)))) ∧ w' = w := by
 go_enter Tryz.func6, Tryz.ntmps6
 go_wp2
 go_ret
 exact ⟨rfl, rfl⟩
theorem data04_any (g n cap : Nat) (a : Option Addr) (w : World) (hc : Cur w g a n cap) (hab : Under a n g) :
  Calls Tryz.prog 29 #[.pointer (some ⟨g, 0, none⟩)] w fun e w' => ∃ s : ByteArray, s.size ≤ 2001 ∧ e = .returned (.string s) ∧ w.grownBy w' (some g) ∧ Cur w' g a n cap := by
 go_enter Tryz.func29, Tryz.ntmps29
 go_wp2_with fail
 refine (once_any g n cap a _ _ hc).mono ?_
 rintro e w1 ⟨b, rfl, hg1, hc1⟩
 cases b with
 | true =>
  go_wp2_with fail
  refine (belowN_any g n cap a _ _ hc1).mono ?_
  rintro e w2 ⟨x, x0, x1, _, rfl, hg2, hc2⟩
  have x2 := x1 (by omega)
  obtain ⟨X, rfl⟩ := Int.eq_ofNat_of_zero_le x0
  have hg12 := grownBy_trans hg1 hg2
  have e1 : IntKind.i64.wrap (2000 + (X : Int)) = ((2000 + X : Nat) : Int) := by rw [IntKind.wrap_i64]; omega
  have hX : 2000 + X ≤ 4000 := by omega
  have HX : Hid (X < 2) := by show X < 2; omega
  have KB : Hid _ := bytes_any g n cap a (2000 + X) w2 hc2 hab hX
  clear x0 x1 x2 hX hg1 hg2
  go_wp2_with fail
  refine Calls.mono KB.out ?_
  rintro e w3 ⟨s, hs, rfl, hg3, hc3⟩
  have hg13 := grownBy_trans hg12 hg3
  have HS : Hid (s.size ≤ 2001) := by have := HX.out; show s.size ≤ 2001; omega
  clear hs
  go_wp2
  go_ret
  exact ⟨s, HS.out, rfl, hg13, hc3⟩
 | false =>
  go_wp2_with fail
  refine (belowN_any g n cap a _ _ hc1).mono ?_
  rintro e w2 ⟨x, x0, x1, _, rfl, hg2, hc2⟩
  have x2 := x1 (by omega)
  obtain ⟨X, rfl⟩ := Int.eq_ofNat_of_zero_le x0
  have hg12 := grownBy_trans hg1 hg2
  have HX : Hid (X < 30) := by show X < 30; omega
  have KB : Hid _ := bytes_any g n cap a X w2 hc2 hab (by omega)
  clear x0 x1 x2 hg1 hg2
  go_wp2_with fail
  refine Calls.mono KB.out ?_
  rintro e w3 ⟨s, hs, rfl, hg3, hc3⟩
  have hg13 := grownBy_trans hg12 hg3
  have HS : Hid (s.size ≤ 2001) := by have := HX.out; show s.size ≤ 2001; omega
  clear hs
  go_wp2
  go_ret
  exact ⟨s, HS.out, rfl, hg13, hc3⟩
end Go.Proofs.YtihklfkhjpnjkaaGreatDoor
