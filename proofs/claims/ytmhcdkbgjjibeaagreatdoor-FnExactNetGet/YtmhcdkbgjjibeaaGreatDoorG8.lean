import Derived.Test.YtmhcdkbgjjibeaaGreatDoorG5
import Derived.Deep.RegionHeld3
import Derived.Deep.AppendLies
import Derived.Test.YtmhcdkbgjjibeaaGreatDoorG1
import Derived.Test.YtmhcdkbgjjibeaaGreatDoorRows
import Derived.Deep.Strs
set_option maxHeartbeats 8000000
set_option maxRecDepth 2000
open Go.ChangeShapes Go.WideShapes Go.ChangeAt Go.RowKit
namespace Go.Proofs.YtmhcdkbgjjibeaaGreatDoor
open Gs (U)
def lby (x : BitVec 64) (i : Nat) : Nat := x.toNat / 2 ^ (8 * (7 - i)) % 256
def lx (x : BitVec 64) : List Int := (List.range 8).map fun i => ((lby x i : Nat) : Int)
theorem lx_len (x : BitVec 64) : (lx x).length = 8 := by simp [lx]
theorem lx_at (x : BitVec 64) (k : Nat) (h : k < 8) : (lx x).getD k 0 = ((lby x k : Nat) : Int) := by
 simp [lx, List.getD, h]
theorem shr_by (x : BitVec 64) (j : Nat) : IntKind.u8.wrap (U x / 2 ^ j) = ((x.toNat / 2 ^ j % 256 : Nat) : Int) := by
 unfold U
 rw [IntKind.wrap_u8]
 rw [show ((x.toNat : Int) / 2 ^ j) = ((x.toNat / 2 ^ j : Nat) : Int) by simp]
 omega
theorem longText_any (x : BitVec 64) (w : World) :
  Calls Tryz.prog 187 #[.int .u64 (U x)] w fun e w' => e = .returned (.string (strOfNums (lx x))) ∧ Below w.heap.size w w' := by
 obtain ⟨i0, hi, hz0, hz1, hz2⟩ := info_parts Tryz.infoByte
 obtain ⟨xs, HX⟩ : ∃ xs, Hid (xs = lx x) := ⟨_, rfl⟩
 have HL : Hid (xs.length = 8) := by show _ = _; rw [HX.out, lx_len]
 go_enter Tryz.func187, Tryz.ntmps187
 go_wp2_with (at_make; refine wpList_make_full _ rfl _ _ 129 rfl w.heap.size 5 i0 (.int .u8 0) 1 Tryz.underlying129 hi hz0 hz1 .i64 .i64 _ _ 8 rfl rfl rfl rfl (by rw [hz2]; omega) (by unfold maxLen; omega) (Nat.le_refl _) ?_; intro w1 hown hgrow)
 have hb1 : Below w.heap.size w w1 := (Below.refl _ _).grown hgrow (Nat.le_refl _) (by simp)
 have ho1 : w1.ownsRow w.heap.size 5 1 (.slice (some ⟨w.heap.size, 0, none⟩) 8 8) 8 ((xs.take 0 ++ List.replicate (8 - 0) 0).map (Value.int .u8)) := by
  simpa [Value.cells, toList_madeCells_one] using hown
 clear hown hgrow
 go_loopw [8] (fun i wr => ∃ k : Nat, k ≤ 8 ∧ i = .int .i64 k ∧ wr.ownsRow w.heap.size 5 1 (.slice (some ⟨w.heap.size, 0, none⟩) 8 8) 8 ((xs.take k ++ List.replicate (8 - k) 0).map (Value.int .u8)) ∧ Below w.heap.size w wr) (fun i _ => 8 - (intOf i).toNat)
 case atStart => exact ⟨0, Nat.zero_le _, rfl, ho1, hb1⟩
 case round =>
  obtain ⟨k, hk, rfl, hown, hbel⟩ := hrel
  clear ho1 hb1
  by_cases hlt : k < 8
  ·have HE : Hid (xs.getD k 0 = ((lby x k : Nat) : Int)) := by show _ = _; rw [HX.out, lx_at x k hlt]
   obtain ⟨old, hold⟩ : ∃ v, wr.cell? ⟨w.heap.size, k, none⟩ = some v := by
    rw [hown.cellAt k (by omega)]
    exact ⟨_, List.getElem?_eq_getElem (by rw [hown.1]; omega)⟩
   have hfr := hown.frozenAt k
   have hst := hown.stored k (.int .u8 (xs.getD k 0))
   rw [copied_set .u8 xs 8 k HL.out hlt, HE.out] at hst
   have hne : Below w.heap.size w (wr.setCell ⟨w.heap.size, k, none⟩ (.int .u8 ((lby x k : Nat) : Int))) := hbel.setCell (Nat.le_refl _) _
   have HO : Hid _ := hst.1
   clear hst hown
   have h7 : 8 * (7 - (k : Int)) = ((8 * (7 - k) : Nat) : Int) := by omega
   have hby : IntKind.u8.wrap (U x / 2 ^ (8 * (7 - k))) = ((lby x k : Nat) : Int) := shr_by x _
   generalize lby x k = y at hby HO hne
   go_wp2
   exact ⟨⟨k + 1, by omega, by go_num, HO.out, hne⟩, by simp [intOf]; omega⟩
  ·have e : k = 8 := by omega
   subst e
   have e2 : xs.take 8 ++ List.replicate (8 - 8) 0 = xs := by rw [List.take_of_length_le (by rw [HL.out]; omega)]; simp
   rw [e2] at hown
   have hcv := run_convert_bytes_arg (P := Tryz.prog) wr 129 5 Tryz.underlying129 Tryz.underlying5 w.heap.size 0 8 8 xs HL.out (fun i hi => by
    rw [Nat.zero_add, hown.cellAt i (by omega)]
    simp [HL.out, hi]) 9 Tryz.underlying9
   go_wp2
   go_ret
   exact ⟨ret_str (by rw [HX.out]), hbel⟩
theorem sLongText_any (x : BitVec 64) (w : World) :
  Calls Tryz.prog 182 #[.int .u64 (U x)] w fun e w' => e = .returned (.string (strOfNums (lx x))) ∧ Below w.heap.size w w' := by
 obtain ⟨i0, hi, hz0, hz1, hz2⟩ := info_parts Tryz.infoByte
 obtain ⟨xs, HX⟩ : ∃ xs, Hid (xs = lx x) := ⟨_, rfl⟩
 have HL : Hid (xs.length = 8) := by show _ = _; rw [HX.out, lx_len]
 go_enter Tryz.func182, Tryz.ntmps182
 go_wp2
 have ho1 : (w.alloc (.cells #[] 5)).ownsRow w.heap.size 5 1 (.slice (some ⟨w.heap.size, 0, none⟩) 0 0) 0 ((xs.take 0).map (Value.int .u8)) :=
  World.ownsRow_lit w #[] 0 (Nat.le_refl _) (by unfold maxLen; omega) rfl
 go_loopw [3, 4] (fun v i wr => ∃ k : Nat, k ≤ 8 ∧ i = .int .i64 (56 - 8 * (k : Int)) ∧ wr.ownsRow w.heap.size 5 1 v k ((xs.take k).map (Value.int .u8)) ∧ Hid (v ≠ .slice none 0 0) ∧ Below w.heap.size w wr) (fun _ i _ => (intOf i + 8).toNat)
 case atStart => exact ⟨0, Nat.zero_le _, rfl, ho1, by simp [Hid], (Below.refl _ _).alloc (Nat.le_refl _) _⟩
 case round =>
  obtain ⟨k, hk, rfl, hown, HV, hbel⟩ := hrel
  clear ho1
  by_cases hlt : k < 8
  ·have h7 : (56 : Int) - 8 * (k : Int) = ((8 * (7 - k) : Nat) : Int) := by omega
   have hby : IntKind.u8.wrap (U x / 2 ^ (8 * (7 - k))) = ((lby x k : Nat) : Int) := shr_by x _
   have HE : Hid (xs.take (k + 1) = xs.take k ++ [((lby x k : Nat) : Int)]) := by
    show _ = _
    rw [take_snoc xs k (by rw [HL.out]; exact hlt), HX.out, lx_at x k hlt]
   have HN : Hid ((56 : Int) - 8 * ((k + 1 : Nat) : Int) = ((8 * (7 - k) : Nat) : Int) - 8) := by show _ = _; omega
   generalize lby x k = y at hby HE
   obtain ⟨j, hj⟩ : ∃ j, 8 * (7 - k) = j := ⟨_, rfl⟩
   have hj64 : j ≤ 56 := by omega
   rw [h7]
   rw [hj] at hby HN ⊢
   clear h7 hj
   go_wp2_with (at_builtin; refine wpList_append_own _ rfl _ _ 129 rfl w.heap.size 5 i0 (.int .u8 0) 1 1 Tryz.underlying129 hi hz0 hz1 hz2 rfl (by decide) _ _ _ rfl (hown.alloc _) ⟨wr.heap.size, 0, none⟩ 1 1 [.int .u8 (y : Int)] rfl rfl ?c1 ?c2 ?c3 ?c4 ?c5 ?_)
   case c1 =>
    intro j' u hj'
    match j', hj' with
    | 0, hj' => simp at hj'; subst hj'; simp [Addr.add]
   case c2 => intro u hu; simp at hu; subst hu; rfl
   case c3 => unfold maxLen; omega
   case c4 => omega
   case c5 => have := hbel.size; simp; omega
   ·intro v' w1 hown' hgrow hnil
    have HV' : Hid (v' ≠ .slice none 0 0) := hnil
    have HO : Hid (w1.ownsRow w.heap.size 5 1 v' (k + 1) ((xs.take (k + 1)).map (Value.int .u8))) := by
     rw [HE.out, List.map_append, List.map_take]
     exact hown'
    have hb' : Below w.heap.size w w1 := (hbel.alloc hbel.size _).grown hgrow (by have := hbel.size; simp; omega) (fun j hj => (hown.lt j hj).1)
    clear hown' hgrow hnil hown
    go_wp2
    go_roundw
    case rel => exact ⟨k + 1, by omega, by rw [HN.out], HO.out, HV'.out, hb'⟩
    case measure => simp [intOf] <;> omega
  ·have e : k = 8 := by omega
   subst e
   rw [List.take_of_length_le (by rw [HL.out]; omega)] at hown
   obtain ⟨g, cap, rfl⟩ : ∃ g cap, u3 = .slice (some ⟨g, 0, none⟩) 8 cap := by
    rcases hown.2 with h | ⟨g, cap, cur, h, _⟩
    ·exact absurd h.1 HV.out
    ·exact ⟨g, cap, h⟩
   have hcv := run_convert_bytes_arg (P := Tryz.prog) wr 129 5 Tryz.underlying129 Tryz.underlying5 g 0 8 cap xs HL.out (fun i hi => by
    rw [Nat.zero_add, hown.cellAt i (by omega)]
    simp [HL.out, hi]) 9 Tryz.underlying9
   go_wp2
   go_ret
   exact ⟨ret_str (by rw [HX.out]), hbel⟩
end Go.Proofs.YtmhcdkbgjjibeaaGreatDoor
namespace Go.Proofs.YtmhcdkbgjjibeaaGreatDoor
abbrev pcC (r : ByteArray) (k n i : Int) (b : ByteArray) (v : Value) : Array Value := #[.string r, .int .i64 k, .int .i64 n, .int .i64 i, .string b, v]
abbrev pcV (r : ByteArray) (k n i : Int) (b : ByteArray) (v : Value) : Value := .agg (pcC r k n i b v)
theorem Tryz.infoPc : (Tryz.prog.info? 49).map (·.size) = some 6 := by kernel_rfl
theorem OwnT.setFar {w : World} {B g o : Nat} {a : Option Addr} {n c : Nat} {S : Nat → ByteArray} {v : Value} (h : OwnT w B a n c S) (hB : g < B) : OwnT (w.setCell ⟨g, o, none⟩ v) B a n c S :=
 own_kept h (grown_set _ _ _ _) (fun x e => by subst e; have := (World.ownsRow.lt h x.block rfl).1; omega)
def IsTxt (w : World) (a : Option Addr) (n : Nat) (S : Nat → ByteArray) : Prop := TxtAt w a n S ∧ n ≤ maxLen ∧ ∀ i, i < n → (S i).size ≤ maxLen
theorem isTxt_of {w : World} {a : Addr} {len cap m : Nat} {S : Nat → ByteArray} (hl : len ≤ cap) (hm : cap ≤ maxLen) (hlm : len ≤ m) (h : ∀ i, i < m → w.cell? (a.add i) = some (.string (S i)) ∧ (S i).size ≤ maxLen) : IsTxt w (some a) len S := by
 refine ⟨fun i hi => ?_, Nat.le_trans hl hm, fun i hi => (h i (by omega)).2⟩
 have h1 := (h i (by omega)).1
 obtain ⟨b, off, spot⟩ := a
 have hspot : spot = none := by
  have h0 := (h 0 (by omega)).1
  simpa [Addr.add] using World.cell?_spot h0
 subst hspot
 have ea : ∀ (b off i : Nat), (⟨b, off, none⟩ : Addr).add i = ⟨b, off + i, none⟩ := fun b off i => by unfold Addr.add; split <;> simp_all
 rw [ea] at h1
 exact ⟨b, off, rfl, h1⟩
def szPc (r b : ByteArray) (m : Nat) (S : Nat → ByteArray) (l : Nat) : Int := if r.size + b.size ≤ l then szF (fun i => (S i).size) m (l - r.size - b.size) else -1
theorem szPc_yes {r b : ByteArray} {m : Nat} {S : Nat → ByteArray} {l : Nat} (h : r.size + b.size + (m + tot (fun i => (S i).size) m) ≤ l) : szPc r b m S l = ((l - (r.size + b.size + (m + tot (fun i => (S i).size) m)) : Nat) : Int) := by
 unfold szPc szF
 rw [if_pos (by omega), if_pos (by omega)]
 omega
theorem szPc_no {r b : ByteArray} {m : Nat} {S : Nat → ByteArray} {l : Nat} (h : ¬ r.size + b.size + (m + tot (fun i => (S i).size) m) ≤ l) : szPc r b m S l = -1 := by
 unfold szPc szF
 by_cases h1 : r.size + b.size ≤ l
 ·rw [if_pos h1, if_neg (by omega)]
 ·rw [if_neg h1]
theorem szPc_any (r : ByteArray) (k n i : Int) (b : ByteArray) (a : Option Addr) (m cap : Nat) (S : Nat → ByteArray) (l : Nat) (w : World) (h : TxtAt w a m S) (hl : l ≤ 1048576) (hm : m ≤ maxLen) (hL : ∀ i, i < m → (S i).size ≤ maxLen) (hr : r.size ≤ maxLen) (hb : b.size ≤ maxLen) :
  Calls Tryz.prog 15 #[pcV r k n i b (.slice a m cap), .int .i64 (l : Int)] w fun e w' => e = .returned (.int .i64 (szPc r b m S l)) ∧ Below w.heap.size w w' := by
 obtain ⟨w0, HW0⟩ : ∃ x, Hid (x = w.alloc (.cells (pcC r k n i b (.slice a m cap)) 48)) := ⟨_, rfl⟩
 have hb0 : Below w.heap.size w w0 := by rw [HW0.out]; exact (Below.refl _ _).alloc (Nat.le_refl _) _
 have HB0 : Hid (Below w.heap.size w w0) := hb0
 have KT : Hid (TxtAt w0 a m S) := h.below hb0
 obtain ⟨x, hx⟩ : ∃ x, r.size = x := ⟨_, rfl⟩
 obtain ⟨y, hy⟩ : ∃ x, b.size = x := ⟨_, rfl⟩
 unfold szPc
 rw [hx, hy]
 unfold maxLen at hr hb
 clear h hb0
 by_cases h1 : l < x
 ·have h1' : (l : Int) - (x : Int) < 0 := by omega
  have e1 : IntKind.i64.wrap ((l : Int) - (x : Int)) = (l : Int) - (x : Int) := by rw [IntKind.wrap_i64]; omega
  rw [if_neg (by omega)]
  clear hL
  go_enter Tryz.func15, Tryz.ntmps15
  go_wp2
  go_ret
  exact ⟨rfl, by rw [← HW0.out]; exact HB0.out⟩
 obtain ⟨l1, hl1⟩ : ∃ l1, l = x + l1 := ⟨l - x, by omega⟩
 have e1 : IntKind.i64.wrap ((l : Int) - (x : Int)) = (l1 : Int) := by rw [IntKind.wrap_i64]; omega
 have p1 : ¬ ((l1 : Int) < 0) := by omega
 by_cases h2 : l1 < y
 ·have h2' : (l1 : Int) - (y : Int) < 0 := by omega
  have e2 : IntKind.i64.wrap ((l1 : Int) - (y : Int)) = (l1 : Int) - (y : Int) := by rw [IntKind.wrap_i64]; omega
  rw [if_neg (by omega)]
  clear hL hl1
  go_enter Tryz.func15, Tryz.ntmps15
  go_wp2
  go_ret
  exact ⟨rfl, by rw [← HW0.out]; exact HB0.out⟩
 obtain ⟨l2, hl2⟩ : ∃ l2, l1 = y + l2 := ⟨l1 - y, by omega⟩
 have e2 : IntKind.i64.wrap ((l1 : Int) - (y : Int)) = (l2 : Int) := by rw [IntKind.wrap_i64]; omega
 have p2 : ¬ ((l2 : Int) < 0) := by omega
 rw [if_pos (by omega), show l - x - y = l2 by omega]
 have KZ : Hid (Calls Tryz.prog 33 #[.slice a m cap, .int .i64 (l2 : Int)] w0 fun e w' => e = .returned (.int .i64 (szF (fun i => (S i).size) m l2)) ∧ w' = w0) := szT_any a m cap S l2 w0 KT.out (by omega) hm hL
 clear hL hl1 hl2
 by_cases h3 : m + tot (fun i => (S i).size) m ≤ l2
 ·obtain ⟨z, hz⟩ : ∃ z : Nat, szF (fun i => (S i).size) m l2 = (z : Int) := ⟨l2 - (m + tot (fun i => (S i).size) m), by unfold szF; rw [if_pos h3]⟩
  rw [hz] at KZ ⊢
  have p3 : ¬ ((z : Int) < 0) := by omega
  clear hz h3
  go_enter Tryz.func15, Tryz.ntmps15
  go_wp2_with fail
  rw [← HW0.out]
  refine Calls.mono KZ.out ?_
  rintro e w' ⟨rfl, hw⟩
  obtain rfl := hw.symm
  clear hw
  go_wp2
  go_ret
  exact ⟨rfl, HB0.out⟩
 ·have hz : szF (fun i => (S i).size) m l2 = -1 := by unfold szF; rw [if_neg h3]
  rw [hz] at KZ ⊢
  clear hz h3
  go_enter Tryz.func15, Tryz.ntmps15
  go_wp2_with fail
  rw [← HW0.out]
  refine Calls.mono KZ.out ?_
  rintro e w' ⟨rfl, hw⟩
  obtain rfl := hw.symm
  clear hw
  go_wp2
  go_ret
  exact ⟨rfl, HB0.out⟩
theorem toPc_any (r : ByteArray) (k n i : Int) (b : ByteArray) (a : Option Addr) (m cap : Nat) (S : Nat → ByteArray) (w : World) (h : TxtAt w a m S) (hm : m ≤ 1048576) :
  Calls Tryz.prog 22 #[pcV r k n i b (.slice a m cap)] w fun e w' => ∃ g, e = .returned (pcV r k n i b (.slice (some ⟨g, 0, none⟩) m m)) ∧ OwnT w' w.heap.size (some ⟨g, 0, none⟩) m m S ∧ Below w.heap.size w w' := by
 obtain ⟨D, HD⟩ : ∃ x, Hid (x = w.heap.size + 1) := ⟨_, rfl⟩
 obtain ⟨V, HV⟩ : ∃ x, Hid (x = w.heap.size + 1 + 1) := ⟨_, rfl⟩
 obtain ⟨w0, HW0⟩ : ∃ x, Hid (x = ((w.alloc (.cells (pcC r k n i b (.slice a m cap)) 48)).alloc (.cells (pcC ⟨#[]⟩ 0 0 0 ⟨#[]⟩ (.slice none 0 0)) 49)).alloc (.cells (pcC r k n i b (.slice none 0 0)) 49)) := ⟨_, rfl⟩
 have HRV : Hid (Row w0 V 49 (pcC r k n i b (.slice none 0 0))) := by
  show Row _ _ _ _
  rw [HW0.out, HV.out]
  have := Row.new ((w.alloc (.cells (pcC r k n i b (.slice a m cap)) 48)).alloc (.cells (pcC ⟨#[]⟩ 0 0 0 ⟨#[]⟩ (.slice none 0 0)) 49)) (pcC r k n i b (.slice none 0 0)) 49
  simpa using this
 have HRD : Hid (Row w0 D 49 (pcC ⟨#[]⟩ 0 0 0 ⟨#[]⟩ (.slice none 0 0))) := by
  show Row _ _ _ _
  rw [HW0.out, HD.out]
  have := Row.new (w.alloc (.cells (pcC r k n i b (.slice a m cap)) 48)) (pcC ⟨#[]⟩ 0 0 0 ⟨#[]⟩ (.slice none 0 0)) 49
  exact Row.alloc (by simpa using this) _
 have hb0 : Below w.heap.size w w0 := by rw [HW0.out]; exact (((Below.refl _ _).alloc (Nat.le_refl _) _).alloc (by simp) _).alloc (by simp; omega) _
 have hVD : Hid (V ≠ D ∧ w.heap.size ≤ D ∧ w.heap.size ≤ V) := by
  have := HV.out; have := HD.out; exact ⟨by omega, by omega, by omega⟩
 have KB0 : Hid (Below w.heap.size w w0) := hb0
 have KT : Hid (Calls Tryz.prog 41 #[.slice a m cap] w0 fun e w' => e = .returned (.slice (some ⟨w0.heap.size, 0, none⟩) m m) ∧ OwnT w' w0.heap.size (some ⟨w0.heap.size, 0, none⟩) m m S ∧ Below w0.heap.size w0 w') := toT_any a m cap S w0 (h.below hb0) hm
 obtain ⟨g, HG⟩ : ∃ x, Hid (x = w0.heap.size) := ⟨_, rfl⟩
 rw [← HG.out] at KT
 clear h hb0
 go_enter Tryz.func22, Tryz.ntmps22
 go_wp2_with fail
 rw [← HW0.out, ← HV.out, ← HD.out]
 rw [HG.out] at KT
 refine Calls.mono KT.out ?_
 rw [← HG.out]
 rintro e w1 ⟨rfl, O1, b1⟩
 have lV0 := HRV.out.lt
 have lD0 := HRD.out.lt
 have HV1 : Hid (Row w1 V 49 (pcC r k n i b (.slice none 0 0))) := HRV.out.below (HG.out ▸ b1) lV0
 have HD1 : Hid (Row w1 D 49 (pcC ⟨#[]⟩ 0 0 0 ⟨#[]⟩ (.slice none 0 0))) := HRD.out.below (HG.out ▸ b1) lD0
 obtain ⟨w2, HW2⟩ : ∃ x, Hid (x = w1.setCell ⟨V, 5, none⟩ (.slice (some ⟨g, 0, none⟩) m m)) := ⟨_, rfl⟩
 have HV2 : Hid (Row w2 V 49 (pcC r k n i b (.slice (some ⟨g, 0, none⟩) m m))) := by show Row _ _ _ _; rw [HW2.out]; exact HV1.out.set 5 _
 have HD2 : Hid (Row w2 D 49 (pcC ⟨#[]⟩ 0 0 0 ⟨#[]⟩ (.slice none 0 0))) := by show Row _ _ _ _; rw [HW2.out]; exact HD1.out.other 5 _ (Ne.symm hVD.out.1)
 have O2 : Hid (OwnT w2 w0.heap.size (some ⟨g, 0, none⟩) m m S) := by show OwnT _ _ _ _ _ _; rw [HW2.out]; exact OwnT.setFar (HG.out ▸ O1) lV0
 have KB2 : Hid (Below w.heap.size w w2) := by show Below _ _ _; rw [HW2.out]; exact (KB0.out.trans ((HG.out ▸ b1 : Below w0.heap.size w0 w1).mono KB0.out.size)).setCell hVD.out.2.2 _
 have v5 := HV1.out.cell 5
 have vf := HV1.out.free 5
 simp at v5
 clear b1 O1 KT
 go_wp2_with (rw [← HW2.out]; refine wpList_load_row (by rfl) 49 _ (by rfl) V (by rfl) 49 _ (0, 0) _ HV2.out Tryz.underlying49 (by rfl) Tryz.infoPc ?_; clear v5 vf; have x0 := HD2.out.cell 0; have x1 := HD2.out.cell 1; have x2 := HD2.out.cell 2; have x3 := HD2.out.cell 3; have x4 := HD2.out.cell 4; have x5 := HD2.out.cell 5; have f0 := HD2.out.free 0; have f1 := HD2.out.free 1; have f2 := HD2.out.free 2; have f3 := HD2.out.free 3; have f4 := HD2.out.free 4; have f5 := HD2.out.free 5; simp at x0 x1 x2 x3 x4 x5)
 have ZR : Hid (Row ((((((w2.setCell ⟨D, 0, none⟩ (.string r)).setCell ⟨D, 1, none⟩ (.int .i64 k)).setCell ⟨D, 2, none⟩ (.int .i64 n)).setCell ⟨D, 3, none⟩ (.int .i64 i)).setCell ⟨D, 4, none⟩ (.string b)).setCell ⟨D, 5, none⟩ (.slice (some ⟨g, 0, none⟩) m m)) D 49 (pcC r k n i b (.slice (some ⟨g, 0, none⟩) m m))) := (((((HD2.out.set 0 _).set 1 _).set 2 _).set 3 _).set 4 _).set 5 _
 have ZO : Hid (OwnT ((((((w2.setCell ⟨D, 0, none⟩ (.string r)).setCell ⟨D, 1, none⟩ (.int .i64 k)).setCell ⟨D, 2, none⟩ (.int .i64 n)).setCell ⟨D, 3, none⟩ (.int .i64 i)).setCell ⟨D, 4, none⟩ (.string b)).setCell ⟨D, 5, none⟩ (.slice (some ⟨g, 0, none⟩) m m)) w.heap.size (some ⟨g, 0, none⟩) m m S) := OwnT.base (OwnT.setFar (OwnT.setFar (OwnT.setFar (OwnT.setFar (OwnT.setFar (OwnT.setFar O2.out lD0) lD0) lD0) lD0) lD0) lD0) KB0.out.size
 have hDw := hVD.out.2.1
 refine bodyPost_ret (v := pcV r k n i b (.slice (some ⟨g, 0, none⟩) m m)) (results_cell_row Tryz.results22 _ _ D 49 _ (0, 0) _ (by simp) ZR.out Tryz.underlying49 (by rfl) Tryz.infoPc) rfl ⟨g, rfl, ZO.out, ?_⟩
 exact Below.setCell (Below.setCell (Below.setCell (Below.setCell (Below.setCell (Below.setCell KB2.out hDw _) hDw _) hDw _) hDw _) hDw _) hDw _
theorem eqPc_same (r : ByteArray) (k n i : Int) (b : ByteArray) (a a' : Option Addr) (m ca ca' : Nat) (S : Nat → ByteArray) (w : World) (h : TxtAt w a m S) (h' : TxtAt w a' m S) (hm : m ≤ 1048576) :
  Calls Tryz.prog 30 #[pcV r k n i b (.slice a m ca), pcV r k n i b (.slice a' m ca')] w fun e w' => e = .returned (.bool true) ∧ Below w.heap.size w w' := by
 obtain ⟨w0, HW0⟩ : ∃ x, Hid (x = (w.alloc (.cells (pcC r k n i b (.slice a m ca)) 49)).alloc (.cells (pcC r k n i b (.slice a' m ca')) 49)) := ⟨_, rfl⟩
 have hb0 : Below w.heap.size w w0 := by rw [HW0.out]; exact ((Below.refl _ _).alloc (Nat.le_refl _) _).alloc (by simp) _
 have HB0 : Hid (Below w.heap.size w w0) := hb0
 have KE : Hid _ := eqT_same a a' m ca ca' S w0 (h.below hb0) (h'.below hb0) hm
 have hf1 : (r.toList != r.toList) = false := by simp
 have hf2 := ba_beq r
 have hf3 : (b.toList != b.toList) = false := by simp
 have hf4 := ba_beq b
 have hf5 : (k != k) = false := by simp
 have hf6 : (n != n) = false := by simp
 have hf7 : (i != i) = false := by simp
 clear h h' hb0
 go_enter Tryz.func30, Tryz.ntmps30
 go_wp2_with fail
 rw [← HW0.out]
 refine Calls.mono KE.out ?_
 rintro e w1 ⟨rfl, b1⟩
 go_wp2
 go_ret
 exact ⟨rfl, below2 HB0.out b1⟩
theorem list6 {α : Type} (l : List α) (h : l.length = 6) : ∃ a b c d e f, l = [a, b, c, d, e, f] := by
 match l, h with
 | [a, b, c, d, e, f], _ => exact ⟨a, b, c, d, e, f, rfl⟩
theorem open_piece {H : Type} {enc : TypeId × Value → H} {w : World} {base : Nat} {spare : Nat → Bool} {held : Bool} {fuel : Nat} {cs : List Value} {x : DataW H × List MemPlace} (h : DataW.trod enc Tryz.prog w base spare held fuel 48 cs = some x) :
  ∃ (r : ByteArray) (k n i : Int) (b : ByteArray) (a : Option Addr) (m c : Nat) (S : Nat → ByteArray), cs = [.string r, .int .i64 k, .int .i64 n, .int .i64 i, .string b, .slice a m c] ∧ ((Lit.int .i64 k).wf = true ∧ (Lit.int .i64 n).wf = true ∧ (Lit.int .i64 i).wf = true) ∧ r.size ≤ maxLen ∧ b.size ≤ maxLen ∧ IsTxt w a m S := by
 have c6 : Tryz.prog.cellsOf 48 = 6 := by kernel_rfl
 have cs1 : Tryz.prog.cellsOf 9 = 1 := by kernel_rfl
 have ci1 : Tryz.prog.cellsOf 3 = 1 := by kernel_rfl
 have cl1 : Tryz.prog.cellsOf 46 = 1 := by kernel_rfl
 obtain ⟨xs, f, _, _, hl, hlen, hf⟩ := DataW.trod_struct Tryz.underlying48 h
 rw [c6] at hl
 obtain ⟨c0, c1, c2, c3, c4, c5, rfl⟩ := list6 cs hl
 obtain ⟨y0, y1, y2, y3, y4, y5, rfl⟩ := list6 xs hlen
 have g0 := hf 0 _ rfl
 have g1 := hf 1 _ rfl
 have g2 := hf 2 _ rfl
 have g3 := hf 3 _ rfl
 have g4 := hf 4 _ rfl
 have g5 := hf 5 _ rfl
 simp [cs1, ci1, cl1] at g0 g1 g2 g3 g4 g5
 obtain ⟨r, e0, _, hr⟩ := DataW.trod_string Tryz.underlying9 g0
 obtain ⟨k, e1, _, u1⟩ := DataW.trod_int Tryz.underlying3 g1
 obtain ⟨n, e2, _, u2⟩ := DataW.trod_int Tryz.underlying3 g2
 obtain ⟨i, e3, _, u3⟩ := DataW.trod_int Tryz.underlying3 g3
 obtain ⟨b, e4, _, hb⟩ := DataW.trod_string Tryz.underlying9 g4
 simp at e0 e1 e2 e3 e4
 subst e0 e1 e2 e3 e4
 rcases Go.Deep.open_strs Tryz.underlying46 Tryz.underlying9 cs1 g5 with ⟨hcs, _⟩ | ⟨ad, l, c, m, Sx, hcs, _, hl', hm, hmm, _, hcell⟩
 ·simp at hcs
  subst hcs
  exact ⟨r, k, n, i, b, none, 0, 0, fun _ => ByteArray.empty, rfl, ⟨u1, u2, u3⟩, hr, hb, fun i hi => absurd hi (Nat.not_lt_zero _), Nat.zero_le _, fun i hi => absurd hi (Nat.not_lt_zero _)⟩
 ·simp at hcs
  subst hcs
  exact ⟨r, k, n, i, b, some ad, l, c, Sx, rfl, ⟨u1, u2, u3⟩, hr, hb, isTxt_of hl' hm (by rw [hmm]; split <;> omega) hcell⟩
end Go.Proofs.YtmhcdkbgjjibeaaGreatDoor
