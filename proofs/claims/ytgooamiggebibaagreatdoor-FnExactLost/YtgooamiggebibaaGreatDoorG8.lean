import Derived.Test.YtgooamiggebibaaGreatDoorG5
import Derived.Test.YtgooamiggebibaaGreatDoorRows
import Derived.Deep.Strs
set_option maxHeartbeats 8000000
set_option maxRecDepth 2000
open Go.ChangeShapes Go.WideShapes Go.ChangeAt Go.RowKit
namespace Go.Proofs.YtgooamiggebibaaGreatDoor
def IsTxt (w : World) (a : Option Addr) (n : Nat) (S : Nat → ByteArray) : Prop := TxtAt w a n S ∧ n ≤ maxLen ∧ ∀ i, i < n → (S i).size ≤ maxLen
theorem isTxt_of {w : World} {a : Addr} {len cap m : Nat} {S : Nat → ByteArray} (hl : len ≤ cap) (hm : cap ≤ maxLen) (hlm : len ≤ m) (h : ∀ i, i < m → w.cell? (a.add i) = some (.string (S i)) ∧ (S i).size ≤ maxLen) : IsTxt w (some a) len S := by
 refine ⟨fun i hi => ?_, Nat.le_trans hl hm, fun i hi => (h i (by omega)).2⟩
 have h1 := (h i (by omega)).1
 obtain ⟨b, off, spot⟩ := a
 have hspot : spot = none := by
  have h0 := (h 0 (by omega)).1
  simpa [Addr.add] using World.cell?_spot h0
 subst hspot
 have ea : ∀ (b off i : Nat), (⟨b, off, none⟩ : Addr).add i = ⟨b, off + i, none⟩ := fun b off i => by unfold Addr.add; split <;> simp_all
 rw [ea] at h1
 exact ⟨b, off, rfl, h1⟩
theorem markT2_any (B E : Nat) (a : Option Addr) (n cap : Nat) (S : Nat → ByteArray) (k q : Nat) (w : World) (h : RowT w B E a n cap S) (hn : n ≤ 1048576) (hk : k ≤ 50000000) (hq : k + n = q) :
  Calls Tryz.prog 13 #[.slice a n cap, .int .i64 (k : Int)] w fun e w' => e = .returned (.int .i64 (q : Int)) ∧ RowT w' B E a n cap (fun i => mtxt (k + i)) ∧ TurnM w w' B E := by
 subst hq
 have K0 : Hid (RowT w B E a n cap (fun i => if i < 0 then mtxt (k + i) else S i)) := ⟨h.1.congr (fun i _ => by simp), h.2⟩
 clear h
 go_enter Tryz.func13, Tryz.ntmps13
 go_wp2
 go_loopw [1, 5] (fun p i wr => ∃ c x : Nat, c ≤ n ∧ k + c = x ∧ p = .int .i64 (x : Int) ∧ i = .int .i64 (c : Int) ∧ RowT wr B E a n cap (fun i => if i < c then mtxt (k + i) else S i) ∧ TurnM w wr B E) (fun _ i _ => n - (intOf i).toNat)
 case atStart => exact ⟨0, k, Nat.zero_le _, rfl, rfl, rfl, K0.out, TurnM.refl _ _ _⟩
 case round =>
  obtain ⟨c, x, hc, hx, rfl, rfl, hR, hT⟩ := hrel
  clear K0
  by_cases hlt : c < n
  ·have hlti : (c : Int) < (n : Int) := by omega
   obtain ⟨g, rfl⟩ : ∃ g, a = some ⟨g, 0, none⟩ := by
    rcases own_shape hR.1 with ⟨_, h0, _⟩ | ⟨g, _, e, _⟩
    ·omega
    ·exact ⟨g, e⟩
   have hgB := hR.2 _ rfl
   have KR : Hid (RowT wr B E (some ⟨g, 0, none⟩) n cap (fun i => if i < c then mtxt (k + i) else S i)) := hR
   have KT : Hid (TurnM w wr B E) := hT
   clear hR hT
   go_wp2_with fail
   refine (markText_any x _ (by omega)).mono ?_
   rintro e w1 ⟨rfl, hb1⟩
   have hR1 := KR.out.below hb1
   obtain ⟨old, hold⟩ : ∃ v, w1.cell? ⟨g, c, none⟩ = some v := by
    rw [World.ownsRow.cellAt hR1.1 c (by omega)]
    exact ⟨_, sL_get _ _ _ hlt⟩
   have hfr := World.ownsRow.frozenAt hR1.1 c
   have hst := World.ownsRow.stored hR1.1 c (.string (mtxt x))
   rw [sL_set _ _ _ _ hlt] at hst
   have HO : Hid (RowT (w1.setCell ⟨g, c, none⟩ (.string (mtxt x))) B E (some ⟨g, 0, none⟩) n cap (fun i => if i < c + 1 then mtxt (k + i) else S i)) := ⟨OwnT.congr hst.1 (fun i _ => by
    by_cases e : i = c
    ·subst e; simp [hx]
    ·by_cases e2 : i < c
     ·simp [e, e2, show i < c + 1 by omega]
     ·simp [e, e2, show ¬ i < c + 1 by omega]), hR1.2⟩
   have HT : Hid (TurnM w (w1.setCell ⟨g, c, none⟩ (.string (mtxt x))) B E) := (KT.out.trans (TurnM.ofBelow B E hb1)).trans (TurnM.set w1 c _ hgB.1 hgB.2)
   generalize mtxt x = mx at HO HT
   clear hst hR1 KR KT
   go_wp2
   go_roundw
   case rel => exact ⟨c + 1, x + 1, by omega, by omega, by go_num, by go_num, HO.out, HT.out⟩
   case measure => simp [intOf] <;> omega
  ·obtain rfl : c = n := by omega
   subst hx
   have HR : Hid (RowT wr B E a c cap (fun i => mtxt (k + i))) := ⟨hR.1.congr (fun i hi => if_pos hi), hR.2⟩
   have HT : Hid (TurnM w wr B E) := hT
   clear hR hT
   go_wp2
   go_ret
   exact ⟨rfl, HR.out, HT.out⟩
def szPc (r b : ByteArray) (m : Nat) (S : Nat → ByteArray) (l : Nat) : Int := if r.size + b.size ≤ l then szF (fun i => (S i).size) m (l - r.size - b.size) else -1
theorem szPc_yes {r b : ByteArray} {m : Nat} {S : Nat → ByteArray} {l : Nat} (h : r.size + b.size + (m + tot (fun i => (S i).size) m) ≤ l) : szPc r b m S l = ((l - (r.size + b.size + (m + tot (fun i => (S i).size) m)) : Nat) : Int) := by
 unfold szPc szF
 rw [if_pos (by omega), if_pos (by omega)]
 omega
theorem szPc_no {r b : ByteArray} {m : Nat} {S : Nat → ByteArray} {l : Nat} (h : ¬ r.size + b.size + (m + tot (fun i => (S i).size) m) ≤ l) : szPc r b m S l = -1 := by
 unfold szPc szF
 by_cases h1 : r.size + b.size ≤ l
 ·rw [if_pos h1, if_neg (by omega)]
 ·rw [if_neg h1]
theorem szPc_any (r : ByteArray) (k n i : Int) (b : ByteArray) (a : Option Addr) (m cap : Nat) (S : Nat → ByteArray) (l : Nat) (w : World) (h : TxtAt w a m S) (hl : l ≤ 1048576) (hm : m ≤ maxLen) (hL : ∀ i, i < m → (S i).size ≤ maxLen) (hr : r.size ≤ maxLen) (hb : b.size ≤ maxLen) :
  Calls Tryz.prog 47 #[pcV r k n i b (.slice a m cap), .int .i64 (l : Int)] w fun e w' => e = .returned (.int .i64 (szPc r b m S l)) ∧ Below w.heap.size w w' := by
 obtain ⟨w0, HW0⟩ : ∃ x, Hid (x = w.alloc (.cells (pcC r k n i b (.slice a m cap)) 63)) := ⟨_, rfl⟩
 have hb0 : Below w.heap.size w w0 := by rw [HW0.out]; exact (Below.refl _ _).alloc (Nat.le_refl _) _
 have HB0 : Hid (Below w.heap.size w w0) := hb0
 have KT : Hid (TxtAt w0 a m S) := h.below hb0
 obtain ⟨x, hx⟩ : ∃ x, r.size = x := ⟨_, rfl⟩
 obtain ⟨y, hy⟩ : ∃ x, b.size = x := ⟨_, rfl⟩
 unfold szPc
 rw [hx, hy]
 unfold maxLen at hr hb
 clear h hb0
 by_cases h1 : l < x
 ·have h1' : (l : Int) - (x : Int) < 0 := by omega
  have e1 : IntKind.i64.wrap ((l : Int) - (x : Int)) = (l : Int) - (x : Int) := by rw [IntKind.wrap_i64]; omega
  rw [if_neg (by omega)]
  clear hL
  go_enter Tryz.func47, Tryz.ntmps47
  go_wp2
  go_ret
  exact ⟨rfl, by rw [← HW0.out]; exact HB0.out⟩
 obtain ⟨l1, hl1⟩ : ∃ l1, l = x + l1 := ⟨l - x, by omega⟩
 have e1 : IntKind.i64.wrap ((l : Int) - (x : Int)) = (l1 : Int) := by rw [IntKind.wrap_i64]; omega
 have p1 : ¬ ((l1 : Int) < 0) := by omega
 by_cases h2 : l1 < y
 ·have h2' : (l1 : Int) - (y : Int) < 0 := by omega
  have e2 : IntKind.i64.wrap ((l1 : Int) - (y : Int)) = (l1 : Int) - (y : Int) := by rw [IntKind.wrap_i64]; omega
  rw [if_neg (by omega)]
  clear hL hl1
  go_enter Tryz.func47, Tryz.ntmps47
  go_wp2
  go_ret
  exact ⟨rfl, by rw [← HW0.out]; exact HB0.out⟩
 obtain ⟨l2, hl2⟩ : ∃ l2, l1 = y + l2 := ⟨l1 - y, by omega⟩
 have e2 : IntKind.i64.wrap ((l1 : Int) - (y : Int)) = (l2 : Int) := by rw [IntKind.wrap_i64]; omega
 have p2 : ¬ ((l2 : Int) < 0) := by omega
 rw [if_pos (by omega), show l - x - y = l2 by omega]
 have KZ : Hid (Calls Tryz.prog 5 #[.slice a m cap, .int .i64 (l2 : Int)] w0 fun e w' => e = .returned (.int .i64 (szF (fun i => (S i).size) m l2)) ∧ w' = w0) := szT_any a m cap S l2 w0 KT.out (by omega) hm hL
 clear hL hl1 hl2
 by_cases h3 : m + tot (fun i => (S i).size) m ≤ l2
 ·obtain ⟨z, hz⟩ : ∃ z : Nat, szF (fun i => (S i).size) m l2 = (z : Int) := ⟨l2 - (m + tot (fun i => (S i).size) m), by unfold szF; rw [if_pos h3]⟩
  rw [hz] at KZ ⊢
  have p3 : ¬ ((z : Int) < 0) := by omega
  clear hz h3
  go_enter Tryz.func47, Tryz.ntmps47
  go_wp2_with fail
  rw [← HW0.out]
  refine Calls.mono KZ.out ?_
  rintro e w' ⟨rfl, hw⟩
  obtain rfl := hw.symm
  clear hw
  go_wp2
  go_ret
  exact ⟨rfl, HB0.out⟩
 ·have hz : szF (fun i => (S i).size) m l2 = -1 := by unfold szF; rw [if_neg h3]
  rw [hz] at KZ ⊢
  clear hz h3
  go_enter Tryz.func47, Tryz.ntmps47
  go_wp2_with fail
  rw [← HW0.out]
  refine Calls.mono KZ.out ?_
  rintro e w' ⟨rfl, hw⟩
  obtain rfl := hw.symm
  clear hw
  go_wp2
  go_ret
  exact ⟨rfl, HB0.out⟩
theorem toPc_any (r : ByteArray) (k n i : Int) (b : ByteArray) (a : Option Addr) (m cap : Nat) (S : Nat → ByteArray) (w : World) (h : TxtAt w a m S) (hm : m ≤ 1048576) :
  Calls Tryz.prog 54 #[pcV r k n i b (.slice a m cap)] w fun e w' => ∃ g, e = .returned (pcV r k n i b (.slice (some ⟨g, 0, none⟩) m m)) ∧ OwnT w' w.heap.size (some ⟨g, 0, none⟩) m m S ∧ Below w.heap.size w w' := by
 obtain ⟨D, HD⟩ : ∃ x, Hid (x = w.heap.size + 1) := ⟨_, rfl⟩
 obtain ⟨V, HV⟩ : ∃ x, Hid (x = w.heap.size + 1 + 1) := ⟨_, rfl⟩
 obtain ⟨w0, HW0⟩ : ∃ x, Hid (x = ((w.alloc (.cells (pcC r k n i b (.slice a m cap)) 63)).alloc (.cells (pcC ⟨#[]⟩ 0 0 0 ⟨#[]⟩ (.slice none 0 0)) 66)).alloc (.cells (pcC r k n i b (.slice none 0 0)) 66)) := ⟨_, rfl⟩
 have HRV : Hid (Row w0 V 66 (pcC r k n i b (.slice none 0 0))) := by
  show Row _ _ _ _
  rw [HW0.out, HV.out]
  have := Row.new ((w.alloc (.cells (pcC r k n i b (.slice a m cap)) 63)).alloc (.cells (pcC ⟨#[]⟩ 0 0 0 ⟨#[]⟩ (.slice none 0 0)) 66)) (pcC r k n i b (.slice none 0 0)) 66
  simpa using this
 have HRD : Hid (Row w0 D 66 (pcC ⟨#[]⟩ 0 0 0 ⟨#[]⟩ (.slice none 0 0))) := by
  show Row _ _ _ _
  rw [HW0.out, HD.out]
  have := Row.new (w.alloc (.cells (pcC r k n i b (.slice a m cap)) 63)) (pcC ⟨#[]⟩ 0 0 0 ⟨#[]⟩ (.slice none 0 0)) 66
  exact Row.alloc (by simpa using this) _
 have hb0 : Below w.heap.size w w0 := by rw [HW0.out]; exact (((Below.refl _ _).alloc (Nat.le_refl _) _).alloc (by simp) _).alloc (by simp; omega) _
 have hVD : Hid (V ≠ D ∧ w.heap.size ≤ D ∧ w.heap.size ≤ V) := by
  have := HV.out; have := HD.out; exact ⟨by omega, by omega, by omega⟩
 have KB0 : Hid (Below w.heap.size w w0) := hb0
 have KT : Hid (Calls Tryz.prog 8 #[.slice a m cap] w0 fun e w' => e = .returned (.slice (some ⟨w0.heap.size, 0, none⟩) m m) ∧ OwnT w' w0.heap.size (some ⟨w0.heap.size, 0, none⟩) m m S ∧ Below w0.heap.size w0 w') := toT_any a m cap S w0 (h.below hb0) hm
 obtain ⟨g, HG⟩ : ∃ x, Hid (x = w0.heap.size) := ⟨_, rfl⟩
 rw [← HG.out] at KT
 clear h hb0
 go_enter Tryz.func54, Tryz.ntmps54
 go_wp2_with fail
 rw [← HW0.out, ← HV.out, ← HD.out]
 rw [HG.out] at KT
 refine Calls.mono KT.out ?_
 rw [← HG.out]
 rintro e w1 ⟨rfl, O1, b1⟩
 have lV0 := HRV.out.lt
 have lD0 := HRD.out.lt
 have HV1 : Hid (Row w1 V 66 (pcC r k n i b (.slice none 0 0))) := HRV.out.below (HG.out ▸ b1) lV0
 have HD1 : Hid (Row w1 D 66 (pcC ⟨#[]⟩ 0 0 0 ⟨#[]⟩ (.slice none 0 0))) := HRD.out.below (HG.out ▸ b1) lD0
 obtain ⟨w2, HW2⟩ : ∃ x, Hid (x = w1.setCell ⟨V, 5, none⟩ (.slice (some ⟨g, 0, none⟩) m m)) := ⟨_, rfl⟩
 have HV2 : Hid (Row w2 V 66 (pcC r k n i b (.slice (some ⟨g, 0, none⟩) m m))) := by show Row _ _ _ _; rw [HW2.out]; exact HV1.out.set 5 _
 have HD2 : Hid (Row w2 D 66 (pcC ⟨#[]⟩ 0 0 0 ⟨#[]⟩ (.slice none 0 0))) := by show Row _ _ _ _; rw [HW2.out]; exact HD1.out.other 5 _ (Ne.symm hVD.out.1)
 have O2 : Hid (OwnT w2 w0.heap.size (some ⟨g, 0, none⟩) m m S) := by show OwnT _ _ _ _ _ _; rw [HW2.out]; exact OwnT.setFar (HG.out ▸ O1) lV0
 have KB2 : Hid (Below w.heap.size w w2) := by show Below _ _ _; rw [HW2.out]; exact (KB0.out.trans ((HG.out ▸ b1 : Below w0.heap.size w0 w1).mono KB0.out.size)).setCell hVD.out.2.2 _
 have v5 := HV1.out.cell 5
 have vf := HV1.out.free 5
 simp at v5
 clear b1 O1 KT
 go_wp2_with (rw [← HW2.out]; refine wpList_load_row (by rfl) 66 _ (by rfl) V (by rfl) 66 _ (0, 0) _ HV2.out Tryz.underlying66 (by rfl) Tryz.infoPc ?_; clear v5 vf; have x0 := HD2.out.cell 0; have x1 := HD2.out.cell 1; have x2 := HD2.out.cell 2; have x3 := HD2.out.cell 3; have x4 := HD2.out.cell 4; have x5 := HD2.out.cell 5; have f0 := HD2.out.free 0; have f1 := HD2.out.free 1; have f2 := HD2.out.free 2; have f3 := HD2.out.free 3; have f4 := HD2.out.free 4; have f5 := HD2.out.free 5; simp at x0 x1 x2 x3 x4 x5)
 have ZR : Hid (Row ((((((w2.setCell ⟨D, 0, none⟩ (.string r)).setCell ⟨D, 1, none⟩ (.int .i64 k)).setCell ⟨D, 2, none⟩ (.int .i64 n)).setCell ⟨D, 3, none⟩ (.int .i64 i)).setCell ⟨D, 4, none⟩ (.string b)).setCell ⟨D, 5, none⟩ (.slice (some ⟨g, 0, none⟩) m m)) D 66 (pcC r k n i b (.slice (some ⟨g, 0, none⟩) m m))) := (((((HD2.out.set 0 _).set 1 _).set 2 _).set 3 _).set 4 _).set 5 _
 have ZO : Hid (OwnT ((((((w2.setCell ⟨D, 0, none⟩ (.string r)).setCell ⟨D, 1, none⟩ (.int .i64 k)).setCell ⟨D, 2, none⟩ (.int .i64 n)).setCell ⟨D, 3, none⟩ (.int .i64 i)).setCell ⟨D, 4, none⟩ (.string b)).setCell ⟨D, 5, none⟩ (.slice (some ⟨g, 0, none⟩) m m)) w.heap.size (some ⟨g, 0, none⟩) m m S) := OwnT.base (OwnT.setFar (OwnT.setFar (OwnT.setFar (OwnT.setFar (OwnT.setFar (OwnT.setFar O2.out lD0) lD0) lD0) lD0) lD0) lD0) KB0.out.size
 have hDw := hVD.out.2.1
 refine bodyPost_ret (v := pcV r k n i b (.slice (some ⟨g, 0, none⟩) m m)) (results_cell_row Tryz.results54 _ _ D 66 _ (0, 0) _ (by simp) ZR.out Tryz.underlying66 (by rfl) Tryz.infoPc) rfl ⟨g, rfl, ZO.out, ?_⟩
 exact Below.setCell (Below.setCell (Below.setCell (Below.setCell (Below.setCell (Below.setCell KB2.out hDw _) hDw _) hDw _) hDw _) hDw _) hDw _
theorem eqPc_same (r : ByteArray) (k n i : Int) (b : ByteArray) (a a' : Option Addr) (m ca ca' : Nat) (S : Nat → ByteArray) (w : World) (h : TxtAt w a m S) (h' : TxtAt w a' m S) (hm : m ≤ 1048576) :
  Calls Tryz.prog 65 #[pcV r k n i b (.slice a m ca), pcV r k n i b (.slice a' m ca')] w fun e w' => e = .returned (.bool true) ∧ Below w.heap.size w w' := by
 obtain ⟨w0, HW0⟩ : ∃ x, Hid (x = (w.alloc (.cells (pcC r k n i b (.slice a m ca)) 66)).alloc (.cells (pcC r k n i b (.slice a' m ca')) 66)) := ⟨_, rfl⟩
 have hb0 : Below w.heap.size w w0 := by rw [HW0.out]; exact ((Below.refl _ _).alloc (Nat.le_refl _) _).alloc (by simp) _
 have HB0 : Hid (Below w.heap.size w w0) := hb0
 have KE : Hid _ := eqT_same a a' m ca ca' S w0 (h.below hb0) (h'.below hb0) hm
 have hf1 : (r.toList != r.toList) = false := by simp
 have hf2 := ba_beq r
 have hf3 : (b.toList != b.toList) = false := by simp
 have hf4 := ba_beq b
 have hf5 : (k != k) = false := by simp
 have hf6 : (n != n) = false := by simp
 have hf7 : (i != i) = false := by simp
 clear h h' hb0
 go_enter Tryz.func65, Tryz.ntmps65
 go_wp2_with fail
 rw [← HW0.out]
 refine Calls.mono KE.out ?_
 rintro e w1 ⟨rfl, b1⟩
 go_wp2
 go_ret
 exact ⟨rfl, below2 HB0.out b1⟩
theorem list6 {α : Type} (l : List α) (h : l.length = 6) : ∃ a b c d e f, l = [a, b, c, d, e, f] := by
 match l, h with
 | [a, b, c, d, e, f], _ => exact ⟨a, b, c, d, e, f, rfl⟩
theorem open_piece {H : Type} {enc : TypeId × Value → H} {w : World} {base : Nat} {spare : Nat → Bool} {held : Bool} {fuel : Nat} {cs : List Value} {x : DataW H × List MemPlace} (h : DataW.trod enc Tryz.prog w base spare held fuel 63 cs = some x) :
  ∃ (r : ByteArray) (k n i : Int) (b : ByteArray) (a : Option Addr) (m c : Nat) (S : Nat → ByteArray), cs = [.string r, .int .i64 k, .int .i64 n, .int .i64 i, .string b, .slice a m c] ∧ ((Lit.int .i64 k).wf = true ∧ (Lit.int .i64 n).wf = true ∧ (Lit.int .i64 i).wf = true) ∧ r.size ≤ maxLen ∧ b.size ≤ maxLen ∧ IsTxt w a m S := by
 have c6 : Tryz.prog.cellsOf 63 = 6 := by kernel_rfl
 have cs1 : Tryz.prog.cellsOf 9 = 1 := by kernel_rfl
 have ci1 : Tryz.prog.cellsOf 3 = 1 := by kernel_rfl
 have cl1 : Tryz.prog.cellsOf 27 = 1 := by kernel_rfl
 obtain ⟨xs, f, _, _, hl, hlen, hf⟩ := DataW.trod_struct Tryz.underlying63 h
 rw [c6] at hl
 obtain ⟨c0, c1, c2, c3, c4, c5, rfl⟩ := list6 cs hl
 obtain ⟨y0, y1, y2, y3, y4, y5, rfl⟩ := list6 xs hlen
 have g0 := hf 0 _ rfl
 have g1 := hf 1 _ rfl
 have g2 := hf 2 _ rfl
 have g3 := hf 3 _ rfl
 have g4 := hf 4 _ rfl
 have g5 := hf 5 _ rfl
 simp [cs1, ci1, cl1] at g0 g1 g2 g3 g4 g5
 obtain ⟨r, e0, _, hr⟩ := DataW.trod_string Tryz.underlying9 g0
 obtain ⟨k, e1, _, u1⟩ := DataW.trod_int Tryz.underlying3 g1
 obtain ⟨n, e2, _, u2⟩ := DataW.trod_int Tryz.underlying3 g2
 obtain ⟨i, e3, _, u3⟩ := DataW.trod_int Tryz.underlying3 g3
 obtain ⟨b, e4, _, hb⟩ := DataW.trod_string Tryz.underlying9 g4
 simp at e0 e1 e2 e3 e4
 subst e0 e1 e2 e3 e4
 rcases Go.Deep.open_strs Tryz.underlying27 Tryz.underlying9 cs1 g5 with ⟨hcs, _⟩ | ⟨ad, l, c, m, Sx, hcs, _, hl', hm, hmm, _, hcell⟩
 ·simp at hcs
  subst hcs
  exact ⟨r, k, n, i, b, none, 0, 0, fun _ => ByteArray.empty, rfl, ⟨u1, u2, u3⟩, hr, hb, fun i hi => absurd hi (Nat.not_lt_zero _), Nat.zero_le _, fun i hi => absurd hi (Nat.not_lt_zero _)⟩
 ·simp at hcs
  subst hcs
  exact ⟨r, k, n, i, b, some ad, l, c, Sx, rfl, ⟨u1, u2, u3⟩, hr, hb, isTxt_of hl' hm (by rw [hmm]; split <;> omega) hcell⟩
end Go.Proofs.YtgooamiggebibaaGreatDoor
