/- Pieces as the exact laws hand them in: counted, copied, compared. Conditions stand at each. -/
import Derived.Test.YtkcnpkkihbpnmaaDoorD10
import Derived.Test.YtkcnpkkihbpnmaaDoorRows
import Derived.Deep.Strs
namespace Go.Proofs.YtkcnpkkihbpnmaaDoor
set_option maxRecDepth 2000
open Go.ChangeShapes Go.WideShapes Go.ChangeAt Go.RowKit

/-- What is left of l behind a piece; -1 where it is not enough. -/
def szPc (r b : ByteArray) (m : Nat) (S : Nat → ByteArray) (l : Nat) : Int := if r.size + b.size ≤ l then szF (fun i => (S i).size) m (l - r.size - b.size) else -1
theorem szPc_yes {r b : ByteArray} {m : Nat} {S : Nat → ByteArray} {l : Nat} (h : r.size + b.size + (m + tot (fun i => (S i).size) m) ≤ l) : szPc r b m S l = ((l - (r.size + b.size + (m + tot (fun i => (S i).size) m)) : Nat) : Int) := by
  unfold szPc szF
  rw [if_pos (by omega), if_pos (by omega)]
  omega
theorem szPc_no {r b : ByteArray} {m : Nat} {S : Nat → ByteArray} {l : Nat} (h : ¬ r.size + b.size + (m + tot (fun i => (S i).size) m) ≤ l) : szPc r b m S l = -1 := by
  unfold szPc szF
  by_cases h1 : r.size + b.size ≤ l
  · rw [if_pos h1, if_neg (by omega)]
  · rw [if_neg h1]

set_option maxHeartbeats 2000000 in
theorem szPc_any (r : ByteArray) (k n i : Int) (b : ByteArray) (a : Option Addr) (m cap : Nat) (S : Nat → ByteArray) (l : Nat) (w : World) (h : TxtAt w a m S) (hl : l ≤ 1048576) (hm : m ≤ maxLen) (hL : ∀ i, i < m → (S i).size ≤ maxLen) (hr : r.size ≤ maxLen) (hb : b.size ≤ maxLen) :
    Calls Tryd.prog 49 #[pcV r k n i b (.slice a m cap), .int .i64 (l : Int)] w fun e w' => e = .returned (.int .i64 (szPc r b m S l)) ∧ Below w.heap.size w w' := by
  obtain ⟨w0, HW0⟩ : ∃ x, Hid (x = w.alloc (.cells (pcC r k n i b (.slice a m cap)) 93)) := ⟨_, rfl⟩
  have hb0 : Below w.heap.size w w0 := by rw [HW0.out]; exact (Below.refl _ _).alloc (Nat.le_refl _) _
  have HB0 : Hid (Below w.heap.size w w0) := hb0
  have KT : Hid (TxtAt w0 a m S) := h.below hb0
  obtain ⟨x, hx⟩ : ∃ x, r.size = x := ⟨_, rfl⟩
  obtain ⟨y, hy⟩ : ∃ x, b.size = x := ⟨_, rfl⟩
  unfold szPc
  rw [hx, hy]
  unfold maxLen at hr hb
  clear h hb0
  by_cases h1 : l < x
  · have h1' : (l : Int) - (x : Int) < 0 := by omega
    have e1 : IntKind.i64.wrap ((l : Int) - (x : Int)) = (l : Int) - (x : Int) := by rw [IntKind.wrap_i64]; omega
    rw [if_neg (by omega)]
    clear hL
    go_enter Tryd.func49, Tryd.ntmps49
    go_wp2
    go_ret
    exact ⟨rfl, by rw [← HW0.out]; exact HB0.out⟩
  obtain ⟨l1, hl1⟩ : ∃ l1, l = x + l1 := ⟨l - x, by omega⟩
  have e1 : IntKind.i64.wrap ((l : Int) - (x : Int)) = (l1 : Int) := by rw [IntKind.wrap_i64]; omega
  have p1 : ¬ ((l1 : Int) < 0) := by omega
  by_cases h2 : l1 < y
  · have h2' : (l1 : Int) - (y : Int) < 0 := by omega
    have e2 : IntKind.i64.wrap ((l1 : Int) - (y : Int)) = (l1 : Int) - (y : Int) := by rw [IntKind.wrap_i64]; omega
    rw [if_neg (by omega)]
    clear hL hl1
    go_enter Tryd.func49, Tryd.ntmps49
    go_wp2
    go_ret
    exact ⟨rfl, by rw [← HW0.out]; exact HB0.out⟩
  obtain ⟨l2, hl2⟩ : ∃ l2, l1 = y + l2 := ⟨l1 - y, by omega⟩
  have e2 : IntKind.i64.wrap ((l1 : Int) - (y : Int)) = (l2 : Int) := by rw [IntKind.wrap_i64]; omega
  have p2 : ¬ ((l2 : Int) < 0) := by omega
  rw [if_pos (by omega), show l - x - y = l2 by omega]
  have KZ : Hid (Calls Tryd.prog 59 #[.slice a m cap, .int .i64 (l2 : Int)] w0 fun e w' => e = .returned (.int .i64 (szF (fun i => (S i).size) m l2)) ∧ w' = w0) := szT_any a m cap S l2 w0 KT.out (by omega) hm hL
  clear hL hl1 hl2
  by_cases h3 : m + tot (fun i => (S i).size) m ≤ l2
  · obtain ⟨z, hz⟩ : ∃ z : Nat, szF (fun i => (S i).size) m l2 = (z : Int) := ⟨l2 - (m + tot (fun i => (S i).size) m), by unfold szF; rw [if_pos h3]⟩
    rw [hz] at KZ ⊢
    have p3 : ¬ ((z : Int) < 0) := by omega
    clear hz h3
    go_enter Tryd.func49, Tryd.ntmps49
    go_wp2_with fail
    rw [← HW0.out]
    refine Calls.mono KZ.out ?_
    rintro e w' ⟨rfl, hw⟩
    obtain rfl := hw.symm
    clear hw
    go_wp2
    go_ret
    exact ⟨rfl, HB0.out⟩
  · have hz : szF (fun i => (S i).size) m l2 = -1 := by unfold szF; rw [if_neg h3]
    rw [hz] at KZ ⊢
    clear hz h3
    go_enter Tryd.func49, Tryd.ntmps49
    go_wp2_with fail
    rw [← HW0.out]
    refine Calls.mono KZ.out ?_
    rintro e w' ⟨rfl, hw⟩
    obtain rfl := hw.symm
    clear hw
    go_wp2
    go_ret
    exact ⟨rfl, HB0.out⟩

set_option maxHeartbeats 4000000 in
theorem toPc_any (r : ByteArray) (k n i : Int) (b : ByteArray) (a : Option Addr) (m cap : Nat) (S : Nat → ByteArray) (w : World) (h : TxtAt w a m S) (hm : m ≤ 1048576) :
    Calls Tryd.prog 51 #[pcV r k n i b (.slice a m cap)] w fun e w' => ∃ g, e = .returned (pcV r k n i b (.slice (some ⟨g, 0, none⟩) m m)) ∧ OwnT w' w.heap.size (some ⟨g, 0, none⟩) m m S ∧ Below w.heap.size w w' := by
  obtain ⟨D, HD⟩ : ∃ x, Hid (x = w.heap.size + 1) := ⟨_, rfl⟩
  obtain ⟨V, HV⟩ : ∃ x, Hid (x = w.heap.size + 1 + 1) := ⟨_, rfl⟩
  obtain ⟨w0, HW0⟩ : ∃ x, Hid (x = ((w.alloc (.cells (pcC r k n i b (.slice a m cap)) 93)).alloc (.cells (pcC ⟨#[]⟩ 0 0 0 ⟨#[]⟩ (.slice none 0 0)) 100)).alloc (.cells (pcC r k n i b (.slice none 0 0)) 100)) := ⟨_, rfl⟩
  have HRV : Hid (Row w0 V 100 (pcC r k n i b (.slice none 0 0))) := by
    show Row _ _ _ _
    rw [HW0.out, HV.out]
    have := Row.new ((w.alloc (.cells (pcC r k n i b (.slice a m cap)) 93)).alloc (.cells (pcC ⟨#[]⟩ 0 0 0 ⟨#[]⟩ (.slice none 0 0)) 100)) (pcC r k n i b (.slice none 0 0)) 100
    simpa using this
  have HRD : Hid (Row w0 D 100 (pcC ⟨#[]⟩ 0 0 0 ⟨#[]⟩ (.slice none 0 0))) := by
    show Row _ _ _ _
    rw [HW0.out, HD.out]
    have := Row.new (w.alloc (.cells (pcC r k n i b (.slice a m cap)) 93)) (pcC ⟨#[]⟩ 0 0 0 ⟨#[]⟩ (.slice none 0 0)) 100
    exact Row.alloc (by simpa using this) _
  have hb0 : Below w.heap.size w w0 := by rw [HW0.out]; exact (((Below.refl _ _).alloc (Nat.le_refl _) _).alloc (by simp) _).alloc (by simp; omega) _
  have hVD : Hid (V ≠ D ∧ w.heap.size ≤ D ∧ w.heap.size ≤ V) := by
    have := HV.out; have := HD.out; exact ⟨by omega, by omega, by omega⟩
  have KB0 : Hid (Below w.heap.size w w0) := hb0
  have KT : Hid (Calls Tryd.prog 61 #[.slice a m cap] w0 fun e w' => e = .returned (.slice (some ⟨w0.heap.size, 0, none⟩) m m) ∧ OwnT w' w0.heap.size (some ⟨w0.heap.size, 0, none⟩) m m S ∧ Below w0.heap.size w0 w') := toT_any a m cap S w0 (h.below hb0) hm
  obtain ⟨g, HG⟩ : ∃ x, Hid (x = w0.heap.size) := ⟨_, rfl⟩
  rw [← HG.out] at KT
  clear h hb0
  go_enter Tryd.func51, Tryd.ntmps51
  go_wp2_with fail
  rw [← HW0.out, ← HV.out, ← HD.out]
  rw [HG.out] at KT
  refine Calls.mono KT.out ?_
  rw [← HG.out]
  rintro e w1 ⟨rfl, O1, b1⟩
  have lV0 := HRV.out.lt
  have lD0 := HRD.out.lt
  have HV1 : Hid (Row w1 V 100 (pcC r k n i b (.slice none 0 0))) := HRV.out.below (HG.out ▸ b1) lV0
  have HD1 : Hid (Row w1 D 100 (pcC ⟨#[]⟩ 0 0 0 ⟨#[]⟩ (.slice none 0 0))) := HRD.out.below (HG.out ▸ b1) lD0
  obtain ⟨w2, HW2⟩ : ∃ x, Hid (x = w1.setCell ⟨V, 5, none⟩ (.slice (some ⟨g, 0, none⟩) m m)) := ⟨_, rfl⟩
  have HV2 : Hid (Row w2 V 100 (pcC r k n i b (.slice (some ⟨g, 0, none⟩) m m))) := by show Row _ _ _ _; rw [HW2.out]; exact HV1.out.set 5 _
  have HD2 : Hid (Row w2 D 100 (pcC ⟨#[]⟩ 0 0 0 ⟨#[]⟩ (.slice none 0 0))) := by show Row _ _ _ _; rw [HW2.out]; exact HD1.out.other 5 _ (Ne.symm hVD.out.1)
  have O2 : Hid (OwnT w2 w0.heap.size (some ⟨g, 0, none⟩) m m S) := by show OwnT _ _ _ _ _ _; rw [HW2.out]; exact OwnT.setFar (HG.out ▸ O1) lV0
  have KB2 : Hid (Below w.heap.size w w2) := by show Below _ _ _; rw [HW2.out]; exact (KB0.out.trans ((HG.out ▸ b1 : Below w0.heap.size w0 w1).mono KB0.out.size)).setCell hVD.out.2.2 _
  have v5 := HV1.out.cell 5
  have vf := HV1.out.free 5
  simp at v5
  clear b1 O1 KT
  go_wp2_with (rw [← HW2.out]; refine wpList_load_row (by rfl) 100 _ (by rfl) V (by rfl) 100 _ (0, 0) _ HV2.out Tryd.underlying100 (by rfl) Tryd.infoPc ?_; clear v5 vf; have x0 := HD2.out.cell 0; have x1 := HD2.out.cell 1; have x2 := HD2.out.cell 2; have x3 := HD2.out.cell 3; have x4 := HD2.out.cell 4; have x5 := HD2.out.cell 5; have f0 := HD2.out.free 0; have f1 := HD2.out.free 1; have f2 := HD2.out.free 2; have f3 := HD2.out.free 3; have f4 := HD2.out.free 4; have f5 := HD2.out.free 5; simp at x0 x1 x2 x3 x4 x5)
  have ZR : Hid (Row ((((((w2.setCell ⟨D, 0, none⟩ (.string r)).setCell ⟨D, 1, none⟩ (.int .i64 k)).setCell ⟨D, 2, none⟩ (.int .i64 n)).setCell ⟨D, 3, none⟩ (.int .i64 i)).setCell ⟨D, 4, none⟩ (.string b)).setCell ⟨D, 5, none⟩ (.slice (some ⟨g, 0, none⟩) m m)) D 100 (pcC r k n i b (.slice (some ⟨g, 0, none⟩) m m))) := (((((HD2.out.set 0 _).set 1 _).set 2 _).set 3 _).set 4 _).set 5 _
  have ZO : Hid (OwnT ((((((w2.setCell ⟨D, 0, none⟩ (.string r)).setCell ⟨D, 1, none⟩ (.int .i64 k)).setCell ⟨D, 2, none⟩ (.int .i64 n)).setCell ⟨D, 3, none⟩ (.int .i64 i)).setCell ⟨D, 4, none⟩ (.string b)).setCell ⟨D, 5, none⟩ (.slice (some ⟨g, 0, none⟩) m m)) w.heap.size (some ⟨g, 0, none⟩) m m S) := OwnT.base (OwnT.setFar (OwnT.setFar (OwnT.setFar (OwnT.setFar (OwnT.setFar (OwnT.setFar O2.out lD0) lD0) lD0) lD0) lD0) lD0) KB0.out.size
  have hDw := hVD.out.2.1
  refine bodyPost_ret (v := pcV r k n i b (.slice (some ⟨g, 0, none⟩) m m)) (results_cell_row Tryd.results51 _ _ D 100 _ (0, 0) _ (by simp) ZR.out Tryd.underlying100 (by rfl) Tryd.infoPc) rfl ⟨g, rfl, ZO.out, ?_⟩
  exact Below.setCell (Below.setCell (Below.setCell (Below.setCell (Below.setCell (Below.setCell KB2.out hDw _) hDw _) hDw _) hDw _) hDw _) hDw _

set_option maxHeartbeats 2000000 in
theorem eqPc_same (r : ByteArray) (k n i : Int) (b : ByteArray) (a a' : Option Addr) (m ca ca' : Nat) (S : Nat → ByteArray) (w : World) (h : TxtAt w a m S) (h' : TxtAt w a' m S) (hm : m ≤ 1048576) :
    Calls Tryd.prog 57 #[pcV r k n i b (.slice a m ca), pcV r k n i b (.slice a' m ca')] w fun e w' => e = .returned (.bool true) ∧ Below w.heap.size w w' := by
  obtain ⟨w0, HW0⟩ : ∃ x, Hid (x = (w.alloc (.cells (pcC r k n i b (.slice a m ca)) 100)).alloc (.cells (pcC r k n i b (.slice a' m ca')) 100)) := ⟨_, rfl⟩
  have hb0 : Below w.heap.size w w0 := by rw [HW0.out]; exact ((Below.refl _ _).alloc (Nat.le_refl _) _).alloc (by simp) _
  have HB0 : Hid (Below w.heap.size w w0) := hb0
  have KE : Hid _ := eqT_same a a' m ca ca' S w0 (h.below hb0) (h'.below hb0) hm
  have hf1 : (r.toList != r.toList) = false := by simp
  have hf2 := ba_beq r
  have hf3 : (b.toList != b.toList) = false := by simp
  have hf4 := ba_beq b
  have hf5 : (k != k) = false := by simp
  have hf6 : (n != n) = false := by simp
  have hf7 : (i != i) = false := by simp
  clear h h' hb0
  go_enter Tryd.func57, Tryd.ntmps57
  go_wp2_with fail
  rw [← HW0.out]
  refine Calls.mono KE.out ?_
  rintro e w1 ⟨rfl, b1⟩
  go_wp2
  go_ret
  exact ⟨rfl, below2 HB0.out b1⟩
end Go.Proofs.YtkcnpkkihbpnmaaDoor
/- A piece that is handed in, read as the form reads it. No condition. -/
namespace Go.Proofs.YtkcnpkkihbpnmaaDoor
set_option maxRecDepth 2000
open Go.ChangeShapes Go.WideShapes Go.ChangeAt Go.RowKit

theorem list6 {α : Type} (l : List α) (h : l.length = 6) : ∃ a b c d e f, l = [a, b, c, d, e, f] := by
  match l, h with
  | [a, b, c, d, e, f], _ => exact ⟨a, b, c, d, e, f, rfl⟩
theorem open_piece {H : Type} {enc : TypeId × Value → H} {w : World} {base : Nat} {spare : Nat → Bool} {held : Bool} {fuel : Nat} {cs : List Value} {x : DataW H × List MemPlace} (h : DataW.trod enc Tryd.prog w base spare held fuel 93 cs = some x) :
    ∃ (r : ByteArray) (k n i : Int) (b : ByteArray) (a : Option Addr) (m c : Nat) (S : Nat → ByteArray), cs = [.string r, .int .i64 k, .int .i64 n, .int .i64 i, .string b, .slice a m c] ∧ ((Lit.int .i64 k).wf = true ∧ (Lit.int .i64 n).wf = true ∧ (Lit.int .i64 i).wf = true) ∧ r.size ≤ maxLen ∧ b.size ≤ maxLen ∧ IsTxt w a m S := by
  have c6 : Tryd.prog.cellsOf 93 = 6 := by kernel_rfl
  have cs1 : Tryd.prog.cellsOf 9 = 1 := by kernel_rfl
  have ci1 : Tryd.prog.cellsOf 3 = 1 := by kernel_rfl
  have cl1 : Tryd.prog.cellsOf 91 = 1 := by kernel_rfl
  obtain ⟨xs, f, _, _, hl, hlen, hf⟩ := DataW.trod_struct Tryd.underlying93 h
  rw [c6] at hl
  obtain ⟨c0, c1, c2, c3, c4, c5, rfl⟩ := list6 cs hl
  obtain ⟨y0, y1, y2, y3, y4, y5, rfl⟩ := list6 xs hlen
  have g0 := hf 0 _ rfl
  have g1 := hf 1 _ rfl
  have g2 := hf 2 _ rfl
  have g3 := hf 3 _ rfl
  have g4 := hf 4 _ rfl
  have g5 := hf 5 _ rfl
  simp [cs1, ci1, cl1] at g0 g1 g2 g3 g4 g5
  obtain ⟨r, e0, _, hr⟩ := DataW.trod_string Tryd.underlying9 g0
  obtain ⟨k, e1, _, u1⟩ := DataW.trod_int Tryd.underlying3 g1
  obtain ⟨n, e2, _, u2⟩ := DataW.trod_int Tryd.underlying3 g2
  obtain ⟨i, e3, _, u3⟩ := DataW.trod_int Tryd.underlying3 g3
  obtain ⟨b, e4, _, hb⟩ := DataW.trod_string Tryd.underlying9 g4
  simp at e0 e1 e2 e3 e4
  subst e0 e1 e2 e3 e4
  rcases Go.Deep.open_strs Tryd.underlying91 Tryd.underlying9 cs1 g5 with ⟨hcs, _⟩ | ⟨ad, l, c, m, Sx, hcs, _, hl', hm, hmm, _, hcell⟩
  · simp at hcs
    subst hcs
    exact ⟨r, k, n, i, b, none, 0, 0, fun _ => ByteArray.empty, rfl, ⟨u1, u2, u3⟩, hr, hb, fun i hi => absurd hi (Nat.not_lt_zero _), Nat.zero_le _, fun i hi => absurd hi (Nat.not_lt_zero _)⟩
  · simp at hcs
    subst hcs
    exact ⟨r, k, n, i, b, some ad, l, c, Sx, rfl, ⟨u1, u2, u3⟩, hr, hb, isTxt_of hl' hm (by rw [hmm]; split <;> omega) hcell⟩
end Go.Proofs.YtkcnpkkihbpnmaaDoor
