/- The library's table of powers of ten, as it stands; what stands at a call's beginning stands on. No condition. -/
import Derived.Test.YtkcnpkkihbpnmaaDoorShelf
import Derived.Test.YtkcnpkkihbpnmaaDoorD6
import Derived.Test.YtkcnpkkihbpnmaaDoorRows
import Derived.Test.YtkcnpkkihbpnmaaDoorTie
import Derived.Test.YtkcnpkkihbpnmaaDoorCards
import Derived.ProofKit
import Derived.LaidMore
import Derived.OpenShut
import Derived.ShutString
import Derived.ChangeOld
import Derived.Below
import Derived.Stop.Joined
import Derived.SevenTiedAt
import Derived.Lib.Builder
import Derived.Lib.AppendStr
import Derived.Lib.UnsafeStr
import Derived.Laws.Externs
namespace Go.Proofs.YtkcnpkkihbpnmaaDoor
set_option maxRecDepth 2000
open Go.ChangeShapes Go.WideShapes Go.ChangeAt Go.RowKit

def TabOk (w : World) : Prop := Lib.TabIs Tryd.prog w "internal/strconv.uint64pow10" .u64 Lib.pow10Tab
theorem TabOk.below {w w' : World} (h : TabOk w) (hb : Below w.heap.size w w') : TabOk w' := by
  unfold TabOk Lib.TabIs World.var? at h ⊢
  cases hg : Tryd.prog.globalNamed "internal/strconv.uint64pow10" with
  | none => rw [hg] at h; cases h
  | some g =>
    rw [hg] at h
    simp only [Option.bind_some] at h ⊢
    have hlt : g < w.heap.size := by
      rcases Nat.lt_or_ge g w.heap.size with h' | h'
      · exact h'
      · rw [Array.getElem?_eq_none h'] at h; cases h
    rw [hb.block g hlt]
    exact h
theorem below_growD (w : World) (k : Nat) (os : Array Obj) : Below w.heap.size w (Sort.grow (w.drewN k) os) :=
  ⟨rfl, rfl, rfl, by show w.heap.size ≤ (w.heap ++ os).size; simp, fun j hj => by show (w.heap ++ os)[j]? = w.heap[j]?; rw [Array.getElem?_append_left hj]⟩
end Go.Proofs.YtkcnpkkihbpnmaaDoor
/- What a row's listed variables give the walks: the library's table of powers of ten stands as its text lays it; and one start that fits. -/
namespace Go.Proofs.YtkcnpkkihbpnmaaDoor
set_option maxRecDepth 2000
open Go.ChangeShapes Go.WideShapes Go.ChangeAt Go.WideMaps Go.WideElems Go.RowKit

def laid3 : List (String × DataW Unit) := [("math/bits.deBruijn32tab", Rows.laid_math_bits_deBruijn32tab), ("math/bits.deBruijn64tab", Rows.laid_math_bits_deBruijn64tab), ("internal/strconv.uint64pow10", Rows.laid_internal_strconv_uint64pow10)]
theorem tab_is : (Rows.laid_internal_strconv_uint64pow10 : DataW Unit) = Lib.tabData .u64 Lib.pow10Tab := rfl
theorem door_met (os : Os) (args : Array Value) : laidMetH Tryd.prog laid3 ((World.doorLaid Tryd.prog 4000 os).forCall (fun _ _ => 0) ⟨#[], args, []⟩).memory :=
  laidMetH_of_parts3 (fuel := 8) (laidMet_of_run' 8 (by kernel_rfl) (by kernel_rfl)) (by kernel_rfl) (by kernel_rfl)
theorem tab_of_laid {W : World} (h : laidMetH Tryd.prog laid3 W) : TabOk W := by
  rw [MakeChecks.laidMetH_plain _ _ _ (by kernel_rfl)] at h
  obtain ⟨ps, ⟨g0, t0, cs0, f0, p0, q0, hg0, ht0, hv0, hd0, ⟨g1, t1, cs1, f1, p1, q1, hg1, ht1, hv1, hd1, ⟨g2, t2, cs2, f2, p2, q2, hg2, ht2, hv2, hd2, _, _⟩, _⟩, _⟩, _, _⟩ := h
  obtain rfl := Option.some.inj ((show Tryd.prog.globalNamed "internal/strconv.uint64pow10" = some 0 by kernel_rfl).symm.trans hg2)
  obtain rfl := Option.some.inj ((show (Tryd.prog.globals[0]?).map (·.type) = some 131 by kernel_rfl).symm.trans ht2)
  rw [tab_is] at hd2
  show World.var? _ _ _ = _
  rw [hv2, ← Lib.cells_of_tab Tryd.underlying131 Tryd.underlying114 (by kernel_rfl) (by kernel_rfl) hd2]
end Go.Proofs.YtkcnpkkihbpnmaaDoor
/- A strings.Builder of the function's own: written to. Conditions: at most 10^8 bytes. -/
namespace Go.Proofs.YtkcnpkkihbpnmaaDoor
set_option maxRecDepth 2000
open Go.ChangeShapes Go.WideShapes Go.ChangeAt Go.RowKit

theorem Tryd.infoBd : (Tryd.prog.info? 57).map (·.size) = some 2 := by kernel_rfl
theorem Tryd.infoBy : (Tryd.prog.info? 5).map (fun i => (i.zero, i.size, i.bytes)) = some (some (.int .u8 0), 1, 1) := by kernel_rfl
theorem Tryd.liesBd : liesAt Tryd.prog Tryd.prog.depth 57 (2 / Tryd.prog.cellsOf 57) 0 57 1 = true := by kernel_rfl
/-- The builder in block b holds a text; its own blocks lie below Q. -/
def BdX (b Q : Nat) (s : ByteArray) (w : World) : Prop := ∃ v, (w.heap[b]? = some (.cells #[.pointer none, v] 57 (0, 0)) ∨ w.heap[b]? = some (.cells #[.pointer (some ⟨b, 0, none⟩), v] 57 (0, 0))) ∧ w.ownsRow b 5 1 v s.size (Lib.strCells s) ∧ b < Q ∧ ∀ g, v.ownBlock = some g → g < Q
theorem strCells_app (s u : ByteArray) : Lib.strCells (s ++ u) = Lib.strCells s ++ Lib.strCells u := by
  unfold Lib.strCells
  rw [← List.map_append]
  congr 1
theorem BdX.is {b Q : Nat} {s : ByteArray} {w : World} (h : BdX b Q s w) : Lib.IsBuilder 57 5 b b (Lib.strCells s) w := by
  obtain ⟨v, hb, ho, _, _⟩ := h
  have ho' : w.ownsRow b 5 1 v (Lib.strCells s).length (Lib.strCells s) := by rw [Lib.strCells_length]; exact ho
  rcases hb with hb | hb
  · exact .inl ⟨Nat.le_refl _, v, hb, ho', Lib.ownBlock_ne ho hb (by decide)⟩
  · exact .inr ⟨Nat.le_refl _, v, hb, ho', Lib.ownBlock_ne ho hb (by decide)⟩
theorem BdX.fresh (w : World) : BdX w.heap.size (w.heap.size + 1) ByteArray.empty (w.alloc (.cells #[.pointer none, .slice none 0 0] 57)) :=
  ⟨.slice none 0 0, .inl (heap_alloc_new w _), World.ownsRow_nil _ _ _ _, by omega, fun g e => by simp [Value.ownBlock] at e⟩
theorem BdX.below {b Q : Nat} {s : ByteArray} {w w' : World} (h : BdX b Q s w) (hb : Below w.heap.size w w') : BdX b Q s w' := by
  obtain ⟨v, h1, h2, h3, h4⟩ := h
  refine ⟨v, ?_, ownsRow_below h2 hb, h3, h4⟩
  rcases h1 with h1 | h1
  · exact .inl ((hb.block b (Array.getElem?_eq_some_iff.1 h1).1).trans h1)
  · exact .inr ((hb.block b (Array.getElem?_eq_some_iff.1 h1).1).trans h1)
theorem BdX.mono {b Q Q' : Nat} {s : ByteArray} {w : World} (h : BdX b Q s w) (hQ : Q ≤ Q') : BdX b Q' s w := by
  obtain ⟨v, h1, h2, h3, h4⟩ := h
  exact ⟨v, h1, h2, by omega, fun g e => Nat.lt_of_lt_of_le (h4 g e) hQ⟩
set_option maxHeartbeats 1000000 in
theorem bCheck_used (b : Nat) (w : World) (h0 : w.cell? ⟨b, 0, none⟩ = some (.pointer (some ⟨b, 0, none⟩))) :
    Calls Tryd.prog 33 #[.pointer (some ⟨b, 0, none⟩)] w fun e w' => e = .returned (.tuple #[]) ∧ w' = w := by
  obtain ⟨j, hj, _⟩ := Option.map_eq_some_iff.1 Tryd.infoBd
  go_enter Tryd.func33, Tryd.ntmps33
  go_wp2
  rw [Lib.run_neq_ptr_same w _ Tryd.underlying54 hj]
  go_wp2
  go_end0
  exact ⟨rfl, rfl⟩
set_option maxHeartbeats 1000000 in
theorem bCheck_fresh (b : Nat) (w : World) (h0 : w.cell? ⟨b, 0, none⟩ = some (.pointer none)) (hsh : w.shape? b = some (57, 2)) (hfz : w.frozen? ⟨b, 0, none⟩ = false) :
    Calls Tryd.prog 33 #[.pointer (some ⟨b, 0, none⟩)] w fun e w' => e = .returned (.tuple #[]) ∧ w' = w.setCell ⟨b, 0, none⟩ (.pointer (some ⟨b, 0, none⟩)) := by
  obtain ⟨j, hj, hjs⟩ := Option.map_eq_some_iff.1 Tryd.infoBd
  go_enter Tryd.func33, Tryd.ntmps33
  go_wp2
  rw [Lib.run_to_unsafe w ⟨b, 0, none⟩ Tryd.underlying54 Tryd.underlying104 hj (by rw [hjs]; decide) hsh (Nat.zero_lt_succ 1)]
  simp only [Result.andThen]
  rw [Oper.upon_value]
  go_wp2
  rw [run_callFunc_extern Tryd.func44 (by kernel_rfl) (by kernel_rfl) (by kernel_rfl) (e := Extern.AbiNoEscape.same) (by kernel_rfl)]
  rw [Lib.run_noEscape]
  simp only [Result.andThen]
  rw [Oper.upon_value]
  go_wp2
  rw [Lib.run_from_unsafe w ⟨b, 0, none⟩ Tryd.underlying104 Tryd.underlying54 hj hsh Tryd.liesBd]
  simp only [Result.andThen]
  rw [Oper.upon_value]
  go_wp2
  go_end0
  exact ⟨rfl, rfl⟩
theorem grown_bd (w : World) (b i : Nat) (x : Value) : w.grownBy (w.setCell ⟨b, i, none⟩ x) (some b) := ⟨rfl, rfl, rfl, by simp [World.setCell], fun k _ hk => Below.heap_setCell _ _ _ _ (fun e => hk (by simp [e]))⟩
/-- Behind the check the builder is used; nothing else has turned. -/
theorem bCheck_any (b : Nat) (v : Value) (w : World) (h : w.heap[b]? = some (.cells #[.pointer none, v] 57 (0, 0)) ∨ w.heap[b]? = some (.cells #[.pointer (some ⟨b, 0, none⟩), v] 57 (0, 0))) :
    Calls Tryd.prog 33 #[.pointer (some ⟨b, 0, none⟩)] w fun e w' => e = .returned (.tuple #[]) ∧ w'.heap[b]? = some (.cells #[.pointer (some ⟨b, 0, none⟩), v] 57 (0, 0)) ∧ w.grownBy w' (some b) ∧ w'.heap.size = w.heap.size ∧ Below b w w' := by
  rcases h with h | h
  · refine (bCheck_fresh b w (by rw [Lib.cell_of_heap h]; rfl) (by simp [World.shape?, h]) (Lib.frozen_of_heap h 0)).mono ?_
    rintro e w' ⟨rfl, rfl⟩
    refine ⟨rfl, ?_, grown_bd w b 0 _, by simp [World.setCell], (Below.refl b w).setCell (p := ⟨b, 0, none⟩) (Nat.le_refl b) _⟩
    simp [World.setCell, Array.getElem?_modify, h]
  · refine (bCheck_used b w (by rw [Lib.cell_of_heap h]; rfl)).mono ?_
    rintro e w' ⟨rfl, rfl⟩
    exact ⟨rfl, h, ⟨rfl, rfl, rfl, Nat.le_refl _, fun _ _ _ => rfl⟩, rfl, Below.refl b _⟩
set_option maxHeartbeats 2000000 in
theorem bWrite_any (b Q : Nat) (s u : ByteArray) (w : World) (h : BdX b Q s w) (hQ : Q ≤ w.heap.size) (hl : s.size + u.size ≤ 100000000) :
    Calls Tryd.prog 17 #[.pointer (some ⟨b, 0, none⟩), .string u] w fun e w' => (∃ r, e = .returned r) ∧ BdX b w'.heap.size (s ++ u) w' ∧ Below b w w' ∧ ∀ j, Q ≤ j → j < w.heap.size → w'.heap[j]? = w.heap[j]? := by
  obtain ⟨i0, hi, hz0, hz1, hz2⟩ := info_parts Tryd.infoBy
  obtain ⟨v, hb, ho, hbQ, hg⟩ := h
  have hne : v.ownBlock ≠ some b := by rcases hb with hb | hb <;> exact Lib.ownBlock_ne ho hb (by decide)
  have K1 : Hid _ := bCheck_any b v w hb
  have KO : Hid (w.ownsRow b 5 1 v s.size (Lib.strCells s)) := ho
  have KX : Hid (b < Q ∧ Q ≤ w.heap.size ∧ v.ownBlock ≠ some b ∧ ∀ g, v.ownBlock = some g → g < Q) := ⟨hbQ, hQ, hne, hg⟩
  clear hb ho hbQ hne hg hQ
  go_enter Tryd.func17, Tryd.ntmps17
  go_wp2_with fail
  refine Calls.mono K1.out ?_
  rintro e w1 ⟨rfl, hb1, g1, s1, b1⟩
  have o1 : w1.ownsRow b 5 1 v s.size (Lib.strCells s) := KO.out.kept g1 (Or.inr KX.out.2.2.1)
  have c1 : w1.cell? ⟨b, 1, none⟩ = some v := by rw [Lib.cell_of_heap hb1]; rfl
  have KG1 : Hid (w.grownBy w1 (some b) ∧ w1.heap.size = w.heap.size ∧ Below b w w1 ∧ w1.heap[b]? = some (.cells #[.pointer (some ⟨b, 0, none⟩), v] 57 (0, 0))) := ⟨g1, s1, b1, hb1⟩
  have HO1 : Hid (w1.ownsRow b 5 1 v s.size (Lib.strCells s)) := o1
  clear g1 s1 b1 hb1 o1 K1
  go_wp2_with (at_builtin; refine Lib.wpList_append_own_string _ rfl _ _ 55 9 rfl b 5 i0 Tryd.underlying55 Tryd.underlying9 hi hz0 hz1 hz2 _ s.size _ rfl HO1.out u rfl ?c3 ?c4 ?c5 ?_)
  case c3 => unfold maxLen; omega
  case c4 => omega
  case c5 => have := KG1.out.2.1; have := KX.out.1; have := KX.out.2.1; omega
  intro v' w2 hown' hgrow _
  have hlt : b < w1.heap.size := by have := KG1.out.2.1; have := KX.out.1; have := KX.out.2.1; omega
  have hb2 : w2.heap[b]? = some (.cells #[.pointer (some ⟨b, 0, none⟩), v] 57 (0, 0)) := by
    rw [hgrow.block b hlt (fun e => KX.out.2.2.1 e.symm)]
    exact KG1.out.2.2.2
  have d0 : w2.cell? ⟨b, 0, none⟩ = some (.pointer (some ⟨b, 0, none⟩)) := by rw [Lib.cell_of_heap hb2]; rfl
  have d1 : w2.cell? ⟨b, 1, none⟩ = some v := by rw [Lib.cell_of_heap hb2]; rfl
  have f1 : w2.frozen? ⟨b, 1, none⟩ = false := Lib.frozen_of_heap hb2 1
  have hne' := Lib.ownBlock_ne hown' hb2 (by decide)
  have HF : Hid (BdX b (w2.setCell ⟨b, 1, none⟩ v').heap.size (s ++ u) (w2.setCell ⟨b, 1, none⟩ v') ∧ Below b w (w2.setCell ⟨b, 1, none⟩ v') ∧ ∀ j, Q ≤ j → j < w.heap.size → (w2.setCell ⟨b, 1, none⟩ v').heap[j]? = w.heap[j]?) := by
    have gs := grown_bd w2 b 1 v'
    have s2 := hgrow.size
    refine ⟨⟨v', .inr ?_, ?_, ?_, fun g e => ?_⟩, ?_, fun j hj hj' => ?_⟩
    · simp [World.setCell, Array.getElem?_modify, hb2]
    · rw [strCells_app, ByteArray.size_append]
      exact hown'.kept gs (Or.inr hne')
    · have := gs.size; omega
    · exact ((hown'.kept gs (Or.inr hne')).lt g e).2
    · exact (KG1.out.2.2.1.grown hgrow (by omega) (fun k hk => (HO1.out.lt k hk).1)).setCell (p := ⟨b, 1, none⟩) (Nat.le_refl b) _
    · have hjb : j ≠ b := by have := KX.out.1; omega
      rw [gs.block j (by have := KG1.out.2.1; omega) (fun e => hjb (by simpa using e)), hgrow.block j (by have := KG1.out.2.1; omega) (fun e => by have := KX.out.2.2.2 j e.symm; omega)]
      exact KG1.out.1.block j hj' (fun e => hjb (by simpa using e))
  obtain ⟨ao, n', cap, rfl⟩ : ∃ ao n' cap, v' = .slice ao n' cap := by
    rcases hown'.2 with ⟨hv, _⟩ | ⟨g, cap, cur, hv, _⟩
    · exact ⟨_, _, _, hv⟩
    · exact ⟨_, _, _, hv⟩
  clear hown' hgrow hb2 hne'
  go_wp2
  go_ret2
  exact ⟨⟨_, rfl⟩, HF.out.1, HF.out.2.1, HF.out.2.2⟩
end Go.Proofs.YtkcnpkkihbpnmaaDoor
