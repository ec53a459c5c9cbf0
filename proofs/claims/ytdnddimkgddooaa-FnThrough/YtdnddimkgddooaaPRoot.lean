/- The program's polynomials that are 0 at places. Conditions: byte numbers, at most 100 places. -/
import Derived.Test.YtdnddimkgddooaaPProd
namespace Go.Proofs.Ytdnddimkgddooaa
open Go.ChangeShapes Go.WideShapes Go.ChangeAt Go.RowKit

theorem Try.infoPoly : (Try.prog.info? 37).map (fun i => (i.zero, i.size, i.bytes)) = some (some (.slice none 0 0), 1, 24) := by kernel_rfl
def rowP (G : Nat → Nat) (n k : Nat) : List Value := (List.range n).map fun i => if i < k then .slice (some ⟨G i, 0, none⟩) 2 2 else .slice none 0 0
theorem rowP_len (G : Nat → Nat) (n k : Nat) : (rowP G n k).length = n := by simp [rowP]
theorem rowP_zero (G : Nat → Nat) (n : Nat) : rowP G n 0 = List.replicate n (.slice none 0 0) := by
  apply List.ext_getElem?
  intro i
  by_cases hi : i < n
  · simp [rowP, hi]
  · rw [List.getElem?_eq_none (by rw [rowP_len]; omega), List.getElem?_eq_none (by simp; omega)]
theorem rowP_set (G : Nat → Nat) (n k v : Nat) (h : k < n) : (rowP G n k).set k (.slice (some ⟨v, 0, none⟩) 2 2) = rowP (fun i => if i = k then v else G i) n (k + 1) := by
  apply List.ext_getElem?
  intro i
  rw [List.getElem?_set]
  by_cases hi : i < n
  · by_cases e : k = i
    · subst e
      simp [rowP, h]
    · by_cases h2 : i < k
      · simp [rowP, hi, e, h2, Ne.symm e, show i < k + 1 by omega]
      · simp [rowP, hi, e, h2, show ¬ i < k + 1 by omega]
  · by_cases e : k = i
    · omega
    · rw [if_neg e, List.getElem?_eq_none (by rw [rowP_len]; omega), List.getElem?_eq_none (by rw [rowP_len]; omega)]
theorem l2_els (w : World) (x : Nat) : Els (w.alloc (.cells #[.int .u8 (x : Int), .int .u8 1] 49)) (some ⟨w.heap.size, 0, none⟩) 2 2 (Gp.l2 x) := by
  refine ⟨Nat.le_refl _, .inr ⟨_, rfl, by simp, fun i hi => ?_⟩⟩
  rw [cell_of_row _ _ _ _ _ _ (heap_alloc_new w _)]
  match i, hi with
  | 0, _ => rfl
  | 1, _ => rfl
theorem Els.alloc {w : World} {a : Option Addr} {n cap : Nat} {f : Nat → Nat} (h : Els w a n cap f) (o : Obj) : Els (w.alloc o) a n cap f :=
  h.below ((Below.refl _ _).alloc (Nat.le_refl _) _)

theorem alloc_set_swap (w : World) (o : Obj) {g k : Nat} (v : Value) (h : g < w.heap.size) : (w.alloc o).setCell ⟨g, k, none⟩ v = (w.setCell ⟨g, k, none⟩ v).alloc o := by
  exact World.setCell_alloc_past o g k v h
set_option maxHeartbeats 1000000 in
theorem rootsAt_any (a : Option Addr) (n cap : Nat) (x : Nat → Nat) (w : World) (h : Els w a n cap x) (hn : n ≤ 100) :
    Calls Try.prog 51 #[.slice a n cap] w fun e w' => ∃ G : Nat → Nat, e = .returned (.slice (some ⟨w.heap.size, 0, none⟩) n n) ∧ Facs w' w.heap.size n (fun i => some ⟨G i, 0, none⟩) (fun _ => 2) (fun _ => 2) (fun i => Gp.l2 (x i)) ∧ Below w.heap.size w w' := by
  obtain ⟨i0, hi, hz0, hz1, hz2⟩ := info_parts Try.infoPoly
  go_enter Try.func51, Try.ntmps51
  go_wp2_with (at_make; refine wpList_make_full _ rfl _ _ 57 rfl w.heap.size 37 i0 (.slice none 0 0) 1 Try.underlying57 hi hz0 hz1 .i64 .i64 _ _ n rfl rfl rfl rfl (by rw [hz2]; omega) (by unfold maxLen; omega) (Nat.le_refl _) ?_; intro w1 hown hgrow)
  have hb1 : Below w.heap.size w w1 := (Below.refl _ _).grown hgrow (Nat.le_refl _) (by simp)
  have ho1 : w1.ownsRow w.heap.size 37 1 (.slice (some ⟨w.heap.size, 0, none⟩) n n) n (rowP (fun _ => 0) n 0) := by
    rw [rowP_zero]
    simpa [Value.cells, toList_madeCells_one] using hown
  clear hown hgrow
  go_loopw [11] (fun i wr => ∃ (k : Nat) (G : Nat → Nat), k ≤ n ∧ i = .int .i64 k ∧ wr.ownsRow w.heap.size 37 1 (.slice (some ⟨w.heap.size, 0, none⟩) n n) n (rowP G n k) ∧ (∀ i, i < k → Els wr (some ⟨G i, 0, none⟩) 2 2 (Gp.l2 (x i)) ∧ G i ≠ w.heap.size) ∧ Below w.heap.size w wr) (fun i _ => n - (intOf i).toNat)
  case atStart => exact ⟨0, _, Nat.zero_le _, rfl, ho1, fun i hi => by omega, hb1⟩
  case round =>
    obtain ⟨k, G, hk, rfl, hown, hels, hbel⟩ := hrel
    clear ho1 hb1
    by_cases hlt : k < n
    · have hltI : (k : Int) < (n : Int) := by omega
      obtain ⟨b, rfl, hc⟩ := (h.below hbel).at (i := k) hlt
      have hgl := (World.ownsRow.lt hown w.heap.size rfl).2
      have hal := World.ownsRow.alloc hown (.cells #[.int .u8 ((x k : Nat) : Int), .int .u8 1] 49)
      have hst := World.ownsRow.stored hal k (.slice (some ⟨wr.heap.size, 0, none⟩) 2 2)
      rw [rowP_set G n k _ hlt] at hst
      have hg2 : (wr.alloc (.cells #[.int .u8 ((x k : Nat) : Int), .int .u8 1] 49)).grownBy ((wr.alloc (.cells #[.int .u8 ((x k : Nat) : Int), .int .u8 1] 49)).setCell ⟨w.heap.size, k, none⟩ (.slice (some ⟨wr.heap.size, 0, none⟩) 2 2)) (some w.heap.size) :=
        ⟨rfl, rfl, rfl, by simp, fun j _ hj => heap_setCell_other _ ⟨w.heap.size, k, none⟩ j _ (fun e => hj (by simp [e]))⟩
      have hb2 : Below w.heap.size w ((wr.alloc (.cells #[.int .u8 ((x k : Nat) : Int), .int .u8 1] 49)).setCell ⟨w.heap.size, k, none⟩ (.slice (some ⟨wr.heap.size, 0, none⟩) 2 2)) := (hbel.alloc hbel.size _).setCell (Nat.le_refl _) _
      have hels2 : ∀ i, i < k + 1 → Els ((wr.alloc (.cells #[.int .u8 ((x k : Nat) : Int), .int .u8 1] 49)).setCell ⟨w.heap.size, k, none⟩ (.slice (some ⟨wr.heap.size, 0, none⟩) 2 2)) (some ⟨(if i = k then wr.heap.size else G i), 0, none⟩) 2 2 (Gp.l2 (x i)) ∧ (if i = k then wr.heap.size else G i) ≠ w.heap.size := by
        intro i hi
        by_cases e : i = k
        · subst e
          rw [if_pos rfl]
          refine ⟨(l2_els wr (x i)).grown hg2 (fun b e => ?_), by omega⟩
          cases e
          omega
        · rw [if_neg e]
          obtain ⟨h1, h2⟩ := hels i (by omega)
          refine ⟨(h1.alloc _).grown hg2 (fun b e => ?_), h2⟩
          cases e
          exact h2
      obtain ⟨old, hold⟩ : ∃ v, (wr.alloc (.cells #[.int .u8 ((x k : Nat) : Int), .int .u8 1] 49)).cell? ⟨w.heap.size, k, none⟩ = some v := by
        rw [hal.cellAt k (by omega)]
        exact ⟨_, List.getElem?_eq_getElem (by rw [hal.1]; omega)⟩
      have hfr := hal.frozenAt k
      have HO : Hid _ := And.intro hst.1 (And.intro hels2 hb2)
      clear hst hal hels2 hb2 hg2 hown hels h
      go_wp2
      go_roundw
      case rel =>
        obtain ⟨r1, r2, r3⟩ := HO.out
        rw [alloc_set_swap wr _ _ hgl] at r1 r3
        simp only [alloc_set_swap wr _ _ hgl] at r2
        exact ⟨k + 1, _, by omega, by go_num, r1, r2, r3⟩
      case measure => simp [intOf] <;> omega
    · obtain rfl : k = n := by omega
      have HO : Hid (Facs wr w.heap.size k (fun i => some ⟨G i, 0, none⟩) (fun _ => 2) (fun _ => 2) (fun i => Gp.l2 (x i))) := by
        intro i hi
        refine ⟨?_, (hels i hi).1⟩
        rw [hown.cellAt i (by omega)]
        simp [rowP, hi]
      clear hown hels h
      go_wp2
      go_ret
      exact ⟨rfl, ⟨G, HO.out⟩, hbel⟩
end Go.Proofs.Ytdnddimkgddooaa
