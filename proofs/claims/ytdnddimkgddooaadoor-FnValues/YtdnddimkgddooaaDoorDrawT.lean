/- The draws of texts and lists: what each gives, at any bytes. Condition: at most 2^20 bytes of code, and a text or list of at most 16. -/
import Derived.Test.YtdnddimkgddooaaDoorDraws
import Derived.Test.YtdnddimkgddooaaDoorTexts
import Derived.Deep.AppendLies
namespace Go.Proofs.YtdnddimkgddooaaDoor
open Go.ChangeShapes Go.WideShapes Go.ChangeAt Go.RowKit

/-- The code's bytes lie below the cursor. -/
def Under (a : Option Addr) (n g : Nat) : Prop := 0 < n → ∀ b off, a = some ⟨b, off, none⟩ → b < g
theorem CodeAt.under {w : World} {a : Option Addr} {n g : Nat} (h : CodeAt w a n) (hg : w.heap.size ≤ g) : Under a n g := by
  intro hn b off e
  obtain ⟨b', off', x, e', hc, _⟩ := h.2 0 hn
  rw [e] at e'
  simp at e'
  have := block_lt_of_cell hc
  simp at this
  omega
theorem Cur.far {w w' : World} {g n cap r : Nat} {a : Option Addr} (h : Cur w g a n cap) (hg : w.grownBy w' (some r)) (hr : g < r) (hab : Under a n g) : Cur w' g a n cap := by
  obtain ⟨hn, ⟨i, hh, hi, hblk⟩, hby⟩ := h
  refine ⟨hn, ⟨i, hh, hi, ?_⟩, ?_⟩
  · rw [hg.block g (Array.getElem?_eq_some_iff.1 hblk).1 (by simp; omega)]; exact hblk
  · intro j hj
    obtain ⟨b, off, x, e, hbg, hc, hx⟩ := hby j hj
    have := hab (by omega) b off e
    exact ⟨b, off, x, e, hbg, hg.cell hc (by simp; omega), hx⟩
/-- Of what was there at the first, block 'g' alone may have turned. -/
theorem grown_new {w0 w w' : World} {g r : Nat} (h : w0.grownBy w (some g)) (k : w.grownBy w' (some r)) (hr : w0.heap.size ≤ r) : w0.grownBy w' (some g) :=
  ⟨k.os.trans h.os, k.tape.trans h.tape, k.output.trans h.output, Nat.le_trans h.size k.size, fun j hj hn => (k.block j (Nat.lt_of_lt_of_le hj h.size) (by simp; omega)).trans (h.block j hj hn)⟩

set_option maxHeartbeats 2000000 in
theorem list_any (g n cap : Nat) (a : Option Addr) (m : Nat) (w : World) (hc : Cur w g a n cap) (hab : Under a n g) (hm : m ≤ 1000) :
    Calls Tryd.prog 46 #[.pointer (some ⟨g, 0, none⟩), .int .i64 (m : Int)] w fun e w' => ∃ (gg cap2 : Nat) (xs : List Int), e = .returned (.slice (some ⟨gg, 0, none⟩) m cap2) ∧ w.heap.size ≤ gg ∧ w'.ownsRow w.heap.size 3 1 (.slice (some ⟨gg, 0, none⟩) m cap2) m (xs.map (Value.int .i64)) ∧ w.grownBy w' (some g) ∧ Cur w' g a n cap := by
  obtain ⟨i0, hi, hz0, hz1, hz2⟩ := info_parts Tryd.infoInt
  have hgl := hc.lt
  go_enter Tryd.func46, Tryd.ntmps46
  go_wp2
  have ho1 : (w.alloc (.cells #[] 3)).ownsRow w.heap.size 3 1 (.slice (some ⟨w.heap.size, 0, none⟩) 0 0) 0 (([] : List Int).map (Value.int .i64)) :=
    World.ownsRow_lit w #[] 0 (Nat.le_refl _) (by unfold maxLen; omega) rfl
  go_loopw [5, 6] (fun v i wr => ∃ (k gg cap2 : Nat) (xs : List Int), k ≤ m ∧ i = .int .i64 k ∧ v = .slice (some ⟨gg, 0, none⟩) k cap2 ∧ w.heap.size ≤ gg ∧ wr.ownsRow w.heap.size 3 1 (.slice (some ⟨gg, 0, none⟩) k cap2) k (xs.map (Value.int .i64)) ∧ w.grownBy wr (some g) ∧ Cur wr g a n cap) (fun _ i _ => m - (intOf i).toNat)
  case atStart => exact ⟨0, _, _, [], Nat.zero_le _, rfl, rfl, Nat.le_refl _, ho1, World.grownBy_alloc _ _ _, hc.alloc _⟩
  case round =>
    obtain ⟨k, gg, cap2, xs, hk, rfl, rfl, hgg, hown, hgr, hcr⟩ := hrel
    clear ho1 hc
    by_cases hlt : k < m
    · have hlti : (k : Int) < (m : Int) := by omega
      go_wp2_with fail
      refine (belowN_any g n cap a _ _ hcr).mono ?_
      rintro e w1 ⟨x, x0, x1, _, rfl, hg1, hc1⟩
      have hown1 := hown.kept hg1 (.inr (by simp [Value.ownBlock]; omega))
      have hs1 : w.heap.size ≤ w1.heap.size := Nat.le_trans hgr.size hg1.size
      clear hown hcr x1
      go_wp2_with (at_builtin; refine wpList_append_lies _ (by rfl) _ _ 24 (by rfl) w.heap.size 3 i0 (.int .i64 0) 1 8 Tryd.underlying24 hi hz0 hz1 hz2 rfl (by decide) (.slice (some ⟨gg, 0, none⟩) k cap2) k _ (by rfl) (hown1.alloc _) ⟨w1.heap.size, 0, none⟩ 1 1 [.int .i64 x] (by rfl) (by rfl) (World.news_of_block (cs := #[.int .i64 x]) (t := 3) (fr := (0, 0)) (heap_alloc_new w1 _)) (by simp [Value.oneCell']) (by omega) (by unfold maxLen; omega) (by omega) (by simp; omega) (w1.heap.size + 1) (by simp) ?_; intro g2 cap3 w2 hown2 hgrow hat hltg)
      have hgrow' : (w1.alloc (.cells #[.int .i64 x] 3)).grownBy w2 (some gg) := hgrow
      go_roundw
      case rel => exact ⟨k + 1, g2, cap3, xs ++ [x], by omega, by go_num, rfl, (hown2.lt g2 rfl).1, by rw [List.map_append]; exact hown2, grown_new (grownBy_trans (grownBy_trans hgr hg1) (World.grownBy_alloc w1 _ _)) hgrow' hgg, (hc1.alloc _).far hgrow' (by omega) hab⟩
      case measure => simp [intOf]; omega
    · have e : k = m := by omega
      subst e
      have hgsz := (hown.lt gg rfl).2
      by_cases hpos : 0 < k
      · have hposi : 0 < (k : Int) := by omega
        go_wp2_with fail
        refine (once_any g n cap a _ _ hcr).mono ?_
        rintro e w1 ⟨q, rfl, hg1, hc1⟩
        have hown1 := hown.kept hg1 (.inr (by simp [Value.ownBlock]; omega))
        clear hown hcr
        cases q
        · go_wp2
          go_ret
          exact ⟨gg, cap2, xs, rfl, hgg, hown1, grownBy_trans hgr hg1, hc1⟩
        · go_wp2_with fail
          refine (belowN_any g n cap a _ _ hc1).mono ?_
          rintro e w2 ⟨x, x0, x1, _, rfl, hg2, hc2⟩
          have x2 := x1 hposi
          obtain ⟨j, rfl⟩ := Int.eq_ofNat_of_zero_le x0
          have hj : j < k := by omega
          have hlt2 := hc2.lt
          have hown2 := hown1.kept hg2 (.inr (by simp [Value.ownBlock]; omega))
          clear hown1 x1
          go_wp2_with fail
          refine (pick_any g n cap a w2.heap.size 0 2 2 _ (hc2.alloc _) (by omega) (by omega) (by omega) (lit_cells (cs := [-1, 256]))).mono ?_
          rintro e w3 ⟨z, rfl, hg3, hc3⟩
          have hown3 := (hown2.alloc (.cells #[.int .i64 (-1), .int .i64 256] 3)).kept hg3 (.inr (by simp [Value.ownBlock]; omega))
          obtain ⟨old, hold⟩ : ∃ v, w3.cell? ⟨gg, j, none⟩ = some v := by
            rw [hown3.cellAt j (by omega)]
            exact ⟨_, List.getElem?_eq_getElem (by rw [hown3.1]; omega)⟩
          have hfr := hown3.frozenAt j
          have hst := hown3.stored j (.int .i64 z)
          have HS : Hid _ := hst
          clear hst hown3 hown2
          go_wp2
          go_ret
          refine ⟨gg, cap2, xs.set j z, rfl, hgg, ?_, grown_new (grownBy_trans (grownBy_trans (grownBy_trans hgr hg1) hg2) (grownBy_trans (World.grownBy_alloc w2 _ _) hg3)) HS.out.2 hgg, hc3.far HS.out.2 (by omega) hab⟩
          rw [List.map_set]
          exact HS.out.1
      · go_wp2
        go_ret
        exact ⟨gg, cap2, xs, rfl, hgg, hown, hgr, hcr⟩

theorem below_g {w w1 w' : World} {g : Nat} (hb1 : Below w.heap.size w w1) (hg : w.heap.size ≤ g) (h : w1.grownBy w' (some g)) : Below w.heap.size w w' :=
  hb1.trans (below_of_grownBy h hg hb1.size)

end Go.Proofs.YtdnddimkgddooaaDoor
