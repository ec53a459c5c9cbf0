import Derived.Test.YtaenoiffamgcfaaGreatDoorM6
import Derived.Deep.AppendLies
set_option maxHeartbeats 8000000
set_option maxRecDepth 2000
open Go.ChangeShapes Go.WideShapes Go.ChangeAt Go.RowKit
namespace Go.Proofs.YtaenoiffamgcfaaGreatDoor
def Under (a : Option Addr) (n g : Nat) : Prop := 0 < n → ∀ b off, a = some ⟨b, off, none⟩ → b < g
theorem CodeAt.under {w : World} {a : Option Addr} {n g : Nat} (h : CodeAt w a n) (hg : w.heap.size ≤ g) : Under a n g := by
 intro hn b off e
 obtain ⟨b', off', x, e', hc, _⟩ := h.2 0 hn
 rw [e] at e'
 simp at e'
 have := block_lt_of_cell hc
 simp at this
 omega
theorem Cur.far {w w' : World} {g n cap r : Nat} {a : Option Addr} (h : Cur w g a n cap) (hg : w.grownBy w' (some r)) (hr : g < r) (hab : Under a n g) : Cur w' g a n cap := by
 obtain ⟨hn, ⟨i, hh, hi, hblk⟩, hby⟩ := h
 refine ⟨hn, ⟨i, hh, hi, ?_⟩, ?_⟩
 ·rw [hg.block g (Array.getElem?_eq_some_iff.1 hblk).1 (by simp; omega)]; exact hblk
 ·intro j hj
  obtain ⟨b, off, x, e, hbg, hc, hx⟩ := hby j hj
  have := hab (by omega) b off e
  exact ⟨b, off, x, e, hbg, hg.cell hc (by simp; omega), hx⟩
theorem grown_new {w0 w w' : World} {g r : Nat} (h : w0.grownBy w (some g)) (k : w.grownBy w' (some r)) (hr : w0.heap.size ≤ r) : w0.grownBy w' (some g) :=
 ⟨k.os.trans h.os, k.tape.trans h.tape, k.output.trans h.output, Nat.le_trans h.size k.size, fun j hj hn => (k.block j (Nat.lt_of_lt_of_le hj h.size) (by simp; omega)).trans (h.block j hj hn)⟩
theorem bytes_any (g n cap : Nat) (a : Option Addr) (m : Nat) (w : World) (hc : Cur w g a n cap) (hab : Under a n g) (hm : m ≤ 4000) :
  Calls Tryz.prog 48 #[.pointer (some ⟨g, 0, none⟩), .int .i64 (m : Int)] w fun e w' => ∃ s : ByteArray, s.size = m ∧ e = .returned (.string s) ∧ w.grownBy w' (some g) ∧ Cur w' g a n cap := by
 obtain ⟨i0, hi, hz0, hz1, hz2⟩ := info_parts Tryz.infoByte
 have hgl := hc.lt
 go_enter Tryz.func48, Tryz.ntmps48
 go_wp2
 have ho1 : (w.alloc (.cells #[] 5)).ownsRow w.heap.size 5 1 (.slice (some ⟨w.heap.size, 0, none⟩) 0 0) 0 (([] : List Int).map (Value.int .u8)) :=
  World.ownsRow_lit w #[] 0 (Nat.le_refl _) (by unfold maxLen; omega) rfl
 go_loopw [5, 6] (fun v i wr => ∃ (k gg cap2 : Nat) (xs : List Int), k ≤ m ∧ i = .int .i64 k ∧ v = .slice (some ⟨gg, 0, none⟩) k cap2 ∧ w.heap.size ≤ gg ∧ wr.ownsRow w.heap.size 5 1 (.slice (some ⟨gg, 0, none⟩) k cap2) k (xs.map (Value.int .u8)) ∧ w.grownBy wr (some g) ∧ Cur wr g a n cap) (fun _ i _ => m - (intOf i).toNat)
 case atStart => exact ⟨0, _, _, [], Nat.zero_le _, rfl, rfl, Nat.le_refl _, ho1, World.grownBy_alloc _ _ _, hc.alloc _⟩
 case round =>
  obtain ⟨k, gg, cap2, xs, hk, rfl, rfl, hgg, hown, hgr, hcr⟩ := hrel
  clear ho1 hc
  by_cases hlt : k < m
  ·have hlti : (k : Int) < (m : Int) := by omega
   go_wp2_with fail
   refine (belowN_any g n cap a _ _ hcr).mono ?_
   rintro e w1 ⟨x, x0, x1, _, rfl, hg1, hc1⟩
   have x2 := x1 (by omega)
   have hown1 := hown.kept hg1 (.inr (by simp [Value.ownBlock]; omega))
   have hs1 : w.heap.size ≤ w1.heap.size := Nat.le_trans hgr.size hg1.size
   clear hown hcr x1
   go_wp2_with (at_builtin; refine wpList_append_lies _ (by rfl) _ _ 22 (by rfl) w.heap.size 5 i0 (.int .u8 0) 1 1 Tryz.underlying22 hi hz0 hz1 hz2 rfl (by decide) (.slice (some ⟨gg, 0, none⟩) k cap2) k _ (by rfl) (hown1.alloc _) ⟨w1.heap.size, 0, none⟩ 1 1 [.int .u8 x] (by rfl) (by rfl) (World.news_of_block (cs := #[.int .u8 x]) (t := 5) (fr := (0, 0)) (heap_alloc_new w1 _)) (by simp [Value.oneCell']) (by omega) (by unfold maxLen; omega) (by omega) (by simp; omega) (w1.heap.size + 1) (by simp) ?_; intro g2 cap3 w2 hown2 hgrow hat hltg)
   have hgrow' : (w1.alloc (.cells #[.int .u8 x] 5)).grownBy w2 (some gg) := hgrow
   go_roundw
   case rel => exact ⟨k + 1, g2, cap3, xs ++ [x], by omega, by go_num, rfl, (hown2.lt g2 rfl).1, by rw [List.map_append]; exact hown2, grown_new (grownBy_trans (grownBy_trans hgr hg1) (World.grownBy_alloc w1 _ _)) hgrow' hgg, (hc1.alloc _).far hgrow' (by omega) hab⟩
   case measure => simp [intOf]; omega
  ·have e : k = m := by omega
   subst e
   have hl : xs.length = k := by simpa using hown.1
   have HL : Hid (xs.length = k) := hl
   clear hl
   have hcv := run_convert_bytes_arg (P := Tryz.prog) wr 22 5 Tryz.underlying22 Tryz.underlying5 gg 0 k cap2 xs HL.out (fun i hi => by
    rw [Nat.zero_add, hown.cellAt i (by omega)]
    simp [HL.out, hi]) 9 Tryz.underlying9
   go_wp2
   go_ret
   exact ⟨_, by rw [strOfNums_size]; exact HL.out, rfl, hgr, hcr⟩
end Go.Proofs.YtaenoiffamgcfaaGreatDoor
