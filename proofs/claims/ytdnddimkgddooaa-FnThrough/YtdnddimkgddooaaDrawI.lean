/- The draw of places and values. Condition: at most 2^20 bytes of code. -/
import Derived.Test.YtdnddimkgddooaaDrawP
namespace Go.Proofs.Ytdnddimkgddooaa
open Go.ChangeShapes Go.WideShapes Go.ChangeAt Go.RowKit

set_option maxHeartbeats 4000000 in
theorem drawInter_any (a : Option Addr) (n cap : Nat) (w : World) (hc : CodeAt w a n) :
    Calls Try.prog 22 #[.slice a n cap] w fun e w' => ∃ (g1 c1 m1 g2 c2 m2 : Nat) (xs ys : List Int), e = .returned (.tuple #[.slice (some ⟨g1, 0, none⟩) m1 c1, .slice (some ⟨g2, 0, none⟩) m2 c2]) ∧ m1 ≤ 41 ∧ m2 ≤ 41 ∧ IntsAt w' (some ⟨g1, 0, none⟩) m1 xs ∧ IntsAt w' (some ⟨g2, 0, none⟩) m2 ys ∧ Below w.heap.size w w' := by
  obtain ⟨i0, hi, hz0, hz1, hz2⟩ := info_parts Try.infoInt
  go_enter Try.func22, Try.ntmps22
  go_wp2_with fail
  refine (new_any a n cap _ hc.1 hc.bytes).mono ?_
  rintro e w1 ⟨g, rfl, hg, hb1, hc1⟩
  have hab := hc.under hg
  have hgl := hc1.lt
  clear hc
  have ho1 : (w1.alloc (.cells #[] 3)).ownsRow w1.heap.size 3 1 (.slice (some ⟨w1.heap.size, 0, none⟩) 0 0) 0 (([] : List Int).map (Value.int .i64)) :=
    World.ownsRow_lit w1 #[] 0 (Nat.le_refl _) (by unfold maxLen; omega) rfl
  have hc1a := hc1.alloc (.cells #[] 3)
  clear hc1
  go_wp2_with fail
  refine (belowN_any g n cap a _ _ hc1a).mono ?_
  rintro e w2 ⟨x, x0, x1, _, rfl, hg2, hc2⟩
  have x2 := x1 (by omega)
  obtain ⟨m, rfl⟩ := Int.eq_ofNat_of_zero_le x0
  have ho2 := ho1.kept hg2 (.inr (by simp [Value.ownBlock]; omega))
  have hgr2 := grownBy_trans (World.grownBy_alloc w1 (.cells #[] 3) (some g)) hg2
  clear ho1 hc1a x1 hg2
  go_wp2_with fail
  refine (belowN_any g n cap a _ _ hc2).mono ?_
  rintro e w3 ⟨y, y0, y1, _, rfl, hg3, hc3⟩
  have y2 := y1 (by omega)
  obtain ⟨X0, rfl⟩ := Int.eq_ofNat_of_zero_le y0
  have ho3 := ho2.kept hg3 (.inr (by simp [Value.ownBlock]; omega))
  have hgr3 := grownBy_trans hgr2 hg3
  have H3 : Hid _ := And.intro ho3 (And.intro hgr3 hc3)
  clear ho2 hgr2 hc2 y1 hg3 ho3 hgr3 hc3
  go_wp2
  go_loopw [5, 7, 8] (fun v xx i wr => ∃ (k gg cap2 X : Nat) (xs : List Int), k ≤ m ∧ i = .int .i64 k ∧ xx = .int .i64 (X : Int) ∧ X ≤ 200 + 21 * k ∧ v = .slice (some ⟨gg, 0, none⟩) k cap2 ∧ w1.heap.size ≤ gg ∧ wr.ownsRow w1.heap.size 3 1 (.slice (some ⟨gg, 0, none⟩) k cap2) k (xs.map (Value.int .i64)) ∧ w1.grownBy wr (some g) ∧ Cur wr g a n cap) (fun _ _ i _ => m - (intOf i).toNat)
  case atStart => exact ⟨0, _, _, X0, [], Nat.zero_le _, rfl, rfl, by omega, rfl, Nat.le_refl _, H3.out.1, H3.out.2.1, H3.out.2.2⟩
  case round =>
    obtain ⟨k, gg, cap2, X, xs, hk, rfl, rfl, hX, rfl, hgg, hown, hgr, hcr⟩ := hrel
    clear H3
    have hsz := hgr.size
    by_cases hlt : k < m
    · have hlti : (k : Int) < (m : Int) := by omega
      go_wp2_with (at_builtin; refine wpList_append_lies _ (by rfl) _ _ 24 (by rfl) w1.heap.size 3 i0 (.int .i64 0) 1 8 Try.underlying24 hi hz0 hz1 hz2 rfl (by decide) (.slice (some ⟨gg, 0, none⟩) k cap2) k _ (by rfl) (hown.alloc _) ⟨wr.heap.size, 0, none⟩ 1 1 [.int .i64 ((X : Int) % 256)] (by rfl) (by rfl) (World.news_of_block (cs := #[.int .i64 ((X : Int) % 256)]) (t := 3) (fr := (0, 0)) (heap_alloc_new wr _)) (by simp [Value.oneCell']) (by omega) (by unfold maxLen; omega) (by omega) (by simp; omega) (wr.heap.size + 1) (by simp) ?_; intro g2 cap3 w4 hown2 hgrow hat hltg)
      have hgrow' : (wr.alloc (.cells #[.int .i64 ((X : Int) % 256)] 3)).grownBy w4 (some gg) := hgrow
      have hc4 := (hcr.alloc (.cells #[.int .i64 ((X : Int) % 256)] 3)).far hgrow' (by omega) hab
      have hgr4 := grown_new (grownBy_trans hgr (World.grownBy_alloc wr (.cells #[.int .i64 ((X : Int) % 256)] 3) (some g))) hgrow' hgg
      have hB4 := (hown2.lt g2 rfl).1
      clear hown hgr hcr hgrow hgrow' hat hltg
      refine (belowN_any g n cap a _ _ hc4).mono ?_
      rintro e w5 ⟨z, z0, z1, _, rfl, hg5, hc5⟩
      have z2 := z1 (by omega)
      obtain ⟨Z, rfl⟩ := Int.eq_ofNat_of_zero_le z0
      have hown5 := hown2.kept hg5 (.inr (by simp [Value.ownBlock]; omega))
      have H5 : Hid _ := And.intro hown5 (And.intro (grownBy_trans hgr4 hg5) hc5)
      clear hown2 hc4 hgr4 hg5 hc5 z1 hown5
      go_wp2
      go_roundw
      case rel => exact ⟨k + 1, g2, cap3, X + 1 + Z, xs ++ [(X : Int) % 256], by omega, by go_num, by go_num, by omega, rfl, hB4, by rw [List.map_append]; exact H5.out.1, H5.out.2.1, H5.out.2.2⟩
      case measure => simp [intOf] <;> omega
    · obtain rfl : k = m := by omega
      have hgll := (hown.lt gg rfl).2
      have fin : ∀ (gx cx mx : Nat) (zs : List Int) (wz : World), w1.heap.size ≤ gx → mx ≤ 41 → wz.ownsRow w1.heap.size 3 1 (.slice (some ⟨gx, 0, none⟩) mx cx) mx (zs.map (Value.int .i64)) → w1.grownBy wz (some g) → ∀ (g2 c2 m2 : Nat) (ys : List Int) (wy : World), m2 ≤ 41 → wz.heap.size ≤ g2 → wy.ownsRow wz.heap.size 3 1 (.slice (some ⟨g2, 0, none⟩) m2 c2) m2 (ys.map (Value.int .i64)) → wz.grownBy wy (some g) → (IntsAt wy (some ⟨gx, 0, none⟩) mx zs ∧ IntsAt wy (some ⟨g2, 0, none⟩) m2 ys ∧ Below w.heap.size w wy) := by
        intro gx cx mx zs wz hgx hmx hoz hgz g2 c2 m2 ys wy hm2 hg2 hoy hgy
        exact ⟨ints_grown (ownsRow.ints hoz) hgy (by omega), ownsRow.ints hoy, below_g hb1 hg (grownBy_trans hgz hgy)⟩
      have FIN : Hid _ := fin
      clear fin hb1
      go_wp2_with fail
      refine (belowN_any g n cap a _ _ hcr).mono ?_
      rintro e w4 ⟨z, z0, z1, _, rfl, hg4, hc4⟩
      have hown4 := hown.kept hg4 (.inr (by simp [Value.ownBlock]; omega))
      have hgr4 := grownBy_trans hgr hg4
      clear hown hgr hcr hg4 z1
      have hlt4 := hc4.lt
      by_cases hz0' : z = 0
      · subst hz0'
        go_wp2_with fail
        refine (pick_any g n cap a w4.heap.size 0 4 4 _ (hc4.alloc _) (by omega) (by omega) (by omega) (lit_cells (cs := [0, 7, 256, -1]))).mono ?_
        rintro e w5 ⟨u, rfl, hg5, hc5⟩
        have hown5 := (hown4.alloc (.cells #[.int .i64 0, .int .i64 7, .int .i64 256, .int .i64 (-1)] 3)).kept hg5 (.inr (by simp [Value.ownBlock]; omega))
        have hgr5 := grownBy_trans hgr4 (grownBy_trans (World.grownBy_alloc w4 _ _) hg5)
        have hs5 := hgr5.size
        clear hown4 hgr4 hg5 hc4
        go_wp2_with (at_builtin; refine wpList_append_lies _ (by rfl) _ _ 24 (by rfl) w1.heap.size 3 i0 (.int .i64 0) 1 8 Try.underlying24 hi hz0 hz1 hz2 rfl (by decide) (.slice (some ⟨gg, 0, none⟩) k cap2) k _ (by rfl) (hown5.alloc _) ⟨w5.heap.size, 0, none⟩ 1 1 [.int .i64 u] (by rfl) (by rfl) (World.news_of_block (cs := #[.int .i64 u]) (t := 3) (fr := (0, 0)) (heap_alloc_new w5 _)) (by simp [Value.oneCell']) (by omega) (by unfold maxLen; omega) (by omega) (by simp; omega) (w5.heap.size + 1) (by simp) ?_; intro g2 cap3 w6 hown2 hgrow hat hltg)
        have hgrow' : (w5.alloc (.cells #[.int .i64 u] 3)).grownBy w6 (some gg) := hgrow
        have hc6 := (hc5.alloc (.cells #[.int .i64 u] 3)).far hgrow' (by omega) hab
        have hgr6 := grown_new (grownBy_trans hgr5 (World.grownBy_alloc w5 (.cells #[.int .i64 u] 3) (some g))) hgrow' hgg
        have hB6 := (hown2.lt g2 rfl).1
        have HO6 : Hid (w6.ownsRow w1.heap.size 3 1 (.slice (some ⟨g2, 0, none⟩) (k + 1) cap3) (k + 1) ((xs ++ [u]).map (Value.int .i64))) := by rw [List.map_append]; exact hown2
        clear hown5 hown2 hgr5 hc5 hgrow hgrow' hat hltg
        refine (list_any g n cap a k _ hc6 hab (by omega)).mono ?_
        rintro e w7 ⟨g7, c7, ys, rfl, hg7, hown7, hgr7, hc7⟩
        have HR : Hid _ := FIN.out g2 cap3 (k + 1) _ w6 hB6 (by omega) HO6.out hgr6 g7 c7 k ys w7 (by omega) hg7 hown7 hgr7
        clear hown7 hgr7 hc7 HO6 hgr6 hc6 FIN
        go_wp2
        go_ret2
        exact ⟨g2, cap3, k + 1, g7, c7, k, _, ys, rfl, by omega, by omega, HR.out⟩
      · have hz0n : (z == 0) = false := by simpa using hz0'
        by_cases hz1' : z = 1
        · subst hz1'
          go_wp2_with fail
          rw [show ((k : Int) + 1) = ((k + 1 : Nat) : Int) by omega]
          refine (list_any g n cap a (k + 1) _ hc4 hab (by omega)).mono ?_
          rintro e w7 ⟨g7, c7, ys, rfl, hg7, hown7, hgr7, hc7⟩
          have HR : Hid _ := FIN.out gg cap2 k _ w4 hgg (by omega) hown4 hgr4 g7 c7 (k + 1) ys w7 (by omega) hg7 hown7 hgr7
          clear hown7 hgr7 hc7 hown4 hgr4 hc4 FIN
          go_wp2
          go_ret2
          exact ⟨gg, cap2, k, g7, c7, k + 1, xs, ys, rfl, by omega, by omega, HR.out⟩
        · have hz1n : (z == 1) = false := by simpa using hz1'
          clear hz0' hz1'
          go_wp2_with fail
          refine (list_any g n cap a k _ hc4 hab (by omega)).mono ?_
          rintro e w7 ⟨g7, c7, ys, rfl, hg7, hown7, hgr7, hc7⟩
          have HR : Hid _ := FIN.out gg cap2 k _ w4 hgg (by omega) hown4 hgr4 g7 c7 k ys w7 (by omega) hg7 hown7 hgr7
          clear hown7 hgr7 hc7 hown4 hgr4 hc4 FIN
          go_wp2
          go_ret2
          exact ⟨gg, cap2, k, g7, c7, k, xs, ys, rfl, by omega, by omega, HR.out⟩
end Go.Proofs.Ytdnddimkgddooaa
