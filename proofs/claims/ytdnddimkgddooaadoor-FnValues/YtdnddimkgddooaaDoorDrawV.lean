/- The draws of the law of values, and the law's own byte. Condition: at most 2^20 bytes of code. -/
import Derived.Test.YtdnddimkgddooaaDoorDrawP
namespace Go.Proofs.YtdnddimkgddooaaDoor
open Go.ChangeShapes Go.WideShapes Go.ChangeAt Go.RowKit

theorem owns_mono {w : World} {B B' E g n cap : Nat} {xs : List Value} (h : w.ownsRow B E 1 (.slice (some ⟨g, 0, none⟩) n cap) n xs) (hb : B' ≤ B) : w.ownsRow B' E 1 (.slice (some ⟨g, 0, none⟩) n cap) n xs :=
  ⟨h.1, h.2.imp id fun ⟨g, cap, cur, h1, h2, h3⟩ => ⟨g, cap, cur, h1, Nat.le_trans hb h2, h3⟩⟩
set_option maxHeartbeats 2000000 in
theorem polyO_any (g n cap : Nat) (a : Option Addr) (w : World) (hc : Cur w g a n cap) (hab : Under a n g) :
    Calls Tryd.prog 26 #[.pointer (some ⟨g, 0, none⟩)] w fun e w' => ∃ (gg cap2 m : Nat) (xs : List Int), e = .returned (.slice (some ⟨gg, 0, none⟩) m cap2) ∧ m ≤ 41 ∧ w.heap.size ≤ gg ∧ w'.ownsRow w.heap.size 3 1 (.slice (some ⟨gg, 0, none⟩) m cap2) m (xs.map (Value.int .i64)) ∧ w.grownBy w' (some g) ∧ Cur w' g a n cap := by
  have hgl := hc.lt
  go_enter Tryd.func26, Tryd.ntmps26
  go_wp2_with fail
  refine (belowN_any g n cap a _ _ hc).mono ?_
  rintro e w1 ⟨x, x0, x1, _, rfl, hg1, hc1⟩
  have x2 := x1 (by omega)
  obtain ⟨m0, rfl⟩ := Int.eq_ofNat_of_zero_le x0
  clear x1
  go_wp2_with fail
  refine (once_any g n cap a _ _ hc1).mono ?_
  rintro e w2 ⟨q, rfl, hg2, hc2⟩
  have hg02 := grownBy_trans hg1 hg2
  clear hc hc1 hg1 hg2
  cases q
  · go_wp2_with fail
    refine (list_any g n cap a m0 _ hc2 hab (by omega)).mono ?_
    rintro e wa ⟨gg, cc, xs, rfl, hgg, hown, hga, hca⟩
    have hg0a := grownBy_trans hg02 hga
    have hggw : w.heap.size ≤ gg := Nat.le_trans hg02.size hgg
    have hsG := hg02.size
    clear hg02 hc2 hga
    go_wp2_with fail
    refine (once_any g n cap a _ _ hca).mono ?_
    rintro e wb ⟨q, rfl, hgb, hcb⟩
    have hg0b := grownBy_trans hg0a hgb
    have hownb := hown.kept hgb (.inr (by simp [Value.ownBlock]; omega))
    clear hown hg0a hgb hca
    have hcapb := owns_cap hownb
    have hii := ownsRow.ints hownb
    have hlb := (hownb.lt gg rfl).2
    have HI : Hid _ := hii
    have HW : Hid _ := owns_mono hownb hsG
    clear hownb
    cases q
    · go_wp2_with fail
      refine (sTrimN_any gg m0 cc xs _ HI.out hcapb (by omega)).mono ?_
      rintro e wd ⟨v, rfl, hv, od, bd⟩
      have hlen : (trimI xs).length ≤ m0 := by rw [trimI_len, HI.out.1]; exact Gp.tl_le _ _
      obtain ⟨k, hk⟩ : ∃ k, (trimI xs).length = k := ⟨_, rfl⟩
      rw [hk] at hlen
      obtain ⟨g5, c5, rfl, hc5, hB5, hl5, hi5⟩ := drawn_of od hv hk
      have hg0d := grownBy_trans hg0b (grownBy_below bd)
      have hcd : Cur wd g a n cap := hcb.kept (row := none) ⟨bd.os, bd.tape, bd.output, bd.size, fun j hj _ => bd.block j hj⟩ (by simp) (by simp)
      have od2 : wd.ownsRow w.heap.size 3 1 (.slice (some ⟨g5, 0, none⟩) k c5) k ((trimI xs).map (Value.int .i64)) := by
        have h9 := od
        unfold OwnI at h9
        rw [hk] at h9
        exact owns_mono h9 hg0b.size
      have HO : Hid _ := And.intro od2 (And.intro hg0d hcd)
      clear od2
      have hs5 : w.heap.size ≤ g5 := Nat.le_trans hg0b.size hB5
      clear od hv hi5 hg0d hcd bd HI hcb hg0b hk hii
      go_wp2
      go_ret
      exact ⟨g5, c5, k, _, rfl, by omega, hs5, HO.out.1, HO.out.2⟩
    · clear hii
      go_wp2
      go_ret
      exact ⟨gg, cc, m0, xs, rfl, by omega, hggw, HW.out, hg0b, hcb⟩
  · have hlt2 := hc2.lt
    go_wp2_with fail
    refine (pickV_any g n cap a w2.heap.size 0 4 4 [20, 21, 40, 41] _ (hc2.alloc _) (by omega) (by omega) (by omega) rfl (lit_at (cs := [20, 21, 40, 41]))).mono ?_
    rintro e w3 ⟨z, hz, rfl, hg3, hc3⟩
    have hg03 := grownBy_trans hg02 (grownBy_trans (World.grownBy_alloc w2 _ _) hg3)
    obtain ⟨m1, rfl, hm1⟩ : ∃ m1 : Nat, z = (m1 : Int) ∧ m1 ≤ 41 := by
      simp at hz
      rcases hz with rfl | rfl | rfl | rfl
      · exact ⟨20, rfl, by omega⟩
      · exact ⟨21, rfl, by omega⟩
      · exact ⟨40, rfl, by omega⟩
      · exact ⟨41, rfl, by omega⟩
    clear hc2 hg02 hg3 hz hlt2
    go_wp2_with fail
    refine (list_any g n cap a m1 _ hc3 hab (by omega)).mono ?_
    rintro e wa ⟨gg, cc, xs, rfl, hgg, hown, hga, hca⟩
    have hg0a := grownBy_trans hg03 hga
    have hggw : w.heap.size ≤ gg := Nat.le_trans hg03.size hgg
    have hsG := hg03.size
    clear hg03 hc3 hga
    go_wp2_with fail
    refine (once_any g n cap a _ _ hca).mono ?_
    rintro e wb ⟨q, rfl, hgb, hcb⟩
    have hg0b := grownBy_trans hg0a hgb
    have hownb := hown.kept hgb (.inr (by simp [Value.ownBlock]; omega))
    clear hown hg0a hgb hca
    have hcapb := owns_cap hownb
    have hii := ownsRow.ints hownb
    have hlb := (hownb.lt gg rfl).2
    have HI : Hid _ := hii
    have HW : Hid _ := owns_mono hownb hsG
    clear hownb
    cases q
    · go_wp2_with fail
      refine (sTrimN_any gg m1 cc xs _ HI.out hcapb (by omega)).mono ?_
      rintro e wd ⟨v, rfl, hv, od, bd⟩
      have hlen : (trimI xs).length ≤ m1 := by rw [trimI_len, HI.out.1]; exact Gp.tl_le _ _
      obtain ⟨k, hk⟩ : ∃ k, (trimI xs).length = k := ⟨_, rfl⟩
      rw [hk] at hlen
      obtain ⟨g5, c5, rfl, hc5, hB5, hl5, hi5⟩ := drawn_of od hv hk
      have hg0d := grownBy_trans hg0b (grownBy_below bd)
      have hcd : Cur wd g a n cap := hcb.kept (row := none) ⟨bd.os, bd.tape, bd.output, bd.size, fun j hj _ => bd.block j hj⟩ (by simp) (by simp)
      have od2 : wd.ownsRow w.heap.size 3 1 (.slice (some ⟨g5, 0, none⟩) k c5) k ((trimI xs).map (Value.int .i64)) := by
        have h9 := od
        unfold OwnI at h9
        rw [hk] at h9
        exact owns_mono h9 hg0b.size
      have HO : Hid _ := And.intro od2 (And.intro hg0d hcd)
      clear od2
      have hs5 : w.heap.size ≤ g5 := Nat.le_trans hg0b.size hB5
      clear od hv hi5 hg0d hcd bd HI hcb hg0b hk hii
      go_wp2
      go_ret
      exact ⟨g5, c5, k, _, rfl, by omega, hs5, HO.out.1, HO.out.2⟩
    · clear hii
      go_wp2
      go_ret
      exact ⟨gg, cc, m1, xs, rfl, by omega, hggw, HW.out, hg0b, hcb⟩

set_option maxHeartbeats 400000 in
theorem drawPMul_any (a : Option Addr) (n cap : Nat) (w : World) (hc : CodeAt w a n) :
    Calls Tryd.prog 6 #[.slice a n cap] w fun e w' => ∃ (g1 c1 m1 g2 c2 m2 : Nat) (xs ys : List Int), e = .returned (.tuple #[.slice (some ⟨g1, 0, none⟩) m1 c1, .slice (some ⟨g2, 0, none⟩) m2 c2]) ∧ m1 ≤ 41 ∧ m2 ≤ 41 ∧ IntsAt w' (some ⟨g1, 0, none⟩) m1 xs ∧ IntsAt w' (some ⟨g2, 0, none⟩) m2 ys ∧ Below w.heap.size w w' := by
  go_enter Tryd.func6, Tryd.ntmps6
  go_wp2_with fail
  refine (pair_any a n cap _ hc).mono ?_
  rintro e w1 ⟨g1, c1, m1, g2, c2, m2, xs, ys, rfl, hm1, hm2, h⟩
  have H : Hid _ := h
  clear h hc
  go_wp2
  go_ret2
  exact ⟨g1, c1, m1, g2, c2, m2, xs, ys, rfl, hm1, hm2, H.out⟩

set_option maxHeartbeats 400000 in
theorem lawAt_any (a : Option Addr) (n cap : Nat) (w : World) (hc : CodeAt w a n) :
    Calls Tryd.prog 7 #[.slice a n cap, .int .i64 3] w fun e w' => ∃ x : Nat, x < 256 ∧ e = .returned (.int .i64 (x : Int)) ∧ w' = w := by
  have hn := hc.1
  by_cases h : 3 < n
  · obtain ⟨b, off, x, rfl, hcell, x0, x1⟩ := hc.2 3 h
    have hI : (3 : Int) < (n : Int) := by omega
    obtain ⟨X, rfl⟩ := Int.eq_ofNat_of_zero_le x0
    clear hc
    go_enter Tryd.func7, Tryd.ntmps7
    go_wp2
    go_ret
    exact ⟨X, by omega, rfl, rfl⟩
  · have hI : ¬ (3 : Int) < (n : Int) := by omega
    clear hc
    go_enter Tryd.func7, Tryd.ntmps7
    go_wp2
    go_ret
    exact ⟨(21 + n) % 256, by omega, by go_num, rfl⟩
set_option maxHeartbeats 1000000 in
theorem drawPAt_any (a : Option Addr) (n cap : Nat) (w : World) (hc : CodeAt w a n) :
    Calls Tryd.prog 8 #[.slice a n cap] w fun e w' => ∃ (g1 c1 m1 : Nat) (xs : List Int) (y : Int), e = .returned (.tuple #[.slice (some ⟨g1, 0, none⟩) m1 c1, .int .i64 y]) ∧ m1 ≤ 41 ∧ IntsAt w' (some ⟨g1, 0, none⟩) m1 xs ∧ Below w.heap.size w w' := by
  go_enter Tryd.func8, Tryd.ntmps8
  go_wp2_with fail
  refine (new_any a n cap _ hc.1 hc.bytes).mono ?_
  rintro e w1 ⟨g, rfl, hg, hb1, hc1⟩
  have hab := hc.under hg
  have hlt := hc1.lt
  clear hc
  go_wp2_with fail
  refine (poly_any g n cap a _ hc1 hab).mono ?_
  rintro e w2 ⟨g1, c1, m1, xs, rfl, hm1, _, hg1, hl1, hi1, hgr1, hc2⟩
  clear hc1
  go_wp2_with fail
  refine (elem_any g n cap a _ hc2).mono ?_
  rintro e w3 ⟨y, rfl, hgr2, hc3⟩
  have HO : Hid _ := And.intro (ints_grown hi1 hgr2 (by omega)) (below_g hb1 hg (grownBy_trans hgr1 hgr2))
  clear hi1 hgr1 hgr2 hc2 hc3 hb1
  go_wp2
  go_ret2
  exact ⟨g1, c1, m1, xs, y, rfl, hm1, HO.out⟩
set_option maxHeartbeats 2000000 in
theorem drawPTrim_any (a : Option Addr) (n cap : Nat) (w : World) (hc : CodeAt w a n) :
    Calls Tryd.prog 13 #[.slice a n cap] w fun e w' => ∃ (g1 c1 m1 : Nat) (xs : List Int), e = .returned (.slice (some ⟨g1, 0, none⟩) m1 c1) ∧ m1 ≤ 50 ∧ m1 ≤ c1 ∧ IntsAt w' (some ⟨g1, 0, none⟩) m1 xs ∧ Below w.heap.size w w' := by
  obtain ⟨i0, hi, hz0, hz1, hz2⟩ := info_parts Tryd.infoInt
  go_enter Tryd.func13, Tryd.ntmps13
  go_wp2_with fail
  refine (new_any a n cap _ hc.1 hc.bytes).mono ?_
  rintro e w1 ⟨g, rfl, hg, hb1, hc1⟩
  have hab := hc.under hg
  have hgl := hc1.lt
  clear hc
  go_wp2_with fail
  refine (polyO_any g n cap a _ hc1 hab).mono ?_
  rintro e w2 ⟨g1, c1, m1, xs, rfl, hm1, hg1, ho2, hgr2, hc2⟩
  clear hc1
  go_wp2_with fail
  refine (belowN_any g n cap a _ _ hc2).mono ?_
  rintro e w3 ⟨x, x0, x1, _, rfl, hg3, hc3⟩
  have x2 := x1 (by omega)
  obtain ⟨m, rfl⟩ := Int.eq_ofNat_of_zero_le x0
  have ho3 := ho2.kept hg3 (.inr (by simp [Value.ownBlock]; omega))
  have H3 : Hid _ := And.intro ho3 (grownBy_trans hgr2 hg3)
  clear ho2 hgr2 hc2 x1 hg3 ho3 hc3
  go_wp2
  go_loopw [4, 6] (fun v i wr => ∃ (k gg cap2 : Nat) (zs : List Int), k ≤ m ∧ i = .int .i64 k ∧ v = .slice (some ⟨gg, 0, none⟩) (m1 + k) cap2 ∧ w1.heap.size ≤ gg ∧ wr.ownsRow w1.heap.size 3 1 (.slice (some ⟨gg, 0, none⟩) (m1 + k) cap2) (m1 + k) (zs.map (Value.int .i64)) ∧ w1.grownBy wr (some g)) (fun _ i _ => m - (intOf i).toNat)
  case atStart => exact ⟨0, g1, c1, xs, Nat.zero_le _, rfl, rfl, hg1, H3.out.1, H3.out.2⟩
  case round =>
    obtain ⟨k, gg, cap2, zs, hk, rfl, rfl, hgg, hown, hgr⟩ := hrel
    clear H3
    have hsz := hgr.size
    obtain ⟨q, hq⟩ : ∃ q, m1 + k = q := ⟨_, rfl⟩
    rw [hq] at hown ⊢
    by_cases hlt : k < m
    · have hlti : (k : Int) < (m : Int) := by omega
      go_wp2_with (at_builtin; refine wpList_append_lies _ (by rfl) _ _ 24 (by rfl) w1.heap.size 3 i0 (.int .i64 0) 1 8 Tryd.underlying24 hi hz0 hz1 hz2 rfl (by decide) (.slice (some ⟨gg, 0, none⟩) q cap2) q _ (by rfl) (hown.alloc _) ⟨wr.heap.size, 0, none⟩ 1 1 [.int .i64 0] (by rfl) (by rfl) (World.news_of_block (cs := #[.int .i64 0]) (t := 3) (fr := (0, 0)) (heap_alloc_new wr _)) (by simp [Value.oneCell']) (by omega) (by unfold maxLen; omega) (by omega) (by simp; omega) (wr.heap.size + 1) (by simp) ?_; intro g2 cap3 w4 hown2 hgrow hat hltg)
      have hgrow' : (wr.alloc (.cells #[.int .i64 0] 3)).grownBy w4 (some gg) := hgrow
      have hgr4 := grown_new (grownBy_trans hgr (World.grownBy_alloc wr (.cells #[.int .i64 0] 3) (some g))) hgrow' hgg
      have hB4 := (hown2.lt g2 rfl).1
      have HO : Hid _ := And.intro hown2 hgr4
      clear hown hgr hgrow hgrow' hat hltg hown2 hgr4
      go_roundw
      case rel =>
        refine ⟨k + 1, g2, cap3, zs ++ [0], by omega, by go_num, ?_, hB4, ?_, HO.out.2⟩
        · rw [show m1 + (k + 1) = q + 1 by omega]
        · rw [show m1 + (k + 1) = q + 1 by omega, List.map_append]
          exact HO.out.1
      case measure => simp [intOf] <;> omega
    · have hcap := owns_cap hown
      have HO : Hid _ := And.intro (ownsRow.ints hown) (below_g hb1 hg hgr)
      clear hown hgr hb1
      go_wp2
      go_ret
      exact ⟨gg, cap2, q, zs, rfl, by omega, hcap, HO.out⟩
end Go.Proofs.YtdnddimkgddooaaDoor
