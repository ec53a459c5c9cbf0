/- The draws of chapter two's laws: polynomials, pairs of them, places and values; and the laws' test of two lists. Condition: at most 2^20 bytes of code. -/
import Derived.Test.YtdnddimkgddooaaDoorPTrim
import Derived.Test.YtdnddimkgddooaaDoorDrawT
import Derived.Test.YtdnddimkgddooaaDoorFrom
namespace Go.Proofs.YtdnddimkgddooaaDoor
open Go.ChangeShapes Go.WideShapes Go.ChangeAt Go.RowKit

set_option maxHeartbeats 1000000 in
theorem same_any (a b : Option Addr) (n ca cb : Nat) (zs : List Int) (w : World) (ha : IntsAt w a n zs) (hb : IntsAt w b n zs) (hn : n ≤ 1048576) :
    Calls Tryd.prog 14 #[.slice a n ca, .slice b n cb] w fun e w' => e = .returned (.bool true) ∧ Below w.heap.size w w' := by
  go_enter Tryd.func14, Tryd.ntmps14
  go_wp2
  go_loopw [5] (fun i wr => ∃ k : Nat, k ≤ n ∧ i = .int .i64 k ∧ Below w.heap.size w wr) (fun i _ => n - (intOf i).toNat)
  case atStart => exact ⟨0, Nat.zero_le _, rfl, Below.refl _ _⟩
  case round =>
    obtain ⟨k, hk, rfl, hbel⟩ := hrel
    have ha' := ha.below hbel
    have hb' := hb.below hbel
    clear ha hb
    by_cases hlt : k < n
    · obtain ⟨ba, oa, rfl, hca⟩ := ha'.2 k hlt
      obtain ⟨bb, ob, rfl, hcb⟩ := hb'.2 k hlt
      clear ha' hb'
      obtain ⟨x, HX⟩ : ∃ x, x = zs.getD k 0 := ⟨_, rfl⟩
      rw [← HX] at hca hcb
      clear HX
      go_wp2
      go_quiet (fail)
      go_wp2
      go_roundw
      case rel => exact ⟨k + 1, by omega, by go_num, below_drewN hbel _⟩
      case measure => simp [intOf]; omega
    · go_wp2
      go_ret
      exact ⟨rfl, hbel⟩

set_option maxHeartbeats 1000000 in
theorem sTrimN_any (b n cap : Nat) (zs : List Int) (w : World) (h : IntsAt w (some ⟨b, 0, none⟩) n zs) (hcap : n ≤ cap) (hn : n ≤ 1048576) :
    Calls Tryd.prog 16 #[.slice (some ⟨b, 0, none⟩) n cap] w fun e w' => ∃ v, e = .returned v ∧ v ≠ .slice none 0 0 ∧ OwnI w' w.heap.size v (trimI zs) ∧ Below w.heap.size w w' := by
  obtain ⟨i0, hi, hz0, hz1, hz2⟩ := info_parts Tryd.infoInt
  have hl := h.1
  have hcell : ∀ i, i < n → w.cell? ⟨b, i, none⟩ = some (.int .i64 (zs.getD i 0)) := by
    intro i hi
    obtain ⟨b', off, e, hc⟩ := h.2 i hi
    cases e
    rw [Nat.zero_add] at hc
    exact hc
  clear h
  have HL : Hid (zs.length = n) := hl
  clear hl
  have ho1 : (w.alloc (.cells #[] 3)).ownsRow w.heap.size 3 1 (.slice (some ⟨w.heap.size, 0, none⟩) 0 0) 0 [] :=
    World.ownsRow_lit w #[] 0 (Nat.le_refl _) (by unfold maxLen; omega) rfl
  go_enter Tryd.func16, Tryd.ntmps16
  go_wp2
  go_loop [3] (fun p => ∃ k : Nat, k ≤ n ∧ p = .int .i64 k ∧ Hid (Gp.tl (nz zs) k = Gp.tl (nz zs) n)) (fun p => (intOf p).toNat)
  case atStart => exact ⟨n, Nat.le_refl _, rfl, rfl⟩
  case round =>
    obtain ⟨k, hk, rfl, HT⟩ := hrel
    have fin : Gp.tl (nz zs) n = k → ∀ j u, ((zs.take k).map (Value.int .i64))[j]? = some u → (w.alloc (.cells #[] 3)).cell? ((⟨b, 0, none⟩ : Addr).add j) = some u := by
      intro _ j u hu
      have hjk : j < k := by
        by_cases hj : j < k
        · exact hj
        · rw [List.getElem?_eq_none (by simp; omega)] at hu
          cases hu
      have hz := HL.out
      have hc := hcell j (by omega)
      have e : (⟨b, 0, none⟩ : Addr).add j = ⟨b, j, none⟩ := by unfold Addr.add; split <;> simp_all
      rw [e, ((Below.refl w.heap.size w).alloc (Nat.le_refl _) _).cell (p := ⟨b, j, none⟩) (block_lt_of_cell hc), hc]
      have hjl : j < zs.length := by omega
      simp [hjk, hjl] at hu
      simp [List.getD, hjl, hu]
    have FIN : Hid _ := fin
    clear fin
    by_cases hk0 : k = 0
    · subst hk0
      have hT : Hid (Gp.tl (nz zs) n = 0) := by show _ = _; rw [← HT.out] <;> rfl
      go_wp2_with (at_builtin; refine wpList_append_own _ rfl _ _ 24 rfl w.heap.size 3 i0 (.int .i64 0) 1 8 Tryd.underlying24 hi hz0 hz1 hz2 rfl (by decide) (.slice (some ⟨w.heap.size, 0, none⟩) 0 0) 0 [] rfl ho1 ⟨b, 0, none⟩ 0 cap ((zs.take 0).map (Value.int .i64)) rfl (by simp) (FIN.out hT.out) one_cellI (by unfold maxLen; omega) (by omega) (by simp) ?_; intro v' w1 hown hgrow hnil)
      have HO : Hid (OwnI w1 w.heap.size v' (zs.take 0)) := owns_takes (Nat.zero_le _) hown
      have hb' : Below w.heap.size w w1 := ((Below.refl w.heap.size w).alloc (Nat.le_refl _) _).grown (show World.grownBy _ w1 (some w.heap.size) from hgrow) (by simp) (by simp)
      have hv' : v' ≠ .slice none 0 0 := fun e => by have := hnil.1 e; cases this.1
      have HV : Hid _ := hv'
      clear hown hgrow hnil hv'
      go_ret
      exact ⟨_, rfl, HV.out, by unfold trimI; rw [HL.out, hT.out]; exact HO.out, hb'⟩
    · obtain ⟨j, rfl⟩ : ∃ j, k = j + 1 := ⟨k - 1, by omega⟩
      have hc := hcell j (by omega)
      by_cases hz : zs.getD j 0 = 0
      · have hs : Hid (Gp.tl (nz zs) j = Gp.tl (nz zs) n) := by
          show _ = _
          rw [← HT.out]
          show _ = if nz zs j = 0 then _ else _
          rw [if_pos (by unfold nz; rw [if_pos hz])]
        rw [hz] at hc
        clear hcell FIN
        go_wp2
        go_round
        case rel => exact ⟨j, by omega, by go_num, hs.out⟩
        case measure => simp [intOf] <;> omega
      · have hs : Hid (Gp.tl (nz zs) n = j + 1) := by
          show _ = _
          rw [← HT.out]
          show (if nz zs j = 0 then _ else _) = _
          rw [if_neg (by unfold nz; rw [if_neg hz]; omega)]
        have hz' : (zs.getD j 0 == 0) = false := by simpa using hz
        have hjn : ((j : Int) + 1) ≤ (cap : Int) := by omega
        generalize zs.getD j 0 = x at hc hz'
        clear hcell hz
        have hL1 : Hid (((zs.take (j + 1)).map (Value.int .i64)).length = (j + 1) * 1) := by show _ = _; rw [List.length_map, List.length_take, HL.out]; omega
        go_wp2_with (at_builtin; refine wpList_append_own _ rfl _ _ 24 rfl w.heap.size 3 i0 (.int .i64 0) 1 8 Tryd.underlying24 hi hz0 hz1 hz2 rfl (by decide) (.slice (some ⟨w.heap.size, 0, none⟩) 0 0) 0 [] rfl ho1 ⟨b, 0, none⟩ (j + 1) cap ((zs.take (j + 1)).map (Value.int .i64)) rfl hL1.out (FIN.out hs.out) one_cellI (by unfold maxLen; omega) (by omega) (by simp) ?_; intro v' w1 hown hgrow hnil)
        have HO : Hid (OwnI w1 w.heap.size v' (zs.take (j + 1))) := owns_takes (by rw [HL.out]; omega) hown
        have hb' : Below w.heap.size w w1 := ((Below.refl w.heap.size w).alloc (Nat.le_refl _) _).grown (show World.grownBy _ w1 (some w.heap.size) from hgrow) (by simp) (by simp)
        have hv' : v' ≠ .slice none 0 0 := fun e => by have := hnil.1 e; cases this.1
        have HV : Hid _ := hv'
        clear hown hgrow hnil hv'
        go_ret
        exact ⟨_, rfl, HV.out, by unfold trimI; rw [HL.out, hs.out]; exact HO.out, hb'⟩

theorem lit_at {w : World} {cs : List Int} {ty : TypeId} : ∀ i, i < cs.length → (w.alloc (.cells (cs.map (Value.int .i64)).toArray ty)).cell? ⟨w.heap.size, 0 + i, none⟩ = some (.int .i64 (cs.getD i 0)) := by
  intro i hi
  rw [Nat.zero_add, cell_of_row _ _ _ _ ty _ (heap_alloc_new w _)]
  simp [hi]
set_option maxHeartbeats 400000 in
theorem pickV_any (g n cap : Nat) (a : Option Addr) (lb off m lc : Nat) (cs : List Int) (w : World) (hc : Cur w g a n cap) (hm : 0 < m) (hm2 : m ≤ 256) (hl : lb ≠ g) (hcs : cs.length = m)
    (hcell : ∀ i, i < m → w.cell? ⟨lb, off + i, none⟩ = some (.int .i64 (cs.getD i 0))) :
    Calls Tryd.prog 45 #[.pointer (some ⟨g, 0, none⟩), .slice (some ⟨lb, off, none⟩) m lc] w fun e w' => ∃ x : Int, x ∈ cs ∧ e = .returned (.int .i64 x) ∧ w.grownBy w' (some g) ∧ Cur w' g a n cap := by
  go_enter Tryd.func45, Tryd.ntmps45
  go_wp2_with fail
  refine (belowN_any g n cap a _ _ hc).mono ?_
  rintro e w1 ⟨x, x0, x1, _, rfl, hg, hc1⟩
  have x2 := x1 (by omega)
  obtain ⟨k, rfl⟩ := Int.eq_ofNat_of_zero_le x0
  have hz := hcell k (by omega)
  have HM : Hid (cs.getD k 0 ∈ cs) := by
    have h : k < cs.length := by omega
    show _ ∈ _
    simp [List.getD, h]
  have hz1 := hg.cell hz (by simpa using hl)
  clear hcell hz x1 hcs
  generalize cs.getD k 0 = z at hz1 HM
  go_wp2
  go_ret
  exact ⟨_, HM.out, rfl, hg, hc1⟩

theorem ints_grown {w w' : World} {b n g : Nat} {zs : List Int} (h : IntsAt w (some ⟨b, 0, none⟩) n zs) (hg : w.grownBy w' (some g)) (hb : b ≠ g) : IntsAt w' (some ⟨b, 0, none⟩) n zs := by
  refine ⟨h.1, fun i hi => ?_⟩
  obtain ⟨b', off, e, hc⟩ := h.2 i hi
  refine ⟨b', off, e, hg.cell hc ?_⟩
  cases e
  simpa using hb
theorem drawn_of {w' : World} {B n : Nat} {v : Value} {zs : List Int} (h : OwnI w' B v zs) (hv : v ≠ .slice none 0 0) (hn : zs.length = n) : ∃ g cap, v = .slice (some ⟨g, 0, none⟩) n cap ∧ n ≤ cap ∧ B ≤ g ∧ g < w'.heap.size ∧ IntsAt w' (some ⟨g, 0, none⟩) n zs := by
  subst hn
  rcases h.2 with ⟨e, _⟩ | ⟨g, cap, cur, e, hB, hg, hcap, _⟩
  · exact absurd e hv
  · subst e
    exact ⟨g, cap, rfl, hcap, hB, (Array.getElem?_eq_some_iff.1 hg).1, ownsRow.ints h⟩
theorem owns_cap {w : World} {B E g n cap : Nat} {xs : List Value} (h : w.ownsRow B E 1 (.slice (some ⟨g, 0, none⟩) n cap) n xs) : n ≤ cap := by
  rcases h.2 with h' | ⟨g', cap', cur, e, _, _, hn, _⟩
  · cases h'.1
  · cases e; exact hn

set_option maxHeartbeats 2000000 in
theorem poly_any (g n cap : Nat) (a : Option Addr) (w : World) (hc : Cur w g a n cap) (hab : Under a n g) :
    Calls Tryd.prog 26 #[.pointer (some ⟨g, 0, none⟩)] w fun e w' => ∃ (gg cap2 m : Nat) (xs : List Int), e = .returned (.slice (some ⟨gg, 0, none⟩) m cap2) ∧ m ≤ 41 ∧ m ≤ cap2 ∧ w.heap.size ≤ gg ∧ gg < w'.heap.size ∧ IntsAt w' (some ⟨gg, 0, none⟩) m xs ∧ w.grownBy w' (some g) ∧ Cur w' g a n cap := by
  have hgl := hc.lt
  go_enter Tryd.func26, Tryd.ntmps26
  go_wp2_with fail
  refine (belowN_any g n cap a _ _ hc).mono ?_
  rintro e w1 ⟨x, x0, x1, _, rfl, hg1, hc1⟩
  have x2 := x1 (by omega)
  obtain ⟨m0, rfl⟩ := Int.eq_ofNat_of_zero_le x0
  clear x1
  go_wp2_with fail
  refine (once_any g n cap a _ _ hc1).mono ?_
  rintro e w2 ⟨q, rfl, hg2, hc2⟩
  have hg02 := grownBy_trans hg1 hg2
  clear hc hc1 hg1 hg2
  cases q
  · go_wp2_with fail
    refine (list_any g n cap a m0 _ hc2 hab (by omega)).mono ?_
    rintro e wa ⟨gg, cc, xs, rfl, hgg, hown, hga, hca⟩
    have hg0a := grownBy_trans hg02 hga
    have hggw : w.heap.size ≤ gg := Nat.le_trans hg02.size hgg
    clear hg02 hc2 hga
    go_wp2_with fail
    refine (once_any g n cap a _ _ hca).mono ?_
    rintro e wb ⟨q, rfl, hgb, hcb⟩
    have hg0b := grownBy_trans hg0a hgb
    have hownb := hown.kept hgb (.inr (by simp [Value.ownBlock]; omega))
    clear hown hg0a hgb hca
    have hcapb := owns_cap hownb
    have hii := ownsRow.ints hownb
    have hlb := (hownb.lt gg rfl).2
    have HI : Hid _ := hii
    clear hownb
    cases q
    · go_wp2_with fail
      refine (sTrimN_any gg m0 cc xs _ HI.out hcapb (by omega)).mono ?_
      rintro e wd ⟨v, rfl, hv, od, bd⟩
      have hlen : (trimI xs).length ≤ m0 := by rw [trimI_len, HI.out.1]; exact Gp.tl_le _ _
      obtain ⟨k, hk⟩ : ∃ k, (trimI xs).length = k := ⟨_, rfl⟩
      rw [hk] at hlen
      obtain ⟨g5, c5, rfl, hc5, hB5, hl5, hi5⟩ := drawn_of od hv hk
      have hg0d := grownBy_trans hg0b (grownBy_below bd)
      have hcd : Cur wd g a n cap := hcb.kept (row := none) ⟨bd.os, bd.tape, bd.output, bd.size, fun j hj _ => bd.block j hj⟩ (by simp) (by simp)
      have HO : Hid _ := And.intro hi5 (And.intro hg0d hcd)
      have hs5 : w.heap.size ≤ g5 := Nat.le_trans hg0b.size hB5
      clear od hv hi5 hg0d hcd bd HI hcb hg0b hk hii
      go_wp2
      go_ret
      exact ⟨g5, c5, k, _, rfl, by omega, hc5, hs5, hl5, HO.out.1, HO.out.2⟩
    · clear hii
      go_wp2
      go_ret
      exact ⟨gg, cc, m0, xs, rfl, by omega, hcapb, hggw, hlb, HI.out, hg0b, hcb⟩
  · have hlt2 := hc2.lt
    go_wp2_with fail
    refine (pickV_any g n cap a w2.heap.size 0 4 4 [20, 21, 40, 41] _ (hc2.alloc _) (by omega) (by omega) (by omega) rfl (lit_at (cs := [20, 21, 40, 41]))).mono ?_
    rintro e w3 ⟨z, hz, rfl, hg3, hc3⟩
    have hg03 := grownBy_trans hg02 (grownBy_trans (World.grownBy_alloc w2 _ _) hg3)
    obtain ⟨m1, rfl, hm1⟩ : ∃ m1 : Nat, z = (m1 : Int) ∧ m1 ≤ 41 := by
      simp at hz
      rcases hz with rfl | rfl | rfl | rfl
      · exact ⟨20, rfl, by omega⟩
      · exact ⟨21, rfl, by omega⟩
      · exact ⟨40, rfl, by omega⟩
      · exact ⟨41, rfl, by omega⟩
    clear hc2 hg02 hg3 hz hlt2
    go_wp2_with fail
    refine (list_any g n cap a m1 _ hc3 hab (by omega)).mono ?_
    rintro e wa ⟨gg, cc, xs, rfl, hgg, hown, hga, hca⟩
    have hg0a := grownBy_trans hg03 hga
    have hggw : w.heap.size ≤ gg := Nat.le_trans hg03.size hgg
    clear hg03 hc3 hga
    go_wp2_with fail
    refine (once_any g n cap a _ _ hca).mono ?_
    rintro e wb ⟨q, rfl, hgb, hcb⟩
    have hg0b := grownBy_trans hg0a hgb
    have hownb := hown.kept hgb (.inr (by simp [Value.ownBlock]; omega))
    clear hown hg0a hgb hca
    have hcapb := owns_cap hownb
    have hii := ownsRow.ints hownb
    have hlb := (hownb.lt gg rfl).2
    have HI : Hid _ := hii
    clear hownb
    cases q
    · go_wp2_with fail
      refine (sTrimN_any gg m1 cc xs _ HI.out hcapb (by omega)).mono ?_
      rintro e wd ⟨v, rfl, hv, od, bd⟩
      have hlen : (trimI xs).length ≤ m1 := by rw [trimI_len, HI.out.1]; exact Gp.tl_le _ _
      obtain ⟨k, hk⟩ : ∃ k, (trimI xs).length = k := ⟨_, rfl⟩
      rw [hk] at hlen
      obtain ⟨g5, c5, rfl, hc5, hB5, hl5, hi5⟩ := drawn_of od hv hk
      have hg0d := grownBy_trans hg0b (grownBy_below bd)
      have hcd : Cur wd g a n cap := hcb.kept (row := none) ⟨bd.os, bd.tape, bd.output, bd.size, fun j hj _ => bd.block j hj⟩ (by simp) (by simp)
      have HO : Hid _ := And.intro hi5 (And.intro hg0d hcd)
      have hs5 : w.heap.size ≤ g5 := Nat.le_trans hg0b.size hB5
      clear od hv hi5 hg0d hcd bd HI hcb hg0b hk hii
      go_wp2
      go_ret
      exact ⟨g5, c5, k, _, rfl, by omega, hc5, hs5, hl5, HO.out.1, HO.out.2⟩
    · clear hii
      go_wp2
      go_ret
      exact ⟨gg, cc, m1, xs, rfl, by omega, hcapb, hggw, hlb, HI.out, hg0b, hcb⟩

set_option maxHeartbeats 1000000 in
theorem pair_any (a : Option Addr) (n cap : Nat) (w : World) (hc : CodeAt w a n) :
    Calls Tryd.prog 24 #[.slice a n cap] w fun e w' => ∃ (g1 c1 m1 g2 c2 m2 : Nat) (xs ys : List Int), e = .returned (.tuple #[.slice (some ⟨g1, 0, none⟩) m1 c1, .slice (some ⟨g2, 0, none⟩) m2 c2]) ∧ m1 ≤ 41 ∧ m2 ≤ 41 ∧ IntsAt w' (some ⟨g1, 0, none⟩) m1 xs ∧ IntsAt w' (some ⟨g2, 0, none⟩) m2 ys ∧ Below w.heap.size w w' := by
  go_enter Tryd.func24, Tryd.ntmps24
  go_wp2_with fail
  refine (new_any a n cap _ hc.1 hc.bytes).mono ?_
  rintro e w1 ⟨g, rfl, hg, hb1, hc1⟩
  have hab := hc.under hg
  have hlt := hc1.lt
  clear hc
  go_wp2_with fail
  refine (poly_any g n cap a _ hc1 hab).mono ?_
  rintro e w2 ⟨g1, c1, m1, xs, rfl, hm1, _, hg1, hl1, hi1, hgr1, hc2⟩
  clear hc1
  go_wp2_with fail
  refine (poly_any g n cap a _ hc2 hab).mono ?_
  rintro e w3 ⟨g2, c2, m2, ys, rfl, hm2, _, hg2, hl2, hi2, hgr2, hc3⟩
  have HO : Hid _ := And.intro (ints_grown hi1 hgr2 (by omega)) (And.intro hi2 (below_g hb1 hg (grownBy_trans hgr1 hgr2)))
  clear hi1 hi2 hgr1 hgr2 hc2 hc3 hb1
  go_wp2
  go_ret2
  exact ⟨g1, c1, m1, g2, c2, m2, xs, ys, rfl, hm1, hm2, HO.out⟩
end Go.Proofs.YtdnddimkgddooaaDoor
