/- The program reads what is no matrix; whether it is one. Conditions: at most 2^20 rows, at most 2^20 numbers a row. -/
import Derived.Test.YtojklpahobmleaaMRead
namespace Go.Proofs.Ytojklpahobmleaa
open Go.ChangeShapes Go.WideShapes Go.ChangeAt Go.RowKit

theorem OkM.not {n : Nat} {L : Nat → Nat} {Z : Nat → Nat → Int} (h : ¬ OkM n L Z) (h1 : 1 ≤ n) (h2 : n ≤ 16) (h3 : 1 ≤ L 0) (h4 : L 0 ≤ 16) : ∃ q, q < n ∧ ¬ (L q = L 0 ∧ ∀ j, j < L 0 → isB (Z q j) = true) := by
  refine Classical.byContradiction fun hno => h ⟨h1, h2, h3, h4, fun i hi => ?_⟩
  exact Classical.byContradiction fun hc => hno ⟨i, hi, hc⟩
set_option maxHeartbeats 2000000 in
theorem readM_no (a : Option Addr) (n cap : Nat) (L : Nat → Nat) (Z : Nat → Nat → Int) (w : World) (h : MatAt w a n L Z) (hL : ∀ i, i < n → L i ≤ 1048576) (ok : ¬ OkM n L Z) :
    Calls Try.prog 48 #[.slice a n cap] w fun e w' => e = .returned (.tuple #[.slice none 0 0, .bool false]) ∧ Below w.heap.size w w' := by
  obtain ⟨i0, hi, hz0, hz1, hz2⟩ := info_parts Try.infoElems
  by_cases hn : 1 ≤ n ∧ n ≤ 16
  · obtain ⟨hn1, hn2⟩ := hn
    obtain ⟨b0, off0, ai0, ci0, e0, hc0, _⟩ := h 0 (by omega)
    subst e0
    rw [Nat.add_zero] at hc0
    have hs1 : side (n : Int) = true := by rw [side_nat]; simp; omega
    have hn1' : (1 : Int) ≤ (n : Int) := by omega
    have hb0 := block_lt_of_cell hc0
    by_cases hl : 1 ≤ L 0 ∧ L 0 ≤ 16
    · obtain ⟨hl1, hl2⟩ := hl
      obtain ⟨q, hq, hbad⟩ := OkM.not ok hn1 hn2 hl1 hl2
      obtain ⟨l, hl⟩ : ∃ l, L 0 = l := ⟨_, rfl⟩
      rw [hl] at hc0 hl1 hl2 hbad
      have hs2 : side (l : Int) = true := by rw [side_nat]; simp; omega
      have KH : Hid (MatAt w (some ⟨b0, off0, none⟩) n L Z) := h
      have KL : Hid _ := hL
      have KB : Hid _ := hbad
      clear h hl hL hbad ok
      go_enter Try.func48, Try.ntmps48
      go_wp2_with (first | (go_at_call 59; refine (isSide_any _ _).mono ?_; rintro e w' ⟨rfl, hw⟩; obtain rfl := hw.symm) | (at_make; refine wpList_make_full _ rfl _ _ 55 rfl w.heap.size 58 i0 (.slice none 0 0) 1 Try.underlying55 hi hz0 hz1 .i64 .i64 _ _ n rfl rfl rfl rfl (by rw [hz2]; omega) (by unfold maxLen; omega) (Nat.le_refl _) ?_; intro w1 hown hgrow))
      have hb1 : Below w.heap.size w w1 := (Below.refl _ _).grown hgrow (Nat.le_refl _) (by simp)
      clear hgrow hi hz0 hz1 hz2
      go_loopw [26] (fun i wr => ∃ (k : Nat) (vs : List Value), k ≤ q ∧ i = .int .i64 ((k : Nat) : Int) ∧ wr.ownsRow w.heap.size 58 1 (.slice (some ⟨w.heap.size, 0, none⟩) n n) n vs ∧ Below w.heap.size w wr) (fun i _ => n - (intOf i).toNat)
      case atStart => exact ⟨0, _, Nat.zero_le _, rfl, hown, hb1⟩
      case round =>
        obtain ⟨k, vs, hk, rfl, hown', hbel⟩ := hrel
        clear hown hb1
        have hlt : k < n := by omega
        have hlti : (k : Int) < (n : Int) := by omega
        obtain ⟨b, off, ai, ci, eb, hc, hr⟩ := KH.out.below hbel k hlt
        cases eb
        have hc0' := (hbel.cell (p := ⟨b0, off0, none⟩) hb0).trans hc0
        have hLk := KL.out k hlt
        clear hc0
        by_cases hkl : L k = l
        · rw [hkl] at hc hr
          by_cases hB : ∀ j, j < l → isB (Z k j) = true
          · have hkq : k ≠ q := fun e => KB.out (by rw [← e]; exact ⟨hkl, hB⟩)
            have hrd := readE_yes ai l ci (zI (Z k) l) wr hr (by omega) (fun i hi => by rw [zI_getD _ _ _ hi]; exact hB i hi)
            obtain ⟨old, hold⟩ : ∃ v, wr.cell? ⟨w.heap.size, k, none⟩ = some v := by
              rw [hown'.cellAt k (by omega)]
              exact ⟨_, List.getElem?_eq_getElem (by rw [hown'.1]; omega)⟩
            have hfr := hown'.frozenAt k
            have hGlt := (hown'.lt _ rfl).2
            have KR : Hid _ := hrd
            have KW : Hid _ := hown'
            have KE : Hid (Below w.heap.size w wr) := hbel
            clear hrd hB hr hown' hbel
            go_wp2_with fail
            refine Calls.mono KR.out ?_
            rintro e w2 ⟨rfl, _, hb2⟩
            have hold2 := (hb2.cell (p := ⟨w.heap.size, k, none⟩) hGlt).trans hold
            have hfr2 := (World.frozen?_of_block (a := ⟨w.heap.size, k, none⟩) (hb2.block _ hGlt)).trans hfr
            have HS : Hid _ := ((ownsRow_below KW.out hb2).stored k (.slice (some ⟨wr.heap.size, 0, none⟩) l l)).1
            have HB : Hid (Below w.heap.size w (w2.setCell ⟨w.heap.size, k, none⟩ (.slice (some ⟨wr.heap.size, 0, none⟩) l l))) := (below2 KE.out hb2).setCell (Nat.le_refl _) _
            clear hb2 hold hfr KR KW
            go_wp2
            go_roundw
            case rel => exact ⟨k + 1, _, by omega, by go_num, HS.out, HB.out⟩
            case measure => simp [intOf] <;> omega
          · have hrd := readE_no ai l ci (zI (Z k) l) wr hr (by omega) (by
              refine Classical.byContradiction fun hno => hB fun j hj => ?_
              refine Classical.byContradiction fun hc => hno ⟨j, hj, ?_⟩
              rw [zI_getD _ _ _ hj]
              simpa using hc)
            have KR : Hid _ := hrd
            have KE : Hid (Below w.heap.size w wr) := hbel
            clear hrd hB hr hown' hbel
            go_wp2_with fail
            refine Calls.mono KR.out ?_
            rintro e w2 ⟨rfl, hb2⟩
            go_wp2
            go_ret2
            exact ⟨rfl, below2 KE.out hb2⟩
        · have hne : ((L k : Int) != (l : Int)) = true := by simp; omega
          generalize L k = lk at hc hne
          clear hown' hr
          go_wp2
          go_ret2
          exact ⟨rfl, hbel⟩
    · have hs2 : side (L 0 : Int) = false := by rw [side_nat]; simp; omega
      clear h hL ok hl
      generalize L 0 = l at hc0 hs2
      go_enter Try.func48, Try.ntmps48
      go_wp2_with (go_at_call 59; refine (isSide_any _ _).mono ?_; rintro e w' ⟨rfl, hw⟩; obtain rfl := hw.symm)
      go_ret2
      exact ⟨rfl, Below.refl _ _⟩
  · have hs1 : side (n : Int) = false := by rw [side_nat]; simp; omega
    clear h hL ok
    go_enter Try.func48, Try.ntmps48
    go_wp2_with (go_at_call 59; refine (isSide_any _ _).mono ?_; rintro e w' ⟨rfl, hw⟩; obtain rfl := hw.symm)
    go_ret2
    exact ⟨rfl, Below.refl _ _⟩
/-- Whether it is a matrix. -/
noncomputable def okM (n : Nat) (L : Nat → Nat) (Z : Nat → Nat → Int) : Bool := @decide (OkM n L Z) (Classical.propDecidable _)
theorem okM_yes {n : Nat} {L : Nat → Nat} {Z : Nat → Nat → Int} (h : OkM n L Z) : okM n L Z = true := by unfold okM; exact @decide_eq_true _ (Classical.propDecidable _) h
theorem okM_no {n : Nat} {L : Nat → Nat} {Z : Nat → Nat → Int} (h : ¬ OkM n L Z) : okM n L Z = false := by unfold okM; exact @decide_eq_false _ (Classical.propDecidable _) h
theorem okM_iff {n : Nat} {L : Nat → Nat} {Z : Nat → Nat → Int} (h : okM n L Z = true) : OkM n L Z := by unfold okM at h; exact @of_decide_eq_true _ (Classical.propDecidable _) h
set_option maxHeartbeats 1000000 in
theorem matOk_any (a : Option Addr) (n cap : Nat) (L : Nat → Nat) (Z : Nat → Nat → Int) (w : World) (h : MatAt w a n L Z) (hL : ∀ i, i < n → L i ≤ 1048576) :
    Calls Try.prog 21 #[.slice a n cap] w fun e w' => e = .returned (.bool (okM n L Z)) ∧ Below w.heap.size w w' := by
  by_cases ok : OkM n L Z
  · have KR : Hid _ := readM_yes a n cap L Z w h ok
    rw [okM_yes ok]
    clear h hL ok
    go_enter Try.func21, Try.ntmps21
    go_wp2_with fail
    refine Calls.mono KR.out ?_
    rintro e w2 ⟨rfl, _, hb2⟩
    go_wp2
    go_ret
    exact ⟨rfl, hb2⟩
  · have KR : Hid _ := readM_no a n cap L Z w h hL ok
    rw [okM_no ok]
    clear h hL ok
    go_enter Try.func21, Try.ntmps21
    go_wp2_with fail
    refine Calls.mono KR.out ?_
    rintro e w2 ⟨rfl, hb2⟩
    go_wp2
    go_ret
    exact ⟨rfl, hb2⟩
end Go.Proofs.Ytojklpahobmleaa
