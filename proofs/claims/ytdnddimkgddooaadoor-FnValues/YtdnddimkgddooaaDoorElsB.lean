/- The program's small functions over polynomials: reading, trimming, numbers, putting one scaled on top of another, values. Conditions: lists of at most 2^20 numbers, byte numbers. -/
import Derived.Test.YtdnddimkgddooaaDoorEls
namespace Go.Proofs.YtdnddimkgddooaaDoor
open Go.ChangeShapes Go.WideShapes Go.ChangeAt Go.RowKit

/-- A polynomial in a list. -/
def okB (zs : List Int) : Bool := decide (zs.length ≤ 40) && (decide (zs.length = 0) || decide (zs.getD (zs.length - 1) 0 ≠ 0)) && zs.all isB
theorem okB_parts {zs : List Int} (h : okB zs = true) : zs.length ≤ 40 ∧ (zs.length = 0 ∨ coP zs (zs.length - 1) ≠ 0) ∧ Gp.Pol (coP zs) zs.length ∧ zs = eI (coP zs) zs.length ∧ ∀ i, i < zs.length → isB (zs.getD i 0) = true := by
  simp only [okB, Bool.and_eq_true, decide_eq_true_eq, Bool.or_eq_true, List.all_eq_true] at h
  obtain ⟨⟨h1, h2⟩, h3⟩ := h
  have h4 : ∀ i, i < zs.length → isB (zs.getD i 0) = true := fun i hi => h3 _ (by simp [List.getD, hi])
  have h5 : ∀ i, i < zs.length → zs.getD i 0 = ((coP zs i : Nat) : Int) := fun i hi => by
    obtain ⟨X, hX, hx⟩ := isB_nat (h4 i hi)
    unfold coP
    rw [hx]
    simp
  refine ⟨h1, ?_, ⟨fun i => ?_, fun i hi => ?_⟩, eI_ext rfl h5, h4⟩
  · rcases h2 with h2 | h2
    · exact .inl h2
    · by_cases e : zs.length = 0
      · exact .inl e
      · right
        intro h
        have h6 := h5 (zs.length - 1) (by omega)
        rw [h] at h6
        exact h2 h6
  · by_cases hi : i < zs.length
    · obtain ⟨X, hX, hx⟩ := isB_nat (h4 i hi)
      unfold coP
      rw [hx]
      simpa using hX
    · unfold coP
      simp [List.getD, List.getElem?_eq_none (show zs.length ≤ i by omega)]
  · unfold coP
    simp [List.getD, List.getElem?_eq_none hi]
theorem okB_no {zs : List Int} (h : okB zs = false) : 40 < zs.length ∨ (zs.length ≤ 40 ∧ 0 < zs.length ∧ zs.getD (zs.length - 1) 0 = 0) ∨ (zs.length ≤ 40 ∧ (zs.length = 0 ∨ zs.getD (zs.length - 1) 0 ≠ 0) ∧ ∃ i, i < zs.length ∧ isB (zs.getD i 0) = false) := by
  by_cases h1 : zs.length ≤ 40
  · by_cases h2 : zs.length = 0 ∨ zs.getD (zs.length - 1) 0 ≠ 0
    · right; right
      refine ⟨h1, h2, ?_⟩
      have h3 : zs.all isB = false := by
        unfold okB at h
        rw [decide_eq_true h1, Bool.true_and] at h
        have e : (decide (zs.length = 0) || decide (zs.getD (zs.length - 1) 0 ≠ 0)) = true := by simpa using h2
        rw [e, Bool.true_and] at h
        exact h
      rw [List.all_eq_false] at h3
      obtain ⟨x, hx, hb⟩ := h3
      obtain ⟨i, hi, rfl⟩ := List.mem_iff_getElem.1 hx
      exact ⟨i, hi, by simpa [List.getD, hi] using hb⟩
    · right; left
      refine ⟨h1, by omega, ?_⟩
      by_cases e : zs.getD (zs.length - 1) 0 = 0
      · exact e
      · exact absurd (.inr e) h2
  · left; omega

set_option maxHeartbeats 1000000 in
theorem readP_yes (a : Option Addr) (n cap : Nat) (zs : List Int) (w : World) (h : IntsAt w a n zs) (hz : okB zs = true) :
    Calls Tryd.prog 28 #[.slice a n cap] w fun e w' => e = .returned (.tuple #[.slice (some ⟨w.heap.size, 0, none⟩) n n, .bool true]) ∧ OwnU w' w.heap.size w.heap.size n n (coP zs) ∧ Below w.heap.size w w' := by
  have hl := h.1
  subst hl
  obtain ⟨h1, h2, h3, h4, h5⟩ := okB_parts hz
  have hE := readE_yes a zs.length cap zs w h (by omega) h5
  by_cases h0 : zs.length = 0
  · have h0' : ¬ (0 : Int) < (zs.length : Int) := by omega
    have h1' : ¬ (40 : Int) < (zs.length : Int) := by omega
    clear h2 h3 h4 h5 hz h0' h1' h1 h
    rw [h0] at hE ⊢
    clear h0
    go_enter Tryd.func28, Tryd.ntmps28
    go_wp2_with fail
    refine hE.mono ?_
    rintro e w1 ⟨rfl, ho, hb⟩
    go_wp2
    go_ret2
    exact ⟨rfl, ho, hb⟩
  · have h0' : (0 : Int) < (zs.length : Int) := by omega
    have h1' : ¬ (40 : Int) < (zs.length : Int) := by omega
    obtain ⟨b, off, rfl, hc⟩ := h.some (by omega)
    have hc1 := hc (zs.length - 1) (by omega)
    have hlast : (zs.getD (zs.length - 1) 0 == 0) = false := by
      have e := h2.resolve_left h0
      unfold coP at e
      cases hq : (zs.getD (zs.length - 1) 0 == 0) with
      | false => rfl
      | true =>
        rw [beq_iff_eq] at hq
        rw [hq] at e
        exact absurd rfl e
    clear h2 h3 h4 h5 hz hc
    generalize zs.getD (zs.length - 1) 0 = x at hc1 hlast
    generalize zs.length = n at *
    obtain ⟨k, rfl⟩ : ∃ k, n = k + 1 := ⟨n - 1, by omega⟩
    rw [show k + 1 - 1 = k by omega] at hc1
    go_enter Tryd.func28, Tryd.ntmps28
    go_wp2_with fail
    refine hE.mono ?_
    rintro e w1 ⟨rfl, ho, hb⟩
    go_wp2
    go_ret2
    exact ⟨rfl, ho, hb⟩
set_option maxHeartbeats 1000000 in
theorem readP_no (a : Option Addr) (n cap : Nat) (zs : List Int) (w : World) (h : IntsAt w a n zs) (hn : n ≤ 1048576) (hz : okB zs = false) :
    Calls Tryd.prog 28 #[.slice a n cap] w fun e w' => e = .returned (.tuple #[.slice none 0 0, .bool false]) ∧ Below w.heap.size w w' := by
  have hl := h.1
  subst hl
  rcases okB_no hz with h1 | ⟨h1, h2, h3⟩ | ⟨h1, h2, h3⟩
  · have h1' : (40 : Int) < (zs.length : Int) := by omega
    clear h
    go_enter Tryd.func28, Tryd.ntmps28
    go_wp2
    go_ret2
    exact ⟨rfl, Below.refl _ _⟩
  · have h0' : (0 : Int) < (zs.length : Int) := by omega
    have h1' : ¬ (40 : Int) < (zs.length : Int) := by omega
    obtain ⟨b, off, rfl, hc⟩ := h.some (by omega)
    have hc1 := hc (zs.length - 1) (by omega)
    rw [h3] at hc1
    clear h3 hc hz h
    generalize zs.length = n at *
    obtain ⟨k, rfl⟩ : ∃ k, n = k + 1 := ⟨n - 1, by omega⟩
    rw [show k + 1 - 1 = k by omega] at hc1
    go_enter Tryd.func28, Tryd.ntmps28
    go_wp2
    go_ret2
    exact ⟨rfl, Below.refl _ _⟩
  · have h1' : ¬ (40 : Int) < (zs.length : Int) := by omega
    have hE := readE_no a zs.length cap zs w h hn h3
    have h0 : 0 < zs.length := by obtain ⟨i, hi, _⟩ := h3; omega
    have h0' : (0 : Int) < (zs.length : Int) := by omega
    obtain ⟨b, off, rfl, hc⟩ := h.some (by omega)
    have hc1 := hc (zs.length - 1) (by omega)
    have hlast : (zs.getD (zs.length - 1) 0 == 0) = false := by
      rcases h2 with e | e
      · omega
      · simpa using e
    clear h2 h3 hz hc h
    generalize zs.getD (zs.length - 1) 0 = x at hc1 hlast
    generalize zs.length = n at *
    obtain ⟨k, rfl⟩ : ∃ k, n = k + 1 := ⟨n - 1, by omega⟩
    rw [show k + 1 - 1 = k by omega] at hc1
    go_enter Tryd.func28, Tryd.ntmps28
    go_wp2_with fail
    refine hE.mono ?_
    rintro e w1 ⟨rfl, hb⟩
    go_wp2
    go_ret2
    exact ⟨rfl, hb⟩

set_option maxHeartbeats 1000000 in
theorem trimmed_any (a : Option Addr) (n cap : Nat) (f : Nat → Nat) (w : World) (h : Els w a n cap f) (hn : n ≤ 1048576) (hf : ∀ i, f i < 256) :
    Calls Tryd.prog 55 #[.slice a n cap] w fun e w' => e = .returned (.slice a (Gp.tl f n) cap) ∧ w' = w := by
  have hcap := h.1
  go_enter Tryd.func55, Tryd.ntmps55
  go_wp2
  go_loop [3] (fun p => ∃ k : Nat, k ≤ n ∧ p = .int .i64 k ∧ Hid (Gp.tl f k = Gp.tl f n)) (fun p => (intOf p).toNat)
  case atStart => exact ⟨n, Nat.le_refl _, rfl, rfl⟩
  case round =>
    obtain ⟨k, hk, rfl, HT⟩ := hrel
    by_cases hk0 : k = 0
    · subst hk0
      have hT : Hid (Gp.tl f n = 0) := by show _ = _; rw [← HT.out] <;> rfl
      rcases h.2 with ⟨rfl, h2, h3⟩ | ⟨b, rfl, _, hc⟩
      · clear h
        subst h2 h3
        go_wp2
        go_ret
        exact ⟨by rw [hT.out] <;> rfl, rfl⟩
      · clear h hc
        go_wp2
        go_ret
        exact ⟨by rw [hT.out] <;> rfl, rfl⟩
    · obtain ⟨j, rfl⟩ : ∃ j, k = j + 1 := ⟨k - 1, by omega⟩
      obtain ⟨b, rfl, hc⟩ := h.at (i := j) (by omega)
      have hj := hf j
      by_cases hz : f j = 0
      · have hs : Hid (Gp.tl f j = Gp.tl f n) := by show _ = _; rw [← HT.out]; simp [Gp.tl, hz]
        rw [hz] at hc
        clear h hf
        go_wp2
        go_round
        case rel => exact ⟨j, by omega, by go_num, hs.out⟩
        case measure => simp [intOf] <;> omega
      · have hs : Hid (Gp.tl f n = j + 1) := by show _ = _; rw [← HT.out]; simp [Gp.tl, hz]
        have hz' : (((f j : Nat) : Int) == 0) = false := by simpa using hz
        clear h hf hz
        go_wp2
        go_ret
        exact ⟨by rw [hs.out] <;> rfl, rfl⟩
end Go.Proofs.YtdnddimkgddooaaDoor
