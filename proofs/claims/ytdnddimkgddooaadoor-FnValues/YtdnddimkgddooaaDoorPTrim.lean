/- A list without the noughts at its end, in the program and in its model; byte numbers and polynomials in the model. Conditions: lists of at most 2^20 numbers. -/
import Derived.Test.YtdnddimkgddooaaDoorElsC
namespace Go.Proofs.YtdnddimkgddooaaDoor
open Go.ChangeShapes Go.WideShapes Go.ChangeAt Go.RowKit

def nz (zs : List Int) (i : Nat) : Nat := if zs.getD i 0 = 0 then 0 else 1
def trimI (zs : List Int) : List Int := zs.take (Gp.tl (nz zs) zs.length)
theorem tl_iff {f g : Nat → Nat} (n : Nat) (h : ∀ i, i < n → (f i = 0 ↔ g i = 0)) : Gp.tl f n = Gp.tl g n := by
  induction n with
  | zero => rfl
  | succ n ih =>
    unfold Gp.tl
    rw [ih (fun i hi => h i (by omega))]
    by_cases e : f n = 0
    · rw [if_pos e, if_pos ((h n (by omega)).1 e)]
    · rw [if_neg e, if_neg (fun e' => e ((h n (by omega)).2 e'))]
theorem trimI_len (zs : List Int) : (trimI zs).length = Gp.tl (nz zs) zs.length := by
  have := Gp.tl_le (nz zs) zs.length
  unfold trimI
  rw [List.length_take]
  omega
theorem trimI_eI (f : Nat → Nat) (n : Nat) : trimI (eI f n) = eI f (Gp.tl f n) := by
  have h : Gp.tl (nz (eI f n)) n = Gp.tl f n := tl_iff n (fun i hi => by
    unfold nz
    rw [eI_getD f n i hi]
    by_cases e : f i = 0
    · simp [e]
    · rw [if_neg (by omega)]
      simp [e])
  unfold trimI
  rw [eI_len, h, eI_take f n _ (Gp.tl_le f n)]
theorem owns_takes {w : World} {B : Nat} {v : Value} {zs : List Int} {t : Nat} (ht : t ≤ zs.length) (h : w.ownsRow B 3 1 v (0 + t) ([] ++ (zs.take t).map (Value.int .i64))) : OwnI w B v (zs.take t) := by
  rw [Nat.zero_add, List.nil_append] at h
  unfold OwnI
  rw [show (zs.take t).length = t by rw [List.length_take]; omega]
  exact h

theorem one_cellI {xs : List Int} : ∀ u ∈ xs.map (Value.int .i64), u.oneCell' = true := by
  intro u hu
  obtain ⟨x, _, rfl⟩ := List.mem_map.1 hu
  rfl
set_option maxHeartbeats 1000000 in
theorem trim_any (b n cap : Nat) (zs : List Int) (w : World) (h : IntsAt w (some ⟨b, 0, none⟩) n zs) (hcap : n ≤ cap) (hn : n ≤ 1048576) :
    Calls Tryd.prog 15 #[.slice (some ⟨b, 0, none⟩) n cap] w fun e w' => ∃ v, e = .returned v ∧ OwnI w' w.heap.size v (trimI zs) ∧ Below w.heap.size w w' := by
  obtain ⟨i0, hi, hz0, hz1, hz2⟩ := info_parts Tryd.infoInt
  have hl := h.1
  have hcell : ∀ i, i < n → w.cell? ⟨b, i, none⟩ = some (.int .i64 (zs.getD i 0)) := by
    intro i hi
    obtain ⟨b', off, e, hc⟩ := h.2 i hi
    cases e
    rw [Nat.zero_add] at hc
    exact hc
  clear h
  have HL : Hid (zs.length = n) := hl
  clear hl
  have ho1 : (w.alloc (.cells #[] 3)).ownsRow w.heap.size 3 1 (.slice (some ⟨w.heap.size, 0, none⟩) 0 0) 0 [] :=
    World.ownsRow_lit w #[] 0 (Nat.le_refl _) (by unfold maxLen; omega) rfl
  go_enter Tryd.func15, Tryd.ntmps15
  go_wp2
  go_loop [3] (fun p => ∃ k : Nat, k ≤ n ∧ p = .int .i64 k ∧ Hid (Gp.tl (nz zs) k = Gp.tl (nz zs) n)) (fun p => (intOf p).toNat)
  case atStart => exact ⟨n, Nat.le_refl _, rfl, rfl⟩
  case round =>
    obtain ⟨k, hk, rfl, HT⟩ := hrel
    have fin : Gp.tl (nz zs) n = k → ∀ j u, ((zs.take k).map (Value.int .i64))[j]? = some u → (w.alloc (.cells #[] 3)).cell? ((⟨b, 0, none⟩ : Addr).add j) = some u := by
      intro _ j u hu
      have hjk : j < k := by
        by_cases hj : j < k
        · exact hj
        · rw [List.getElem?_eq_none (by simp; omega)] at hu
          cases hu
      have hz := HL.out
      have hc := hcell j (by omega)
      have e : (⟨b, 0, none⟩ : Addr).add j = ⟨b, j, none⟩ := by unfold Addr.add; split <;> simp_all
      rw [e, ((Below.refl w.heap.size w).alloc (Nat.le_refl _) _).cell (p := ⟨b, j, none⟩) (block_lt_of_cell hc), hc]
      have hjl : j < zs.length := by omega
      simp [hjk, hjl] at hu
      simp [List.getD, hjl, hu]
    have FIN : Hid _ := fin
    clear fin
    by_cases hk0 : k = 0
    · subst hk0
      have hT : Hid (Gp.tl (nz zs) n = 0) := by show _ = _; rw [← HT.out] <;> rfl
      go_wp2_with (at_builtin; refine wpList_append_own _ rfl _ _ 24 rfl w.heap.size 3 i0 (.int .i64 0) 1 8 Tryd.underlying24 hi hz0 hz1 hz2 rfl (by decide) (.slice (some ⟨w.heap.size, 0, none⟩) 0 0) 0 [] rfl ho1 ⟨b, 0, none⟩ 0 cap ((zs.take 0).map (Value.int .i64)) rfl (by simp) (FIN.out hT.out) one_cellI (by unfold maxLen; omega) (by omega) (by simp) ?_; intro v' w1 hown hgrow hnil)
      have HO : Hid (OwnI w1 w.heap.size v' (zs.take 0)) := owns_takes (Nat.zero_le _) hown
      have hb' : Below w.heap.size w w1 := ((Below.refl w.heap.size w).alloc (Nat.le_refl _) _).grown (show World.grownBy _ w1 (some w.heap.size) from hgrow) (by simp) (by simp)
      clear hown hgrow hnil
      go_ret
      exact ⟨_, rfl, by unfold trimI; rw [HL.out, hT.out]; exact HO.out, hb'⟩
    · obtain ⟨j, rfl⟩ : ∃ j, k = j + 1 := ⟨k - 1, by omega⟩
      have hc := hcell j (by omega)
      by_cases hz : zs.getD j 0 = 0
      · have hs : Hid (Gp.tl (nz zs) j = Gp.tl (nz zs) n) := by
          show _ = _
          rw [← HT.out]
          show _ = if nz zs j = 0 then _ else _
          rw [if_pos (by unfold nz; rw [if_pos hz])]
        rw [hz] at hc
        clear hcell FIN
        go_wp2
        go_round
        case rel => exact ⟨j, by omega, by go_num, hs.out⟩
        case measure => simp [intOf] <;> omega
      · have hs : Hid (Gp.tl (nz zs) n = j + 1) := by
          show _ = _
          rw [← HT.out]
          show (if nz zs j = 0 then _ else _) = _
          rw [if_neg (by unfold nz; rw [if_neg hz]; omega)]
        have hz' : (zs.getD j 0 == 0) = false := by simpa using hz
        have hjn : ((j : Int) + 1) ≤ (cap : Int) := by omega
        generalize zs.getD j 0 = x at hc hz'
        clear hcell hz
        have hL1 : Hid (((zs.take (j + 1)).map (Value.int .i64)).length = (j + 1) * 1) := by show _ = _; rw [List.length_map, List.length_take, HL.out]; omega
        go_wp2_with (at_builtin; refine wpList_append_own _ rfl _ _ 24 rfl w.heap.size 3 i0 (.int .i64 0) 1 8 Tryd.underlying24 hi hz0 hz1 hz2 rfl (by decide) (.slice (some ⟨w.heap.size, 0, none⟩) 0 0) 0 [] rfl ho1 ⟨b, 0, none⟩ (j + 1) cap ((zs.take (j + 1)).map (Value.int .i64)) rfl hL1.out (FIN.out hs.out) one_cellI (by unfold maxLen; omega) (by omega) (by simp) ?_; intro v' w1 hown hgrow hnil)
        have HO : Hid (OwnI w1 w.heap.size v' (zs.take (j + 1))) := owns_takes (by rw [HL.out]; omega) hown
        have hb' : Below w.heap.size w w1 := ((Below.refl w.heap.size w).alloc (Nat.le_refl _) _).grown (show World.grownBy _ w1 (some w.heap.size) from hgrow) (by simp) (by simp)
        clear hown hgrow hnil
        go_ret
        exact ⟨_, rfl, by unfold trimI; rw [HL.out, hs.out]; exact HO.out, hb'⟩
set_option maxHeartbeats 1000000 in
theorem sTrim_any (b n cap : Nat) (zs : List Int) (w : World) (h : IntsAt w (some ⟨b, 0, none⟩) n zs) (hcap : n ≤ cap) (hn : n ≤ 1048576) :
    Calls Tryd.prog 16 #[.slice (some ⟨b, 0, none⟩) n cap] w fun e w' => ∃ v, e = .returned v ∧ OwnI w' w.heap.size v (trimI zs) ∧ Below w.heap.size w w' := by
  obtain ⟨i0, hi, hz0, hz1, hz2⟩ := info_parts Tryd.infoInt
  have hl := h.1
  have hcell : ∀ i, i < n → w.cell? ⟨b, i, none⟩ = some (.int .i64 (zs.getD i 0)) := by
    intro i hi
    obtain ⟨b', off, e, hc⟩ := h.2 i hi
    cases e
    rw [Nat.zero_add] at hc
    exact hc
  clear h
  have HL : Hid (zs.length = n) := hl
  clear hl
  have ho1 : (w.alloc (.cells #[] 3)).ownsRow w.heap.size 3 1 (.slice (some ⟨w.heap.size, 0, none⟩) 0 0) 0 [] :=
    World.ownsRow_lit w #[] 0 (Nat.le_refl _) (by unfold maxLen; omega) rfl
  go_enter Tryd.func16, Tryd.ntmps16
  go_wp2
  go_loop [3] (fun p => ∃ k : Nat, k ≤ n ∧ p = .int .i64 k ∧ Hid (Gp.tl (nz zs) k = Gp.tl (nz zs) n)) (fun p => (intOf p).toNat)
  case atStart => exact ⟨n, Nat.le_refl _, rfl, rfl⟩
  case round =>
    obtain ⟨k, hk, rfl, HT⟩ := hrel
    have fin : Gp.tl (nz zs) n = k → ∀ j u, ((zs.take k).map (Value.int .i64))[j]? = some u → (w.alloc (.cells #[] 3)).cell? ((⟨b, 0, none⟩ : Addr).add j) = some u := by
      intro _ j u hu
      have hjk : j < k := by
        by_cases hj : j < k
        · exact hj
        · rw [List.getElem?_eq_none (by simp; omega)] at hu
          cases hu
      have hz := HL.out
      have hc := hcell j (by omega)
      have e : (⟨b, 0, none⟩ : Addr).add j = ⟨b, j, none⟩ := by unfold Addr.add; split <;> simp_all
      rw [e, ((Below.refl w.heap.size w).alloc (Nat.le_refl _) _).cell (p := ⟨b, j, none⟩) (block_lt_of_cell hc), hc]
      have hjl : j < zs.length := by omega
      simp [hjk, hjl] at hu
      simp [List.getD, hjl, hu]
    have FIN : Hid _ := fin
    clear fin
    by_cases hk0 : k = 0
    · subst hk0
      have hT : Hid (Gp.tl (nz zs) n = 0) := by show _ = _; rw [← HT.out] <;> rfl
      go_wp2_with (at_builtin; refine wpList_append_own _ rfl _ _ 24 rfl w.heap.size 3 i0 (.int .i64 0) 1 8 Tryd.underlying24 hi hz0 hz1 hz2 rfl (by decide) (.slice (some ⟨w.heap.size, 0, none⟩) 0 0) 0 [] rfl ho1 ⟨b, 0, none⟩ 0 cap ((zs.take 0).map (Value.int .i64)) rfl (by simp) (FIN.out hT.out) one_cellI (by unfold maxLen; omega) (by omega) (by simp) ?_; intro v' w1 hown hgrow hnil)
      have HO : Hid (OwnI w1 w.heap.size v' (zs.take 0)) := owns_takes (Nat.zero_le _) hown
      have hb' : Below w.heap.size w w1 := ((Below.refl w.heap.size w).alloc (Nat.le_refl _) _).grown (show World.grownBy _ w1 (some w.heap.size) from hgrow) (by simp) (by simp)
      clear hown hgrow hnil
      go_ret
      exact ⟨_, rfl, by unfold trimI; rw [HL.out, hT.out]; exact HO.out, hb'⟩
    · obtain ⟨j, rfl⟩ : ∃ j, k = j + 1 := ⟨k - 1, by omega⟩
      have hc := hcell j (by omega)
      by_cases hz : zs.getD j 0 = 0
      · have hs : Hid (Gp.tl (nz zs) j = Gp.tl (nz zs) n) := by
          show _ = _
          rw [← HT.out]
          show _ = if nz zs j = 0 then _ else _
          rw [if_pos (by unfold nz; rw [if_pos hz])]
        rw [hz] at hc
        clear hcell FIN
        go_wp2
        go_round
        case rel => exact ⟨j, by omega, by go_num, hs.out⟩
        case measure => simp [intOf] <;> omega
      · have hs : Hid (Gp.tl (nz zs) n = j + 1) := by
          show _ = _
          rw [← HT.out]
          show (if nz zs j = 0 then _ else _) = _
          rw [if_neg (by unfold nz; rw [if_neg hz]; omega)]
        have hz' : (zs.getD j 0 == 0) = false := by simpa using hz
        have hjn : ((j : Int) + 1) ≤ (cap : Int) := by omega
        generalize zs.getD j 0 = x at hc hz'
        clear hcell hz
        have hL1 : Hid (((zs.take (j + 1)).map (Value.int .i64)).length = (j + 1) * 1) := by show _ = _; rw [List.length_map, List.length_take, HL.out]; omega
        go_wp2_with (at_builtin; refine wpList_append_own _ rfl _ _ 24 rfl w.heap.size 3 i0 (.int .i64 0) 1 8 Tryd.underlying24 hi hz0 hz1 hz2 rfl (by decide) (.slice (some ⟨w.heap.size, 0, none⟩) 0 0) 0 [] rfl ho1 ⟨b, 0, none⟩ (j + 1) cap ((zs.take (j + 1)).map (Value.int .i64)) rfl hL1.out (FIN.out hs.out) one_cellI (by unfold maxLen; omega) (by omega) (by simp) ?_; intro v' w1 hown hgrow hnil)
        have HO : Hid (OwnI w1 w.heap.size v' (zs.take (j + 1))) := owns_takes (by rw [HL.out]; omega) hown
        have hb' : Below w.heap.size w w1 := ((Below.refl w.heap.size w).alloc (Nat.le_refl _) _).grown (show World.grownBy _ w1 (some w.heap.size) from hgrow) (by simp) (by simp)
        clear hown hgrow hnil
        go_ret
        exact ⟨_, rfl, by unfold trimI; rw [HL.out, hs.out]; exact HO.out, hb'⟩
end Go.Proofs.YtdnddimkgddooaaDoor
