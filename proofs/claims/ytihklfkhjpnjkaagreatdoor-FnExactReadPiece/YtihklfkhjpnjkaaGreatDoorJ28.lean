import Derived.Test.YtihklfkhjpnjkaaGreatDoorJ26
import Derived.Test.YtihklfkhjpnjkaaGreatDoorJ19
set_option maxHeartbeats 8000000
set_option maxRecDepth 2000
open Go.ChangeShapes Go.WideShapes Go.ChangeAt Go.RowKit
namespace Go.Proofs.YtihklfkhjpnjkaaGreatDoor
theorem sBytes07_any (u : ByteArray) (w : World) (hs : u.size ≤ 1048576) :
  Calls Tryz.prog 55 #[.string u] w fun e w' => e = .returned (.string (hyv u)) ∧ Below w.heap.size w w' := by
 by_cases h : u = ⟨#[45]⟩
 ·subst h
  have e : hyv ⟨#[45]⟩ = ByteArray.empty := if_pos rfl
  rw [e]
  go_enter Tryz.func55, Tryz.ntmps55
  go_wp2
  go_ret
  exact ⟨rfl, Below.refl _ _⟩
 ·have e : hyv u = hbS u := if_neg h
  have hne := ba_ne h
  have e45 : (⟨#[45]⟩ : ByteArray).toList = [45] := by rw [ByteArray.toList_eq]
  have hne' : (u.toList == [45]) = false := by rw [← e45]; exact hne
  have K : Hid _ := sHexBytes_any u w hs
  rw [e]
  generalize hbS u = v at K
  generalize hbF u = c at K
  clear h e
  go_enter Tryz.func55, Tryz.ntmps55
  go_wp2_with fail
  refine Calls.mono K.out ?_
  rintro e w1 ⟨rfl, hb⟩
  go_wp2
  go_ret
  exact ⟨rfl, hb⟩
theorem nmf_snoc (l : List UInt8) (i : Nat) (h : i < l.length) : nmf (l.take (i + 1)) = 10 * nmf (l.take i) + (l[i].toNat - 48) := by
 unfold nmf
 rw [List.take_add_one, List.getElem?_eq_getElem h]
 rw [List.foldl_append]
 rfl
theorem dgB_snoc (l : List UInt8) (i : Nat) (h : i < l.length) : dgB (l.take (i + 1)) = (dgB (l.take i) && (decide (48 ≤ l[i].toNat) && decide (l[i].toNat ≤ 57))) := by
 unfold dgB
 rw [List.take_add_one, List.getElem?_eq_getElem h]
 rw [List.all_append]
 simp
theorem dgB_no (l : List UInt8) (i : Nat) (h : i < l.length) (hx : ¬ (48 ≤ l[i].toNat ∧ l[i].toNat ≤ 57)) : dgB l = false := by
 cases hd : dgB l
 ·rfl
 ·unfold dgB at hd
  rw [List.all_eq_true] at hd
  have := hd l[i] (List.getElem_mem h)
  simp at this
  exact absurd this hx
theorem nmf_lt (l : List UInt8) : ∀ i, i ≤ l.length → dgB (l.take i) = true → nmf (l.take i) < 10 ^ i := by
 intro i
 induction i with
 | zero => intro _ _; simp [nmf]
 | succ i ih =>
  intro hi hd
  rw [dgB_snoc l i (by omega)] at hd
  simp only [Bool.and_eq_true, decide_eq_true_eq] at hd
  have h1 := ih (by omega) hd.1
  rw [nmf_snoc l i (by omega), Nat.pow_succ]
  omega
theorem sNum07_any (u : ByteArray) (w : World) (hs : u.size ≤ 1048576) :
  Calls Tryz.prog 56 #[.string u] w fun e w' => e = .returned (.int .i64 (nmv u)) ∧ Below w.heap.size w w' := by
 have KI : Hid (∀ x a b W, Calls Tryz.prog 60 #[.int .i64 x, .int .i64 a, .int .i64 b] W fun e w' => e = .returned (.bool (inB x a b)) ∧ w' = W) := sIn_any
 obtain ⟨n, HN⟩ : ∃ x, Hid (u.size = x) := ⟨_, rfl⟩
 have hsn : (u.size : Int) = (n : Int) := by rw [HN.out]
 have hlen : u.data.toList.length = n := HN.out
 rw [HN.out] at hs
 go_enter Tryz.func56, Tryz.ntmps56
 go_wp2_with fail
 go_loopw [3, 4] (fun v3 v4 wr => ∃ i : Nat, i ≤ n ∧ v3 = .int .i64 ((nmf (u.data.toList.take i) : Nat) : Int) ∧ v4 = .int .i64 (i : Int) ∧ wr = w ∧ Hid (dgB (u.data.toList.take i) = true ∧ (0 < i → n ≤ 9))) (fun _ v4 _ => n - (intOf v4).toNat)
 case atStart => exact ⟨0, Nat.zero_le _, rfl, rfl, rfl, rfl, fun h => absurd h (Nat.lt_irrefl _)⟩
 case round =>
  obtain ⟨i, hin, rfl, rfl, hw, HR⟩ := hrel
  obtain rfl := hw.symm
  clear hw
  by_cases hlt : i < n
  ·have hki : (i : Int) < (n : Int) := by omega
   have hks : i < u.size := by rw [HN.out]; exact hlt
   have hkl : i < u.data.toList.length := hks
   obtain ⟨x, HX⟩ : ∃ x : Nat, Hid (tat u i = x) := ⟨_, rfl⟩
   have hx8 : x < 256 := by rw [← HX.out]; exact tat_lt u i
   have hget : u[i].toNat = x := by rw [← HX.out]; exact (tat_in u i hks).symm
   have HG : Hid (u.data.toList[i].toNat = x) := by show _ = _; rw [← HX.out]; exact (tat_in u i hks).symm
   have HSn : Hid (nmf (u.data.toList.take (i + 1)) = 10 * nmf (u.data.toList.take i) + (x - 48)) := by show _ = _; rw [nmf_snoc _ i hkl, HG.out]
   have HDg : Hid (48 ≤ x ∧ x ≤ 57 → dgB (u.data.toList.take (i + 1)) = true) := fun hd => by rw [dgB_snoc _ i hkl, HR.out.1, HG.out]; simp [hd]
   have hL := nmf_lt u.data.toList i (by omega) HR.out.1
   have HNo : Hid (¬ (48 ≤ x ∧ x ≤ 57) ∨ 9 < n → nmv u = -1) := fun h => if_pos (by
    rcases h with h | h
    ·exact Or.inr (Or.inr (dgB_no _ i hkl (by rw [HG.out]; exact h)))
    ·exact Or.inr (Or.inl (by rw [HN.out]; exact h)))
   obtain ⟨v, HV⟩ : ∃ z, Hid (nmf (u.data.toList.take i) = z) := ⟨_, rfl⟩
   rw [HV.out] at hL HSn ⊢
   by_cases hx : 48 ≤ x ∧ x ≤ 57
   ·have e1 : inB (x : Int) 48 57 = true := inB_true (by omega)
    by_cases h9 : 9 < n
    ·have h9i : (9 : Int) < (n : Int) := by omega
     have hv := HNo.out (Or.inr h9)
     go_wp2_with (go_at_call 60; refine Calls.mono (KI.out _ _ _ _) ?_; rintro e w' ⟨rfl, hw⟩; obtain rfl := hw.symm; clear hw)
     go_ret
     exact ⟨by rw [hv]; rfl, Below.refl _ _⟩
    ·have h9i : ¬ (9 : Int) < (n : Int) := by omega
     have hp : (10 : Nat) ^ i ≤ 10 ^ 9 := Nat.pow_le_pow_right (by omega) (by omega)
     have hp9 : (10 : Nat) ^ 9 = 1000000000 := by decide
     have hv9 : v < 1000000000 := by omega
     have k1 : IntKind.i64.wrap (10 * (v : Int)) = 10 * (v : Int) := by rw [IntKind.wrap_i64]; omega
     have k2 : IntKind.i64.wrap (10 * (v : Int) + (x : Int)) = 10 * (v : Int) + (x : Int) := by rw [IntKind.wrap_i64]; omega
     have k3 : IntKind.i64.wrap (10 * (v : Int) + (x : Int) - 48) = 10 * (v : Int) + (x : Int) - 48 := by rw [IntKind.wrap_i64]; omega
     have HR1 : Hid (dgB (u.data.toList.take (i + 1)) = true ∧ (0 < i + 1 → n ≤ 9)) := ⟨HDg.out hx, fun _ => by omega⟩
     clear hL hp hp9 HNo
     go_wp2_with (go_at_call 60; refine Calls.mono (KI.out _ _ _ _) ?_; rintro e w' ⟨rfl, hw⟩; obtain rfl := hw.symm; clear hw)
     go_roundw
     case rel => exact ⟨i + 1, by omega, by rw [HSn.out]; congr 1; omega, by go_num, trivial, HR1.out⟩
     case measure => simp [intOf]; omega
   ·have e1 : inB (x : Int) 48 57 = false := inB_false (by omega)
    have hv := HNo.out (Or.inl hx)
    go_wp2_with (go_at_call 60; refine Calls.mono (KI.out _ _ _ _) ?_; rintro e w' ⟨rfl, hw⟩; obtain rfl := hw.symm; clear hw)
    go_ret
    exact ⟨by rw [hv]; rfl, Below.refl _ _⟩
  ·obtain rfl : i = n := by omega
   have hnn : ¬ (i : Int) < (i : Int) := by omega
   have ht : u.data.toList.take i = u.data.toList := List.take_of_length_le (by omega)
   have hd := HR.out.1
   rw [ht] at hd ⊢
   have hL := nmf_lt u.data.toList i (by omega) HR.out.1
   rw [ht] at hL
   by_cases h0 : i = 0
   ·have hv : nmv u = -1 := if_pos (Or.inl (by rw [HN.out]; exact h0))
    have hue : u.toList.isEmpty = true := by
     rw [ByteArray.toList_eq]
     have : u.data.toList = [] := List.length_eq_zero_iff.1 (by omega)
     rw [this]; rfl
    subst h0
    obtain rfl : u = ⟨#[]⟩ := by
     apply ByteArray.ext
     exact Array.eq_empty_of_size_eq_zero HN.out
    clear HR hd hL ht hlen
    go_wp2_with fail
    go_ret
    refine ⟨?_, Below.refl _ _⟩
    first | rfl | (rw [hv]; rfl) | simp [hv]
   ·have h9 : i ≤ 9 := HR.out.2 (by omega)
    have hp : (10 : Nat) ^ i ≤ 10 ^ 9 := Nat.pow_le_pow_right (by omega) h9
    have hp9 : (10 : Nat) ^ 9 = 1000000000 := by decide
    have hne : u ≠ ⟨#[]⟩ := fun e => h0 (by rw [← HN.out, e]; rfl)
    have hne' : u.toList.isEmpty = false := by
     rw [ByteArray.toList_eq]
     cases hq : u.data.toList with
     | nil => exact absurd (by rw [← hlen, hq]; rfl) h0
     | cons _ _ => rfl
    obtain ⟨v, HV⟩ : ∃ z, Hid (nmf u.data.toList = z) := ⟨_, rfl⟩
    have hnv : nmv u = if its (v : Int) = u then (v : Int) else -1 := by
     unfold nmv
     rw [if_neg (by rw [HN.out, hd]; rintro (h | h | h) <;> first | omega | cases h), HV.out]
    have KDe : Hid (Calls Tryz.prog 58 #[.int .i64 (v : Int)] w fun e w' => e = .returned (.string (its (v : Int))) ∧ Below w.heap.size w w') := (sDecI_any (v : Int) w (by omega) (by rw [HV.out] at hL; omega)).mono fun e w' ⟨he, hw⟩ => ⟨he, hw ▸ Below.refl _ _⟩
    rw [HV.out]
    generalize its (v : Int) = z at KDe hnv
    clear hne HR hd hL hp hp9 hlen
    by_cases hz : z = u
    ·subst hz
     rw [if_pos rfl] at hnv
     go_wp2_with (go_at_call 58; refine Calls.mono KDe.out ?_; rintro e w1 ⟨rfl, hb⟩)
     go_ret
     exact ⟨by rw [hnv]; rfl, hb⟩
    ·have hz1 := ba_ne hz
     rw [if_neg hz] at hnv
     go_wp2_with (go_at_call 58; refine Calls.mono KDe.out ?_; rintro e w1 ⟨rfl, hb⟩)
     go_ret
     exact ⟨by rw [hnv]; rfl, hb⟩
end Go.Proofs.YtihklfkhjpnjkaaGreatDoor
