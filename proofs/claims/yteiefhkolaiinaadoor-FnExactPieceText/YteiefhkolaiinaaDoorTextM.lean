/- The plain mathematics of texts that are scaled and summed, and of sums of products. No condition. -/
import Derived.Test.YteiefhkolaiinaaDoorTextsB
import Derived.Test.YteiefhkolaiinaaDoorDot
namespace Go.Proofs.YteiefhkolaiinaaDoor
set_option maxRecDepth 2000

def tat (s : ByteArray) (k : Nat) : Nat := (s.data.toList.getD k 0).toNat
theorem tat_lt (s : ByteArray) (k : Nat) : tat s k < 256 := u8_lt _
theorem tat_in (s : ByteArray) (k : Nat) (h : k < s.size) : tat s k = s[k].toNat := by
  have h' : k < s.data.toList.length := by simpa using h
  simp only [tat, List.getD, List.getElem?_eq_getElem h', Option.getD_some]
  rfl
theorem tat_out (s : ByteArray) (k : Nat) (h : ¬ k < s.size) : tat s k = 0 := by
  have h' : s.data.toList.length ≤ k := by simp at h ⊢; exact h
  simp [tat, List.getD, List.getElem?_eq_none h']
theorem str_ext {s u : ByteArray} (h : s.size = u.size) (he : ∀ k, tat s k = tat u k) : s = u := by
  apply ByteArray.ext
  apply Array.toList_inj.1
  apply List.ext_getElem?
  intro k
  by_cases hk : k < s.size
  · have h1 : k < s.data.toList.length := by simpa using hk
    have h2 : k < u.data.toList.length := by rw [h] at hk; simpa using hk
    have e := he k
    simp only [tat, List.getD, List.getElem?_eq_getElem h1, List.getElem?_eq_getElem h2, Option.getD_some] at e
    rw [List.getElem?_eq_getElem h1, List.getElem?_eq_getElem h2, UInt8.toNat_inj.1 e]
  · have h1 : s.data.toList.length ≤ k := by simp at hk ⊢; exact hk
    have h2 : u.data.toList.length ≤ k := by rw [h] at hk; simp at hk ⊢; exact hk
    rw [List.getElem?_eq_none h1, List.getElem?_eq_none h2]
theorem tat_str (xs : List Int) (k : Nat) : tat (strOfNums xs) k = (xs.getD k 0).toNat % 256 := by
  simp only [tat, strOfNums_data, List.getD, List.getElem?_map]
  cases xs[k]? with
  | none => rfl
  | some v => simp

theorem addS_size {x y : ByteArray} (h : x.size = y.size) : (addS x y).size = x.size := by
  simp only [addS]
  rw [if_pos h, strOfNums_size, addL_len x y h]
theorem addS_le (x y : ByteArray) : (addS x y).size ≤ x.size := by
  by_cases h : x.size = y.size
  · rw [addS_size h]; omega
  · simp only [addS]; rw [if_neg h]; simp
theorem tat_add {x y : ByteArray} (h : x.size = y.size) (k : Nat) : tat (addS x y) k = tat x k ^^^ tat y k := by
  by_cases hk : k < x.size
  · have hk2 : k < y.size := by omega
    simp only [addS]
    rw [if_pos h, tat_str, addL_at x y k hk hk2, Int.toNat_natCast, tat_in x k hk, tat_in y k hk2]
    exact Nat.mod_eq_of_lt (Gf.xor_lt (u8_lt _) (u8_lt _))
  · rw [tat_out x k hk, tat_out y k (by omega), tat_out _ k (by rw [addS_size h]; exact hk)]
    rfl
theorem scaleS_size {s : ByteArray} {a : Int} (h : isB a = true) : (scaleS s a).size = s.size := by
  simp only [scaleS]
  rw [if_pos h, strOfNums_size, scaleL_len]
theorem scaleS_le (s : ByteArray) (a : Int) : (scaleS s a).size ≤ s.size := by
  by_cases h : isB a = true
  · rw [scaleS_size h]; omega
  · simp only [scaleS]; rw [if_neg h]; simp
theorem tat_scale (s : ByteArray) {A : Nat} (hA : A < 256) (k : Nat) : tat (scaleS s (A : Int)) k = Gf.mul (tat s k) A := by
  have h := isB_ofNat hA
  by_cases hk : k < s.size
  · simp only [scaleS]
    rw [if_pos h, tat_str, Int.toNat_natCast, scaleL_at s A k hk, Int.toNat_natCast, tat_in s k hk]
    exact Nat.mod_eq_of_lt (Gf.mul_lt (u8_lt _) hA)
  · rw [tat_out s k hk, tat_out _ k (by rw [scaleS_size h]; exact hk), Gf.zero_mul hA]

theorem texts1 {x y : ByteArray} (h : x.size = y.size) : addS (addS x y) y = x := by
  have h1 := addS_size h
  refine str_ext (by rw [addS_size (by omega), h1]) fun k => ?_
  rw [tat_add (by omega), tat_add h, Nat.xor_assoc, Nat.xor_self, Nat.xor_zero]
theorem texts2 {x y : ByteArray} {a : Int} (h : x.size = y.size) (ha : isB a = true) : addS (scaleS x a) (scaleS y a) = scaleS (addS x y) a := by
  have hs : (scaleS x a).size = (scaleS y a).size := by rw [scaleS_size ha, scaleS_size ha, h]
  refine str_ext (by rw [addS_size hs, scaleS_size ha, scaleS_size ha, addS_size h]) fun k => ?_
  rw [tat_add hs]
  obtain ⟨A, hA, rfl⟩ := isB_nat ha
  rw [tat_scale _ hA, tat_scale _ hA, tat_scale _ hA, tat_add h, Gf.mul_comm (tat_lt x k) hA, Gf.mul_comm (tat_lt y k) hA, Gf.mul_comm (Gf.xor_lt (tat_lt x k) (tat_lt y k)) hA, Gf.mul_xor]
theorem texts3 {s : ByteArray} {a : Int} (ha : isB a = true) (h0 : a ≠ 0) : scaleS (scaleS s a) (invI a) = s := by
  obtain ⟨A, hA, rfl⟩ := isB_nat ha
  have hi : invI (A : Int) = ((Gf.inv A : Nat) : Int) := by
    simp only [invI]
    rw [if_pos (by omega), Int.toNat_natCast]
  rw [hi]
  have hb := isB_ofNat (Gf.inv_lt A)
  refine str_ext (by rw [scaleS_size hb, scaleS_size ha]) fun k => ?_
  rw [tat_scale _ (Gf.inv_lt A), tat_scale _ hA, Gf.mul_assoc (tat_lt s k) hA (Gf.inv_lt A), Gf.mul_inv hA (by omega), Gf.mul_one (tat_lt s k)]
theorem dotGo_comm (xs ys : List Int) : ∀ m k x, dotGo xs ys m k x = dotGo ys xs m k x
  | 0, _, _ => rfl
  | m + 1, k, x => by
    simp only [dotGo]
    by_cases h : isB (xs.getD k 0) = true ∧ isB (ys.getD k 0) = true
    · rw [if_pos h, if_pos ⟨h.2, h.1⟩]
      obtain ⟨A, hA, eA⟩ := isB_nat h.1
      obtain ⟨B, hB, eB⟩ := isB_nat h.2
      rw [eA, eB, Int.toNat_natCast, Int.toNat_natCast, Gf.mul_comm hA hB]
      exact dotGo_comm xs ys m _ _
    · rw [if_neg h, if_neg (fun h' => h ⟨h'.2, h'.1⟩)]
theorem dotI_comm (xs ys : List Int) : (dotI xs ys != dotI ys xs) = false := by
  have e : dotI xs ys = dotI ys xs := by
    simp only [dotI]
    by_cases h : xs.length = ys.length
    · rw [if_pos h, if_pos h.symm, dotGo_comm, h]
    · rw [if_neg h, if_neg (Ne.symm h)]
  rw [e]
  simp
end Go.Proofs.YteiefhkolaiinaaDoor
