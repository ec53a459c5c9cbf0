/- The model's text of a polynomial, at any list of at most 2^20 numbers. -/
import Derived.Test.YtdnddimkgddooaaDoorPTxt
import Derived.Test.YtdnddimkgddooaaDoorPSpec
namespace Go.Proofs.YtdnddimkgddooaaDoor
open Go.ChangeShapes Go.WideShapes Go.ChangeAt Go.RowKit

theorem decDigits_dgt {n : Nat} (h : n < 256) : Lib.decDigits n = dgt n := by
  rw [Lib.decDigits]
  by_cases h1 : n < 10
  · rw [dif_pos h1]
    unfold dgt dz
    by_cases h0 : n = 0
    · subst h0; rfl
    · rw [if_neg h0, if_neg h0, if_pos h1]
  · rw [dif_neg h1, Lib.decDigits]
    unfold dgt dz
    rw [if_neg (by omega), if_neg (by omega), if_neg h1]
    by_cases h2 : n < 100
    · rw [dif_pos (by omega), if_pos h2]
      rfl
    · rw [dif_neg (by omega), if_neg h2, Lib.decDigits, dif_pos (by omega), show n / 10 / 10 = n / 100 by omega]
      rfl
theorem dgt_len (n : Nat) : (dgt n).length ≤ 3 := by
  unfold dgt
  split
  · simp
  · exact dz_len n
theorem dgt_ne (n : Nat) : dgt n ≠ [] := by
  unfold dgt dz
  by_cases h0 : n = 0
  · rw [if_pos h0]; simp
  · rw [if_neg h0, if_neg h0]
    by_cases h1 : n < 10
    · rw [if_pos h1]; simp
    · rw [if_neg h1]
      by_cases h2 : n < 100
      · rw [if_pos h2]; simp
      · rw [if_neg h2]; simp
/-- The text of the first 'k' numbers. -/
def jk (f : Nat → Nat) : Nat → List UInt8
  | 0 => []
  | k + 1 => if k = 0 then dgt (f 0) else jk f k ++ 32 :: dgt (f k)
theorem jk_s (f : Nat → Nat) (k : Nat) : jk f (k + 1) = if k = 0 then dgt (f 0) else jk f k ++ 32 :: dgt (f k) := rfl
theorem jk_len (f : Nat → Nat) (k : Nat) : (jk f k).length ≤ 4 * k := by
  induction k with
  | zero => exact Nat.le_refl _
  | succ k ih =>
    rw [jk_s]
    split
    · have := dgt_len (f 0); omega
    · have := dgt_len (f k)
      simp
      omega
theorem jk_ne (f : Nat → Nat) (k : Nat) (h : k ≠ 0) : jk f k ≠ [] := by
  obtain ⟨j, rfl⟩ : ∃ j, k = j + 1 := ⟨k - 1, by omega⟩
  rw [jk_s]
  split
  · exact dgt_ne _
  · simp
def textP (xs : List Int) : ByteArray :=
  if okB xs = true then if xs.length = 0 then ⟨#[45]⟩ else ⟨(jk (coP xs) xs.length).toArray⟩ else ByteArray.empty
theorem mk_toList (S : ByteArray) (l : List UInt8) (h : S.data.toList = l) : S = ⟨l.toArray⟩ := by rw [← h]

set_option maxRecDepth 100000 in
set_option maxHeartbeats 1000000 in
theorem sText_any (a : Option Addr) (n cap : Nat) (xs : List Int) (w : World) (ha : IntsAt w a n xs) (hn : n ≤ 1048576) :
    Calls Tryd.prog 12 #[.slice a n cap] w fun e w' => e = .returned (.string (textP xs)) ∧ w' = w := by
  have hX := sOk_any a n cap xs w ha hn
  by_cases hx : okB xs = true
  · rw [hx] at hX
    have hl := ha.1
    have h40 := (okB_parts hx).1
    have px := (okB_parts hx).2.2.1
    have hA : IntsAt w a n (eI (coP xs) n) := by
      have e := (okB_parts hx).2.2.2.1
      rw [hl] at e
      rw [← e]
      exact ha
    have HT : Hid (textP xs = if n = 0 then ⟨#[45]⟩ else ⟨(jk (coP xs) n).toArray⟩) := by show _ = _; unfold textP; rw [if_pos hx, hl]
    rw [hl] at h40
    have pxl := px.1
    clear ha hl px hx
    generalize coP xs = f at *
    generalize textP xs = res at *
    go_enter Tryd.func12, Tryd.ntmps12
    go_wp2_with fail
    refine hX.mono ?_
    rintro e w1 ⟨rfl, hw⟩
    obtain rfl := hw.symm
    clear hX hw
    go_wp2
    go_loop [3, 4] (fun o i => ∃ (k : Nat) (S : ByteArray), k ≤ n ∧ i = .int .i64 (k : Int) ∧ o = .string S ∧ S.size ≤ 4 * k ∧ Hid (S.data.toList = jk f k)) (fun _ i => n - (intOf i).toNat)
    case atStart => exact ⟨0, ByteArray.empty, Nat.zero_le _, rfl, rfl, by decide, rfl⟩
    case round =>
      obtain ⟨k, S, hk, rfl, rfl, hS, HJ⟩ := hrel
      by_cases hlt : k < n
      · obtain ⟨b, off, rfl, hc⟩ := intsE hA hlt
        have hltI : (k : Int) < (n : Int) := by omega
        have hfk := pxl k
        have hdl : (decS (f k)).size ≤ 3 := dgt_len (f k)
        have HDe : Hid ((decS (f k)).data.toList = dgt (f k)) := rfl
        by_cases hk0 : k = 0
        · subst hk0
          have HN : Hid ((S ++ decS (f 0)).data.toList = jk f (0 + 1)) := by
            show _ = _
            rw [ByteArray.data_append, Array.toList_append, HJ.out, HDe.out, jk_s, if_pos rfl]
            rfl
          have hsz : (S ++ decS (f 0)).size ≤ 4 * (0 + 1) := by rw [ByteArray.size_append]; omega
          rw [Nat.add_zero] at hc
          clear hA pxl
          go_wp2_with (go_at_call 36; refine (sDec_nat (f 0) _ hfk).mono ?_; rintro e w' ⟨rfl, rfl⟩)
          go_round
          case rel => exact ⟨0 + 1, _, by omega, by go_num, rfl, hsz, HN.out⟩
          case measure => simp [intOf] <;> omega
        · have hk0I : (0 : Int) < (k : Int) := by omega
          have HN : Hid ((S ++ ⟨#[32]⟩ ++ decS (f k)).data.toList = jk f (k + 1)) := by
            show _ = _
            rw [ByteArray.data_append, ByteArray.data_append, Array.toList_append, Array.toList_append, HJ.out, HDe.out, jk_s, if_neg hk0, List.append_assoc]
            rfl
          have hs1 : (S ++ ⟨#[32]⟩ : ByteArray).size = S.size + 1 := by rw [ByteArray.size_append]; rfl
          have hsz : (S ++ ⟨#[32]⟩ ++ decS (f k)).size ≤ 4 * (k + 1) := by rw [ByteArray.size_append, hs1]; omega
          clear hA pxl
          go_wp2_with (go_at_call 36; refine (sDec_nat (f k) _ hfk).mono ?_; rintro e w' ⟨rfl, rfl⟩)
          go_round
          case rel => exact ⟨k + 1, _, by omega, by go_num, rfl, hsz, HN.out⟩
          case measure => simp [intOf] <;> omega
      · obtain rfl : k = n := by omega
        have hS2 : S = ⟨(jk f k).toArray⟩ := mk_toList S _ HJ.out
        clear hA pxl
        by_cases hk0 : k = 0
        · subst hk0
          have he : S = ⟨#[]⟩ := hS2
          subst he
          have HR : Hid (res = ⟨#[45]⟩) := by show _ = _; rw [HT.out, if_pos rfl]
          clear hS2 HJ HT
          go_wp2
          go_ret
          exact ⟨by rw [HR.out] <;> rfl, rfl⟩
        · have HR : Hid (res = S) := by show _ = _; rw [HT.out, if_neg hk0, hS2]
          have hne : S.toList.isEmpty = false := by
            rw [ByteArray.toList_eq]
            cases hl : S.data.toList with
            | nil =>
              have := HJ.out
              rw [hl] at this
              exact absurd this.symm (jk_ne f k hk0)
            | cons _ _ => rfl
          clear hS2 HJ HT
          go_wp2
          go_ret
          exact ⟨by rw [HR.out] <;> rfl, rfl⟩
  · have hx' : okB xs = false := by simpa using hx
    rw [hx'] at hX
    have HT : Hid (textP xs = ByteArray.empty) := by show _ = _; unfold textP; rw [if_neg hx]
    clear ha
    generalize textP xs = res at *
    go_enter Tryd.func12, Tryd.ntmps12
    go_wp2_with fail
    refine hX.mono ?_
    rintro e w1 ⟨rfl, hw⟩
    obtain rfl := hw.symm
    clear hX hw
    go_wp2
    go_ret
    exact ⟨by rw [HT.out] <;> rfl, rfl⟩
end Go.Proofs.YtdnddimkgddooaaDoor
