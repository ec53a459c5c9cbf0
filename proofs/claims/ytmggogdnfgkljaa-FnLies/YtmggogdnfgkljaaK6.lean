/- Texts scaled and summed byte by byte, in the program and in its model: what each answers at every text and number. Condition: texts of at most 2^20 bytes. -/
import Derived.Test.YtmggogdnfgkljaaK1
import Derived.Laws.BytesArg
import Derived.Deep.QuietTactic
import Derived.BigQuiet
import Derived.Deep.RegionHeld3
import Derived.Deep.AppendLies
import Derived.Test.YtmggogdnfgkljaaK2
namespace Go.Proofs.Ytmggogdnfgkljaa
open Go.ChangeShapes Go.WideShapes Go.ChangeAt Go.RowKit

theorem ret_str {a b : ByteArray} (h : a = b) : Ending.returned (.string a) = .returned (.string b) := by rw [h]
theorem u8_lt (c : UInt8) : c.toNat < 256 := c.toNat_lt

def scaleL (s : ByteArray) (A : Nat) : List Int := s.data.toList.map fun c => ((Gf.mul c.toNat A : Nat) : Int)
def scaleS (s : ByteArray) (a : Int) : ByteArray := if isB a = true then strOfNums (scaleL s a.toNat) else ByteArray.empty
theorem scaleL_len (s : ByteArray) (A : Nat) : (scaleL s A).length = s.size := by simp [scaleL]
theorem scaleL_at (s : ByteArray) (A k : Nat) (h : k < s.size) : (scaleL s A).getD k 0 = ((Gf.mul s[k].toNat A : Nat) : Int) := by
  have h' : k < s.data.toList.length := by simpa using h
  simp only [scaleL, List.getD, List.getElem?_map, List.getElem?_eq_getElem h', Option.map_some, Option.getD_some]
  rfl

set_option maxHeartbeats 1000000 in
theorem sScale_nat (s : ByteArray) (A : Nat) (w : World) (hs : s.size ≤ 1048576) (hA : A < 256) :
    Calls Try.prog 119 #[.string s, .int .i64 (A : Int)] w fun e w' => e = .returned (.string (strOfNums (scaleL s A))) ∧ Below w.heap.size w w' := by
  obtain ⟨i0, hi, hz0, hz1, hz2⟩ := info_parts Try.infoByte
  have ia := isB_ofNat hA
  obtain ⟨xs, HX⟩ : ∃ xs, Hid (xs = scaleL s A) := ⟨_, rfl⟩
  obtain ⟨n, hn⟩ : ∃ n, s.size = n := ⟨_, rfl⟩
  have HL : Hid (xs.length = n) := by show _ = _; rw [HX.out, scaleL_len, hn]
  go_enter Try.func119, Try.ntmps119
  go_wp2_with fail
  refine (sIs_any _ _).mono ?_
  rintro e w' ⟨rfl, hw⟩
  obtain rfl := hw.symm
  go_wp2
  clear hw ia
  have ho1 : (w.alloc (.cells #[] 5)).ownsRow w.heap.size 5 1 (.slice (some ⟨w.heap.size, 0, none⟩) 0 0) 0 ((xs.take 0).map (Value.int .u8)) :=
    World.ownsRow_lit w #[] 0 (Nat.le_refl _) (by unfold maxLen; omega) rfl
  go_loopw [5, 6] (fun v i wr => ∃ k : Nat, k ≤ n ∧ i = .int .i64 k ∧ wr.ownsRow w.heap.size 5 1 v k ((xs.take k).map (Value.int .u8)) ∧ Hid (v ≠ .slice none 0 0) ∧ Below w.heap.size w wr) (fun _ i _ => n - (intOf i).toNat)
  case atStart => exact ⟨0, Nat.zero_le _, rfl, ho1, by simp [Hid], (Below.refl _ _).alloc (Nat.le_refl _) _⟩
  case round =>
    obtain ⟨k, hk, rfl, hown, HV, hbel⟩ := hrel
    clear ho1
    by_cases hlt : k < n
    · have hks : k < s.size := by omega
      have hml := Gf.mul_lt (u8_lt s[k]) hA
      have HE : Hid (xs.take (k + 1) = xs.take k ++ [((Gf.mul s[k].toNat A : Nat) : Int)]) := by
        show _ = _
        rw [take_snoc xs k (by rw [HL.out]; exact hlt), HX.out, scaleL_at s A k hks]
      have hcl := u8_lt s[k]
      go_wp2_with fail
      refine (sMul_nat _ A _ hcl hA).mono ?_
      rintro e w1 ⟨rfl, hw1⟩
      obtain rfl := hw1.symm
      go_wp2_with (at_builtin; refine wpList_append_own _ rfl _ _ 22 rfl w.heap.size 5 i0 (.int .u8 0) 1 1 Try.underlying22 hi hz0 hz1 hz2 rfl (by decide) _ _ _ rfl (hown.alloc _) ⟨wr.heap.size, 0, none⟩ 1 1 [.int .u8 ((Gf.mul s[k].toNat A : Nat) : Int)] rfl rfl ?c1 ?c2 ?c3 ?c4 ?c5 ?_)
      case c1 =>
        intro j u hj
        match j, hj with
        | 0, hj => simp at hj; subst hj; simp [Addr.add]
      case c2 => intro u hu; simp at hu; subst hu; rfl
      case c3 => unfold maxLen; omega
      case c4 => omega
      case c5 => have := hbel.size; simp; omega
      · intro v' w1 hown' hgrow hnil
        have HV' : Hid (v' ≠ .slice none 0 0) := hnil
        have HO : Hid (w1.ownsRow w.heap.size 5 1 v' (k + 1) ((xs.take (k + 1)).map (Value.int .u8))) := by
          rw [HE.out, List.map_append, List.map_take]
          exact hown'
        have hb' : Below w.heap.size w w1 := (hbel.alloc hbel.size _).grown hgrow (by have := hbel.size; simp; omega) (fun j hj => (hown.lt j hj).1)
        clear hown' hgrow hnil hown
        go_wp2
        go_roundw
        case rel => exact ⟨k + 1, by omega, by go_num, HO.out, HV'.out, hb'⟩
        case measure => simp [intOf]; omega
    · have e : k = n := by omega
      subst e
      rw [List.take_of_length_le (by rw [HL.out]; omega)] at hown
      obtain ⟨g, cap, rfl⟩ : ∃ g cap, u5 = .slice (some ⟨g, 0, none⟩) k cap := by
        rcases hown.2 with h | ⟨g, cap, cur, h, _⟩
        · exact absurd h.1 HV.out
        · exact ⟨g, cap, h⟩
      have hcv := run_convert_bytes_arg (P := Try.prog) wr 22 5 Try.underlying22 Try.underlying5 g 0 k cap xs HL.out (fun i hi => by
        rw [Nat.zero_add, hown.cellAt i (by omega)]
        simp [HL.out, hi]) 9 Try.underlying9
      go_wp2
      go_ret
      exact ⟨ret_str (by rw [HX.out]), hbel⟩

set_option maxHeartbeats 400000 in
theorem sScale_any (s : ByteArray) (a : Int) (w : World) (hs : s.size ≤ 1048576) :
    Calls Try.prog 119 #[.string s, .int .i64 a] w fun e w' => e = .returned (.string (scaleS s a)) ∧ Below w.heap.size w w' := by
  by_cases ha : isB a = true
  · obtain ⟨A, hA, rfl⟩ := isB_nat ha
    refine (sScale_nat s A w hs hA).mono ?_
    rintro e w' ⟨rfl, hb⟩
    exact ⟨ret_str (by simp [scaleS, ha]), hb⟩
  · have ha' : isB a = false := by simpa using ha
    go_enter Try.func119, Try.ntmps119
    go_wp2_with (go_at_call 112; refine (sIs_any _ _).mono ?_; rintro e w' ⟨rfl, rfl⟩)
    go_ret
    exact ⟨ret_str (by simp [scaleS, ha]; rfl), Below.refl _ _⟩
end Go.Proofs.Ytmggogdnfgkljaa

/- Texts summed byte by byte, in the program and in its model: what each answers at every two texts. Condition: texts of at most 2^20 bytes. -/
namespace Go.Proofs.Ytmggogdnfgkljaa
open Go.ChangeShapes Go.WideShapes Go.ChangeAt Go.RowKit

def addL (s t : ByteArray) : List Int := List.zipWith (fun (c d : UInt8) => ((c.toNat ^^^ d.toNat : Nat) : Int)) s.data.toList t.data.toList
def addS (s t : ByteArray) : ByteArray := if s.size = t.size then strOfNums (addL s t) else ByteArray.empty
theorem addL_len (s t : ByteArray) (h : s.size = t.size) : (addL s t).length = s.size := by
  have h' : s.data.toList.length = t.data.toList.length := by simpa using h
  simp [addL] at *
  omega
theorem addL_at (s t : ByteArray) (k : Nat) (h : k < s.size) (h2 : k < t.size) : (addL s t).getD k 0 = ((s[k].toNat ^^^ t[k].toNat : Nat) : Int) := by
  have h' : k < s.data.toList.length := by simpa using h
  have h'' : k < t.data.toList.length := by simpa using h2
  simp only [addL, List.getD, List.getElem?_zipWith, List.getElem?_eq_getElem h', List.getElem?_eq_getElem h'', Option.getD_some]
  rfl

set_option maxHeartbeats 1000000 in
theorem sAddT_same (s t : ByteArray) (w : World) (hs : s.size ≤ 1048576) (ht : s.size = t.size) :
    Calls Try.prog 120 #[.string s, .string t] w fun e w' => e = .returned (.string (strOfNums (addL s t))) ∧ Below w.heap.size w w' := by
  obtain ⟨i0, hi, hz0, hz1, hz2⟩ := info_parts Try.infoByte
  obtain ⟨xs, HX⟩ : ∃ xs, Hid (xs = addL s t) := ⟨_, rfl⟩
  obtain ⟨n, hn⟩ : ∃ n, s.size = n := ⟨_, rfl⟩
  have hn2 : t.size = n := by omega
  have HL : Hid (xs.length = n) := by show _ = _; rw [HX.out, addL_len s t ht, hn]
  clear ht
  go_enter Try.func120, Try.ntmps120
  go_wp2
  have ho1 : (w.alloc (.cells #[] 5)).ownsRow w.heap.size 5 1 (.slice (some ⟨w.heap.size, 0, none⟩) 0 0) 0 ((xs.take 0).map (Value.int .u8)) :=
    World.ownsRow_lit w #[] 0 (Nat.le_refl _) (by unfold maxLen; omega) rfl
  go_loopw [5, 6] (fun v i wr => ∃ k g cap : Nat, k ≤ n ∧ i = .int .i64 k ∧ v = .slice (some ⟨g, 0, none⟩) k cap ∧ wr.ownsRow w.heap.size 5 1 (.slice (some ⟨g, 0, none⟩) k cap) k ((xs.take k).map (Value.int .u8)) ∧ Below w.heap.size w wr) (fun _ i _ => n - (intOf i).toNat)
  case atStart => exact ⟨0, _, _, Nat.zero_le _, rfl, rfl, ho1, (Below.refl _ _).alloc (Nat.le_refl _) _⟩
  case round =>
    obtain ⟨k, g, cap, hk, rfl, rfl, hown, hbel⟩ := hrel
    clear ho1
    by_cases hlt : k < n
    · have hks : k < s.size := by omega
      have hkt : k < t.size := by omega
      have hlti : (k : Int) < (n : Int) := by omega
      have hxr : bits .xor .u8 (s[k].toNat : Int) (t[k].toNat : Int) = ((s[k].toNat ^^^ t[k].toNat : Nat) : Int) := u8_xor_nat _ _ (u8_lt _) (u8_lt _)
      have HE : Hid (xs.take (k + 1) = xs.take k ++ [((s[k].toNat ^^^ t[k].toNat : Nat) : Int)]) := by
        show _ = _
        rw [take_snoc xs k (by rw [HL.out]; exact hlt), HX.out, addL_at s t k hks hkt]
      have hsz := hbel.size
      go_wp2_with fail
      go_region_held3 (fun _ => True) (trivial) ((refine step_append_lies _ (by rfl) _ _ _ (by rfl) w.heap.size 5 i0 _ 1 1 Try.underlying22 hi hz0 hz1 hz2 rfl (by omega) (.slice (some ⟨g, 0, none⟩) k cap) k _ (by rfl) ((hown.alloc _).drew) ⟨wr.heap.size, 0, none⟩ 1 1 [.int .u8 ((s[k].toNat ^^^ t[k].toNat : Nat) : Int)] (by rfl) (by rfl) (World.news_of_block (cs := #[.int .u8 ((s[k].toNat ^^^ t[k].toNat : Nat) : Int)]) (t := 5) (fr := (0, 0)) (heap_alloc_new wr _)) (by simp [Value.oneCell']) (by omega) (by unfold maxLen; omega) (by omega) (by simp; omega) (wr.heap.size + 1) (by simp) ?_; intro gg cap2 w1 hown1 hgrow hat hltg))
      all_goals
        have HO : Hid (w1.ownsRow w.heap.size 5 1 (.slice (some ⟨gg, 0, none⟩) (k + 1) cap2) (k + 1) ((xs.take (k + 1)).map (Value.int .u8))) := by
          rw [HE.out, List.map_append]
          first | exact hown1 | (rw [List.map_take]; exact hown1)
        have hb' : Below w.heap.size w w1 := ((hbel.alloc hsz _).drew).grown hgrow (by simp; omega) (fun j hj => (hown.lt j hj).1)
        clear hown1 hgrow hown hat hltg
        go_wp2
        go_roundw
        case rel => exact ⟨k + 1, gg, cap2, by omega, by go_num, rfl, HO.out, hb'⟩
        case measure => simp [intOf]; omega
    · have e : k = n := by omega
      subst e
      rw [List.take_of_length_le (by rw [HL.out]; omega)] at hown
      have hcv := run_convert_bytes_arg (P := Try.prog) wr 22 5 Try.underlying22 Try.underlying5 g 0 k cap xs HL.out (fun i hi => by
        rw [Nat.zero_add, hown.cellAt i (by omega)]
        simp [HL.out, hi]) 9 Try.underlying9
      go_wp2
      go_ret
      exact ⟨ret_str (by rw [HX.out]), hbel⟩

set_option maxHeartbeats 400000 in
theorem sAddT_any (s t : ByteArray) (w : World) (hs : s.size ≤ 1048576) :
    Calls Try.prog 120 #[.string s, .string t] w fun e w' => e = .returned (.string (addS s t)) ∧ Below w.heap.size w w' := by
  by_cases ha : s.size = t.size
  · refine (sAddT_same s t w hs ha).mono ?_
    rintro e w' ⟨rfl, hb⟩
    exact ⟨ret_str (by simp [addS, ha]), hb⟩
  · have ha' : ((s.size : Int) != (t.size : Int)) = true := by simp; omega
    go_enter Try.func120, Try.ntmps120
    go_wp2
    go_ret
    exact ⟨ret_str (by simp [addS, ha]; rfl), Below.refl _ _⟩
end Go.Proofs.Ytmggogdnfgkljaa

/- The plain mathematics of texts that are scaled and summed, and of sums of products. No condition. -/
namespace Go.Proofs.Ytmggogdnfgkljaa

def tat (s : ByteArray) (k : Nat) : Nat := (s.data.toList.getD k 0).toNat
theorem tat_lt (s : ByteArray) (k : Nat) : tat s k < 256 := u8_lt _
theorem tat_in (s : ByteArray) (k : Nat) (h : k < s.size) : tat s k = s[k].toNat := by
  have h' : k < s.data.toList.length := by simpa using h
  simp only [tat, List.getD, List.getElem?_eq_getElem h', Option.getD_some]
  rfl
theorem tat_out (s : ByteArray) (k : Nat) (h : ¬ k < s.size) : tat s k = 0 := by
  have h' : s.data.toList.length ≤ k := by simp at h ⊢; exact h
  simp [tat, List.getD, List.getElem?_eq_none h']
theorem str_ext {s u : ByteArray} (h : s.size = u.size) (he : ∀ k, tat s k = tat u k) : s = u := by
  apply ByteArray.ext
  apply Array.toList_inj.1
  apply List.ext_getElem?
  intro k
  by_cases hk : k < s.size
  · have h1 : k < s.data.toList.length := by simpa using hk
    have h2 : k < u.data.toList.length := by rw [h] at hk; simpa using hk
    have e := he k
    simp only [tat, List.getD, List.getElem?_eq_getElem h1, List.getElem?_eq_getElem h2, Option.getD_some] at e
    rw [List.getElem?_eq_getElem h1, List.getElem?_eq_getElem h2, UInt8.toNat_inj.1 e]
  · have h1 : s.data.toList.length ≤ k := by simp at hk ⊢; exact hk
    have h2 : u.data.toList.length ≤ k := by rw [h] at hk; simp at hk ⊢; exact hk
    rw [List.getElem?_eq_none h1, List.getElem?_eq_none h2]
theorem tat_str (xs : List Int) (k : Nat) : tat (strOfNums xs) k = (xs.getD k 0).toNat % 256 := by
  simp only [tat, strOfNums_data, List.getD, List.getElem?_map]
  cases xs[k]? with
  | none => rfl
  | some v => simp

theorem addS_size {x y : ByteArray} (h : x.size = y.size) : (addS x y).size = x.size := by
  simp only [addS]
  rw [if_pos h, strOfNums_size, addL_len x y h]
theorem addS_le (x y : ByteArray) : (addS x y).size ≤ x.size := by
  by_cases h : x.size = y.size
  · rw [addS_size h]; omega
  · simp only [addS]; rw [if_neg h]; simp
theorem tat_add {x y : ByteArray} (h : x.size = y.size) (k : Nat) : tat (addS x y) k = tat x k ^^^ tat y k := by
  by_cases hk : k < x.size
  · have hk2 : k < y.size := by omega
    simp only [addS]
    rw [if_pos h, tat_str, addL_at x y k hk hk2, Int.toNat_natCast, tat_in x k hk, tat_in y k hk2]
    exact Nat.mod_eq_of_lt (Gf.xor_lt (u8_lt _) (u8_lt _))
  · rw [tat_out x k hk, tat_out y k (by omega), tat_out _ k (by rw [addS_size h]; exact hk)]
    rfl
theorem scaleS_size {s : ByteArray} {a : Int} (h : isB a = true) : (scaleS s a).size = s.size := by
  simp only [scaleS]
  rw [if_pos h, strOfNums_size, scaleL_len]
theorem scaleS_le (s : ByteArray) (a : Int) : (scaleS s a).size ≤ s.size := by
  by_cases h : isB a = true
  · rw [scaleS_size h]; omega
  · simp only [scaleS]; rw [if_neg h]; simp
theorem tat_scale (s : ByteArray) {A : Nat} (hA : A < 256) (k : Nat) : tat (scaleS s (A : Int)) k = Gf.mul (tat s k) A := by
  have h := isB_ofNat hA
  by_cases hk : k < s.size
  · simp only [scaleS]
    rw [if_pos h, tat_str, Int.toNat_natCast, scaleL_at s A k hk, Int.toNat_natCast, tat_in s k hk]
    exact Nat.mod_eq_of_lt (Gf.mul_lt (u8_lt _) hA)
  · rw [tat_out s k hk, tat_out _ k (by rw [scaleS_size h]; exact hk), Gf.zero_mul hA]

theorem texts1 {x y : ByteArray} (h : x.size = y.size) : addS (addS x y) y = x := by
  have h1 := addS_size h
  refine str_ext (by rw [addS_size (by omega), h1]) fun k => ?_
  rw [tat_add (by omega), tat_add h, Nat.xor_assoc, Nat.xor_self, Nat.xor_zero]
theorem texts2 {x y : ByteArray} {a : Int} (h : x.size = y.size) (ha : isB a = true) : addS (scaleS x a) (scaleS y a) = scaleS (addS x y) a := by
  have hs : (scaleS x a).size = (scaleS y a).size := by rw [scaleS_size ha, scaleS_size ha, h]
  refine str_ext (by rw [addS_size hs, scaleS_size ha, scaleS_size ha, addS_size h]) fun k => ?_
  rw [tat_add hs]
  obtain ⟨A, hA, rfl⟩ := isB_nat ha
  rw [tat_scale _ hA, tat_scale _ hA, tat_scale _ hA, tat_add h, Gf.mul_comm (tat_lt x k) hA, Gf.mul_comm (tat_lt y k) hA, Gf.mul_comm (Gf.xor_lt (tat_lt x k) (tat_lt y k)) hA, Gf.mul_xor]
theorem texts3 {s : ByteArray} {a : Int} (ha : isB a = true) (h0 : a ≠ 0) : scaleS (scaleS s a) (invI a) = s := by
  obtain ⟨A, hA, rfl⟩ := isB_nat ha
  have hi : invI (A : Int) = ((Gf.inv A : Nat) : Int) := by
    simp only [invI]
    rw [if_pos (by omega), Int.toNat_natCast]
  rw [hi]
  have hb := isB_ofNat (Gf.inv_lt A)
  refine str_ext (by rw [scaleS_size hb, scaleS_size ha]) fun k => ?_
  rw [tat_scale _ (Gf.inv_lt A), tat_scale _ hA, Gf.mul_assoc (tat_lt s k) hA (Gf.inv_lt A), Gf.mul_inv hA (by omega), Gf.mul_one (tat_lt s k)]
theorem dotGo_comm (xs ys : List Int) : ∀ m k x, dotGo xs ys m k x = dotGo ys xs m k x
  | 0, _, _ => rfl
  | m + 1, k, x => by
    simp only [dotGo]
    by_cases h : isB (xs.getD k 0) = true ∧ isB (ys.getD k 0) = true
    · rw [if_pos h, if_pos ⟨h.2, h.1⟩]
      obtain ⟨A, hA, eA⟩ := isB_nat h.1
      obtain ⟨B, hB, eB⟩ := isB_nat h.2
      rw [eA, eB, Int.toNat_natCast, Int.toNat_natCast, Gf.mul_comm hA hB]
      exact dotGo_comm xs ys m _ _
    · rw [if_neg h, if_neg (fun h' => h ⟨h'.2, h'.1⟩)]
theorem dotI_comm (xs ys : List Int) : (dotI xs ys != dotI ys xs) = false := by
  have e : dotI xs ys = dotI ys xs := by
    simp only [dotI]
    by_cases h : xs.length = ys.length
    · rw [if_pos h, if_pos h.symm, dotGo_comm, h]
    · rw [if_neg h, if_neg (Ne.symm h)]
  rw [e]
  simp
end Go.Proofs.Ytmggogdnfgkljaa

/- The draws of chapter one's laws: what each gives, at any bytes. Condition: at most 2^20 bytes. -/
namespace Go.Proofs.Ytmggogdnfgkljaa
open Go.ChangeShapes Go.WideShapes Go.ChangeAt Go.RowKit

/-- The bytes of a draw's code. -/
def CodeAt (w : World) (a : Option Addr) (n : Nat) : Prop :=
  n ≤ 1048576 ∧ ∀ j, j < n → ∃ b off x, a = some ⟨b, off, none⟩ ∧ w.cell? ⟨b, off + j, none⟩ = some (.int .u8 x) ∧ 0 ≤ x ∧ x ≤ 255
theorem CodeAt.below {w w' : World} {a : Option Addr} {n : Nat} (h : CodeAt w a n) (hb : Below w.heap.size w w') : CodeAt w' a n :=
  ⟨h.1, fun j hj => by
    obtain ⟨b, off, x, e, hc, hx⟩ := h.2 j hj
    exact ⟨b, off, x, e, (hb.cell (p := ⟨b, off + j, none⟩) (block_lt_of_cell hc)).trans hc, hx⟩⟩
theorem CodeAt.bytes {w : World} {a : Option Addr} {n : Nat} (h : CodeAt w a n) (g : Nat) (hg : w.heap.size ≤ g) : BytesAt w a n g := by
  intro j hj
  obtain ⟨b, off, x, e, hc, hx⟩ := h.2 j hj
  have := block_lt_of_cell hc
  exact ⟨b, off, x, e, by simp at this; omega, hc, hx⟩
theorem IsRow.code {w : World} {a : Option Addr} {len cap : Nat} {zs : List Int} (h : IsRow .u8 w a len cap zs) (hn : len ≤ 1048576) : CodeAt w a len := by
  refine ⟨hn, ?_⟩
  rcases h with ⟨rfl, rfl, rfl, rfl⟩ | ⟨x, rfl, hl, hm, hz, hcell, hwz⟩
  · intro j hj; omega
  · intro i hi
    obtain ⟨b, off, spot⟩ := x
    have hc := hcell i (by omega)
    have hspot : spot = none := by simpa [Addr.add] using World.cell?_spot (hcell 0 (by omega))
    subst hspot
    have ea : (⟨b, off, none⟩ : Addr).add i = ⟨b, off + i, none⟩ := by unfold Addr.add; split <;> simp_all
    rw [ea] at hc
    have hmem : zs.getD i 0 ∈ zs := by
      have hi2 : i < zs.length := by omega
      simp [hi2]
    have hb := bounds_u8 (hwz _ hmem)
    exact ⟨b, off, _, rfl, hc, by omega, by omega⟩

end Go.Proofs.Ytmggogdnfgkljaa

/- The field's functions called one behind the other: each answers as it does, and nothing that was there at the first turns. No condition. -/
namespace Go.Proofs.Ytmggogdnfgkljaa
open Go.ChangeShapes Go.WideShapes Go.ChangeAt Go.RowKit

theorem from_w {P : Program} {fn : FuncId} {args : Array Value} {v : Ending} (w0 w : World) (h0 : Below w0.heap.size w0 w)
    (h : Calls P fn args w fun e w' => e = v ∧ Below w.heap.size w w') : Calls P fn args w fun e w' => e = v ∧ Below w0.heap.size w0 w' :=
  h.mono fun _ _ ⟨he, hb⟩ => ⟨he, h0.trans (hb.mono h0.size)⟩

set_option maxHeartbeats 400000 in
theorem big_any (a : Option Addr) (n cap : Nat) (w : World) : Calls Try.prog 14 #[.slice a n cap] w fun e w' => e = .returned (.bool (decide (1048576 < (n : Int)))) ∧ w' = w := by
  go_enter Try.func14, Try.ntmps14
  go_wp2
  go_ret
  exact ⟨rfl, rfl⟩
end Go.Proofs.Ytmggogdnfgkljaa

/- The draws of texts and lists: what each gives, at any bytes. Condition: at most 2^20 bytes of code, and a text or list of at most 16. -/
namespace Go.Proofs.Ytmggogdnfgkljaa
open Go.ChangeShapes Go.WideShapes Go.ChangeAt Go.RowKit

/-- The code's bytes lie below the cursor. -/
def Under (a : Option Addr) (n g : Nat) : Prop := 0 < n → ∀ b off, a = some ⟨b, off, none⟩ → b < g
theorem CodeAt.under {w : World} {a : Option Addr} {n g : Nat} (h : CodeAt w a n) (hg : w.heap.size ≤ g) : Under a n g := by
  intro hn b off e
  obtain ⟨b', off', x, e', hc, _⟩ := h.2 0 hn
  rw [e] at e'
  simp at e'
  have := block_lt_of_cell hc
  simp at this
  omega
theorem Cur.far {w w' : World} {g n cap r : Nat} {a : Option Addr} (h : Cur w g a n cap) (hg : w.grownBy w' (some r)) (hr : g < r) (hab : Under a n g) : Cur w' g a n cap := by
  obtain ⟨hn, ⟨i, hh, hi, hblk⟩, hby⟩ := h
  refine ⟨hn, ⟨i, hh, hi, ?_⟩, ?_⟩
  · rw [hg.block g (Array.getElem?_eq_some_iff.1 hblk).1 (by simp; omega)]; exact hblk
  · intro j hj
    obtain ⟨b, off, x, e, hbg, hc, hx⟩ := hby j hj
    have := hab (by omega) b off e
    exact ⟨b, off, x, e, hbg, hg.cell hc (by simp; omega), hx⟩
/-- Of what was there at the first, block 'g' alone may have turned. -/
theorem grown_new {w0 w w' : World} {g r : Nat} (h : w0.grownBy w (some g)) (k : w.grownBy w' (some r)) (hr : w0.heap.size ≤ r) : w0.grownBy w' (some g) :=
  ⟨k.os.trans h.os, k.tape.trans h.tape, k.output.trans h.output, Nat.le_trans h.size k.size, fun j hj hn => (k.block j (Nat.lt_of_lt_of_le hj h.size) (by simp; omega)).trans (h.block j hj hn)⟩

set_option maxHeartbeats 1000000 in
theorem bytes_any (g n cap : Nat) (a : Option Addr) (m : Nat) (w : World) (hc : Cur w g a n cap) (hab : Under a n g) (hm : m ≤ 1000) :
    Calls Try.prog 91 #[.pointer (some ⟨g, 0, none⟩), .int .i64 (m : Int)] w fun e w' => ∃ s : ByteArray, s.size = m ∧ e = .returned (.string s) ∧ w.grownBy w' (some g) ∧ Cur w' g a n cap := by
  obtain ⟨i0, hi, hz0, hz1, hz2⟩ := info_parts Try.infoByte
  have hgl := hc.lt
  go_enter Try.func91, Try.ntmps91
  go_wp2
  have ho1 : (w.alloc (.cells #[] 5)).ownsRow w.heap.size 5 1 (.slice (some ⟨w.heap.size, 0, none⟩) 0 0) 0 (([] : List Int).map (Value.int .u8)) :=
    World.ownsRow_lit w #[] 0 (Nat.le_refl _) (by unfold maxLen; omega) rfl
  go_loopw [5, 6] (fun v i wr => ∃ (k gg cap2 : Nat) (xs : List Int), k ≤ m ∧ i = .int .i64 k ∧ v = .slice (some ⟨gg, 0, none⟩) k cap2 ∧ w.heap.size ≤ gg ∧ wr.ownsRow w.heap.size 5 1 (.slice (some ⟨gg, 0, none⟩) k cap2) k (xs.map (Value.int .u8)) ∧ w.grownBy wr (some g) ∧ Cur wr g a n cap) (fun _ i _ => m - (intOf i).toNat)
  case atStart => exact ⟨0, _, _, [], Nat.zero_le _, rfl, rfl, Nat.le_refl _, ho1, World.grownBy_alloc _ _ _, hc.alloc _⟩
  case round =>
    obtain ⟨k, gg, cap2, xs, hk, rfl, rfl, hgg, hown, hgr, hcr⟩ := hrel
    clear ho1 hc
    by_cases hlt : k < m
    · have hlti : (k : Int) < (m : Int) := by omega
      go_wp2_with fail
      refine (belowN_any g n cap a _ _ hcr).mono ?_
      rintro e w1 ⟨x, x0, x1, _, rfl, hg1, hc1⟩
      have x2 := x1 (by omega)
      have hown1 := hown.kept hg1 (.inr (by simp [Value.ownBlock]; omega))
      have hs1 : w.heap.size ≤ w1.heap.size := Nat.le_trans hgr.size hg1.size
      clear hown hcr x1
      go_wp2_with (at_builtin; refine wpList_append_lies _ (by rfl) _ _ 22 (by rfl) w.heap.size 5 i0 (.int .u8 0) 1 1 Try.underlying22 hi hz0 hz1 hz2 rfl (by decide) (.slice (some ⟨gg, 0, none⟩) k cap2) k _ (by rfl) (hown1.alloc _) ⟨w1.heap.size, 0, none⟩ 1 1 [.int .u8 x] (by rfl) (by rfl) (World.news_of_block (cs := #[.int .u8 x]) (t := 5) (fr := (0, 0)) (heap_alloc_new w1 _)) (by simp [Value.oneCell']) (by omega) (by unfold maxLen; omega) (by omega) (by simp; omega) (w1.heap.size + 1) (by simp) ?_; intro g2 cap3 w2 hown2 hgrow hat hltg)
      have hgrow' : (w1.alloc (.cells #[.int .u8 x] 5)).grownBy w2 (some gg) := hgrow
      go_roundw
      case rel => exact ⟨k + 1, g2, cap3, xs ++ [x], by omega, by go_num, rfl, (hown2.lt g2 rfl).1, by rw [List.map_append]; exact hown2, grown_new (grownBy_trans (grownBy_trans hgr hg1) (World.grownBy_alloc w1 _ _)) hgrow' hgg, (hc1.alloc _).far hgrow' (by omega) hab⟩
      case measure => simp [intOf]; omega
    · have e : k = m := by omega
      subst e
      have hl : xs.length = k := by simpa using hown.1
      have HL : Hid (xs.length = k) := hl
      clear hl
      have hcv := run_convert_bytes_arg (P := Try.prog) wr 22 5 Try.underlying22 Try.underlying5 gg 0 k cap2 xs HL.out (fun i hi => by
        rw [Nat.zero_add, hown.cellAt i (by omega)]
        simp [HL.out, hi]) 9 Try.underlying9
      go_wp2
      go_ret
      exact ⟨_, by rw [strOfNums_size]; exact HL.out, rfl, hgr, hcr⟩

theorem below_g {w w1 w' : World} {g : Nat} (hb1 : Below w.heap.size w w1) (hg : w.heap.size ≤ g) (h : w1.grownBy w' (some g)) : Below w.heap.size w w' :=
  hb1.trans (below_of_grownBy h hg hb1.size)

end Go.Proofs.Ytmggogdnfgkljaa

/- The draws of chapter two's laws: polynomials, pairs of them, places and values; and the laws' test of two lists. Condition: at most 2^20 bytes of code. -/
namespace Go.Proofs.Ytmggogdnfgkljaa
open Go.ChangeShapes Go.WideShapes Go.ChangeAt Go.RowKit

set_option maxHeartbeats 1000000 in
theorem same_any (a b : Option Addr) (n ca cb : Nat) (zs : List Int) (w : World) (ha : IntsAt w a n zs) (hb : IntsAt w b n zs) (hn : n ≤ 1048576) :
    Calls Try.prog 73 #[.slice a n ca, .slice b n cb] w fun e w' => e = .returned (.bool true) ∧ Below w.heap.size w w' := by
  go_enter Try.func73, Try.ntmps73
  go_wp2
  go_loopw [5] (fun i wr => ∃ k : Nat, k ≤ n ∧ i = .int .i64 k ∧ Below w.heap.size w wr) (fun i _ => n - (intOf i).toNat)
  case atStart => exact ⟨0, Nat.zero_le _, rfl, Below.refl _ _⟩
  case round =>
    obtain ⟨k, hk, rfl, hbel⟩ := hrel
    have ha' := ha.below hbel
    have hb' := hb.below hbel
    clear ha hb
    by_cases hlt : k < n
    · obtain ⟨ba, oa, rfl, hca⟩ := ha'.2 k hlt
      obtain ⟨bb, ob, rfl, hcb⟩ := hb'.2 k hlt
      clear ha' hb'
      obtain ⟨x, HX⟩ : ∃ x, x = zs.getD k 0 := ⟨_, rfl⟩
      rw [← HX] at hca hcb
      clear HX
      go_wp2
      go_quiet (fail)
      go_wp2
      go_roundw
      case rel => exact ⟨k + 1, by omega, by go_num, below_drewN hbel _⟩
      case measure => simp [intOf]; omega
    · go_wp2
      go_ret
      exact ⟨rfl, hbel⟩

theorem lit_at {w : World} {cs : List Int} {ty : TypeId} : ∀ i, i < cs.length → (w.alloc (.cells (cs.map (Value.int .i64)).toArray ty)).cell? ⟨w.heap.size, 0 + i, none⟩ = some (.int .i64 (cs.getD i 0)) := by
  intro i hi
  rw [Nat.zero_add, cell_of_row _ _ _ _ ty _ (heap_alloc_new w _)]
  simp [hi]
set_option maxHeartbeats 400000 in
theorem pickV_any (g n cap : Nat) (a : Option Addr) (lb off m lc : Nat) (cs : List Int) (w : World) (hc : Cur w g a n cap) (hm : 0 < m) (hm2 : m ≤ 256) (hl : lb ≠ g) (hcs : cs.length = m)
    (hcell : ∀ i, i < m → w.cell? ⟨lb, off + i, none⟩ = some (.int .i64 (cs.getD i 0))) :
    Calls Try.prog 116 #[.pointer (some ⟨g, 0, none⟩), .slice (some ⟨lb, off, none⟩) m lc] w fun e w' => ∃ x : Int, x ∈ cs ∧ e = .returned (.int .i64 x) ∧ w.grownBy w' (some g) ∧ Cur w' g a n cap := by
  go_enter Try.func116, Try.ntmps116
  go_wp2_with fail
  refine (belowN_any g n cap a _ _ hc).mono ?_
  rintro e w1 ⟨x, x0, x1, _, rfl, hg, hc1⟩
  have x2 := x1 (by omega)
  obtain ⟨k, rfl⟩ := Int.eq_ofNat_of_zero_le x0
  have hz := hcell k (by omega)
  have HM : Hid (cs.getD k 0 ∈ cs) := by
    have h : k < cs.length := by omega
    show _ ∈ _
    simp [List.getD, h]
  have hz1 := hg.cell hz (by simpa using hl)
  clear hcell hz x1 hcs
  generalize cs.getD k 0 = z at hz1 HM
  go_wp2
  go_ret
  exact ⟨_, HM.out, rfl, hg, hc1⟩

theorem ints_grown {w w' : World} {b n g : Nat} {zs : List Int} (h : IntsAt w (some ⟨b, 0, none⟩) n zs) (hg : w.grownBy w' (some g)) (hb : b ≠ g) : IntsAt w' (some ⟨b, 0, none⟩) n zs := by
  refine ⟨h.1, fun i hi => ?_⟩
  obtain ⟨b', off, e, hc⟩ := h.2 i hi
  refine ⟨b', off, e, hg.cell hc ?_⟩
  cases e
  simpa using hb
theorem drawn_of {w' : World} {B n : Nat} {v : Value} {zs : List Int} (h : OwnI w' B v zs) (hv : v ≠ .slice none 0 0) (hn : zs.length = n) : ∃ g cap, v = .slice (some ⟨g, 0, none⟩) n cap ∧ n ≤ cap ∧ B ≤ g ∧ g < w'.heap.size ∧ IntsAt w' (some ⟨g, 0, none⟩) n zs := by
  subst hn
  rcases h.2 with ⟨e, _⟩ | ⟨g, cap, cur, e, hB, hg, hcap, _⟩
  · exact absurd e hv
  · subst e
    exact ⟨g, cap, rfl, hcap, hB, (Array.getElem?_eq_some_iff.1 hg).1, ownsRow.ints h⟩
theorem owns_cap {w : World} {B E g n cap : Nat} {xs : List Value} (h : w.ownsRow B E 1 (.slice (some ⟨g, 0, none⟩) n cap) n xs) : n ≤ cap := by
  rcases h.2 with h' | ⟨g', cap', cur, e, _, _, hn, _⟩
  · cases h'.1
  · cases e; exact hn

end Go.Proofs.Ytmggogdnfgkljaa

/- The plain mathematics of fragments' bodies: texts as rows of byte numbers, bodies as products of a matrix and the pieces of a text, the frame round a text. Nothing of Go's text is walked; conditions stand at each theorem. -/
namespace Go.Proofs.Ytmggogdnfgkljaa
open Go.Proofs.Ytmggogdnfgkljaa.Gp (m m_lt m_comm m_assoc m_xor xor_m m_zero zero_m m_one one_m m_nat m_ne xor_self xor_left xor_can xor_eq xor_lt)

/-- The text of the first 'l' of 'f'. -/
def txt (f : Nat → Nat) (l : Nat) : ByteArray := strOfNums (eI f l)
theorem txt_size (f : Nat → Nat) (l : Nat) : (txt f l).size = l := by unfold txt; rw [strOfNums_size, eI_len]
theorem tat_txt {f : Nat → Nat} {l k : Nat} (hk : k < l) (hf : f k < 256) : tat (txt f l) k = f k := by
  unfold txt
  rw [tat_str, eI_getD _ _ _ hk, Int.toNat_natCast, Nat.mod_eq_of_lt hf]
theorem txt_congr {f g : Nat → Nat} {l : Nat} (h : ∀ i, i < l → f i = g i) : txt f l = txt g l := by unfold txt; rw [eI_congr h]
theorem txt_of (s : ByteArray) : txt (tat s) s.size = s := by
  refine str_ext (txt_size _ _) fun k => ?_
  by_cases hk : k < s.size
  · exact tat_txt hk (tat_lt s k)
  · rw [tat_out s k hk, tat_out _ k (by rw [txt_size]; exact hk)]
theorem txt_is {s : ByteArray} {f : Nat → Nat} {l : Nat} (hs : s.size = l) (h : ∀ k, k < l → tat s k = f k) : s = txt f l := by
  rw [← txt_of s, hs]
  exact txt_congr h
theorem txt_eq {f g : Nat → Nat} {l l' : Nat} (hf : ∀ i, f i < 256) (hg : ∀ i, g i < 256) : txt f l = txt g l' ↔ l = l' ∧ ∀ i, i < l → f i = g i := by
  constructor
  · intro h
    have hl : l = l' := by rw [← txt_size f l, h, txt_size]
    subst hl
    refine ⟨rfl, fun i hi => ?_⟩
    rw [← tat_txt hi (hf i), h, tat_txt hi (hg i)]
  · rintro ⟨rfl, h⟩
    exact txt_congr h
theorem txt_zero (f : Nat → Nat) : txt f 0 = ByteArray.empty := rfl

/-- How long each body is. -/
def blen (s k : Nat) : Nat := (s + 2 + k - 1) / k
theorem blen_ge {s k : Nat} (hk : 1 ≤ k) : s + 2 ≤ k * blen s k := by
  unfold blen
  have := Nat.div_add_mod (s + 2 + k - 1) k
  have h2 := Nat.mod_lt (s + 2 + k - 1) (show k > 0 by omega)
  omega
theorem blen_pos {s k : Nat} (hk : 1 ≤ k) : 1 ≤ blen s k := by
  have := blen_ge (s := s) hk
  rcases Nat.eq_zero_or_pos (blen s k) with h | h
  · rw [h] at this; omega
  · exact h
theorem blen_le {s k : Nat} (hk : 1 ≤ k) : blen s k ≤ s + 2 := by
  unfold blen
  rw [Nat.div_le_iff_le_mul_add_pred (by omega)]
  have : s + 2 ≤ k * (s + 2) := Nat.le_mul_of_pos_left _ (by omega)
  omega
theorem blen_mul (s k : Nat) : k * blen s k ≤ s + 2 + k - 1 := Nat.mul_div_le _ _

/-- A text behind its length and ahead of noughts. -/
def frm (s : ByteArray) (q : Nat) : Nat := if q = 0 then s.size / 256 else if q = 1 then s.size % 256 else tat s (q - 2)
theorem frm_lt {s : ByteArray} (hs : s.size < 65536) (q : Nat) : frm s q < 256 := by
  unfold frm
  split
  · omega
  · split
    · omega
    · exact tat_lt _ _
theorem frm_out {s : ByteArray} {q : Nat} (h : s.size + 2 ≤ q) : frm s q = 0 := by
  unfold frm
  rw [if_neg (by omega), if_neg (by omega), tat_out _ _ (by omega)]
/-- The pieces of a whole, each 'l' long. -/
def pcs (W : Nat → Nat) (l i p : Nat) : Nat := W (i * l + p)
/-- The whole that pieces make. -/
def whl (T : Nat → Nat → Nat) (l q : Nat) : Nat := T (q / l) (q % l)
theorem whl_at {T : Nat → Nat → Nat} {l i p : Nat} (hp : p < l) : whl T l (i * l + p) = T i p := by
  unfold whl
  have h1 : (i * l + p) / l = i := by rw [Nat.mul_comm, Nat.mul_add_div (by omega), Nat.div_eq_of_lt hp, Nat.add_zero]
  have h2 : (i * l + p) % l = p := by rw [Nat.mul_comm, Nat.mul_add_mod, Nat.mod_eq_of_lt hp]
  rw [h1, h2]
theorem whl_byt {T : Nat → Nat → Nat} (h : Gm.Byt T) (l q : Nat) : whl T l q < 256 := h _ _
theorem pcs_whl {T : Nat → Nat → Nat} {l i p : Nat} (hp : p < l) : pcs (whl T l) l i p = T i p := whl_at hp
theorem whl_pcs {W : Nat → Nat} {l q : Nat} (_hl : 0 < l) : whl (pcs W l) l q = W q := by
  show W (q / l * l + q % l) = W q
  rw [Nat.mul_comm, Nat.div_add_mod]
/-- The bodies: a matrix times pieces. -/
def bod (k : Nat) (F T : Nat → Nat → Nat) (l i : Nat) : ByteArray := txt (Gm.mp k F T i) l
theorem bod_size (k : Nat) (F T : Nat → Nat → Nat) (l i : Nat) : (bod k F T l i).size = l := txt_size _ _
theorem tat_bod {k : Nat} {F T : Nat → Nat → Nat} {l i p : Nat} (hp : p < l) : tat (bod k F T l i) p = Gm.mp k F T i p := tat_txt hp (Gm.mp_byt _ _ _ _ _)
theorem bod_congr {k : Nat} {F F' T T' : Nat → Nat → Nat} {l i : Nat} (h1 : ∀ t, t < k → F i t = F' i t) (h2 : ∀ t p, t < k → p < l → T t p = T' t p) : bod k F T l i = bod k F' T' l i :=
  txt_congr (fun p hp => Gm.mp_congr h1 (fun t ht => h2 t p ht hp))
/-- The pieces of a text in 'k' bodies. -/
def enc (s : ByteArray) (k i p : Nat) : Nat := pcs (frm s) (blen s.size k) i p
theorem enc_byt {s : ByteArray} (hs : s.size < 65536) (k : Nat) : Gm.Byt (enc s k) := fun _ _ => frm_lt hs _
/-- The first k bodies are the pieces. -/
theorem bod_first {k : Nat} {T : Nat → Nat → Nat} (hT : Gm.Byt T) {i p : Nat} (hi : i < k) : Gm.mp k (Gm.sprd k) T i p = T i p :=
  Gm.mp_row hi (hT i p) (fun t _ => by unfold Gm.sprd; rw [if_pos hi])
/-- Bodies at places that differ lead back to the first k. -/
theorem back_first {k : Nat} {p : Nat → Nat} (hk : k ≤ 256) (hp : ∀ t, p t < 256) (hd : ∀ i j, i < k → j < k → i ≠ j → p i ≠ p j) {T : Nat → Nat → Nat} (hT : Gm.Byt T) {i q : Nat} (hi : i < k) :
    Gm.mp k (Gm.iv (fun t j => Gm.sprd k (p t) j) k) (fun t q => Gm.mp k (Gm.sprd k) T (p t) q) i q = T i q := by
  have hA : Gm.Byt (fun t j => Gm.sprd k (p t) j) := fun _ _ => Gm.sprd_byt k _ _
  have hr := Gm.spread_rk hk hp hd
  have e : Gm.mp k (Gm.iv (fun t j => Gm.sprd k (p t) j) k) (fun t q => Gm.mp k (Gm.sprd k) T (p t) q) i q = Gm.mp k (Gm.iv (fun t j => Gm.sprd k (p t) j) k) (Gm.mp k (fun t j => Gm.sprd k (p t) j) T) i q := rfl
  rw [e, ← Gm.mp_assoc]
  rw [Gm.mp_congr (A' := Gm.dl) (B' := T) (fun t ht => (Gm.iv_both hA hr i t hi ht).2) (fun _ _ => rfl)]
  exact Gm.mp_dl hi (hT i q)
/-- All bodies that go with some at places that differ have those at these places. -/
theorem back_again {k : Nat} {p : Nat → Nat} (hk : k ≤ 256) (hp : ∀ t, p t < 256) (hd : ∀ i j, i < k → j < k → i ≠ j → p i ≠ p j) {T : Nat → Nat → Nat} (hT : Gm.Byt T) {i q : Nat} (hi : i < k) :
    Gm.mp k (Gm.sprd k) (Gm.mp k (Gm.iv (fun t j => Gm.sprd k (p t) j) k) T) (p i) q = T i q := by
  have hA : Gm.Byt (fun t j => Gm.sprd k (p t) j) := fun _ _ => Gm.sprd_byt k _ _
  have hr := Gm.spread_rk hk hp hd
  have e : Gm.mp k (Gm.sprd k) (Gm.mp k (Gm.iv (fun t j => Gm.sprd k (p t) j) k) T) (p i) q = Gm.mp k (fun t j => Gm.sprd k (p t) j) (Gm.mp k (Gm.iv (fun t j => Gm.sprd k (p t) j) k) T) i q := rfl
  rw [e, ← Gm.mp_assoc]
  rw [Gm.mp_congr (A' := Gm.dl) (B' := T) (fun t ht => (Gm.iv_both hA hr i t hi ht).1) (fun _ _ => rfl)]
  exact Gm.mp_dl hi (hT i q)
/-- The unit is its own inverse. -/
theorem iv_dl {n i j : Nat} {A : Nat → Nat → Nat} (hA : Gm.Byt A) (h : ∀ i j, i < n → j < n → A i j = Gm.dl i j) (hr : Gm.rk A n n = n) (hi : i < n) (hj : j < n) : Gm.iv A n i j = Gm.dl i j := by
  have h1 := (Gm.iv_both hA hr i j hi hj).1
  rw [Gm.mp_congr (A' := Gm.dl) (B' := Gm.iv A n) (fun t ht => h i t hi ht) (fun _ _ => rfl), Gm.mp_dl hi (Gm.iv_byt hA n i j)] at h1
  exact h1

/-- What a whole tells, as the program asks it. -/
def tells (W : Nat → Nat) (N k : Nat) : Prop := 2 ≤ N ∧ W 0 * 256 + W 1 ≤ 2000 ∧ N = k * blen (W 0 * 256 + W 1) k ∧ ∀ q, W 0 * 256 + W 1 + 2 ≤ q → q < N → W q = 0
def told (W : Nat → Nat) : ByteArray := txt (fun q => W (q + 2)) (W 0 * 256 + W 1)
theorem frm_told {W : Nat → Nat} {N k : Nat} (hW : ∀ q, W q < 256) (h : tells W N k) {q : Nat} (hq : q < N) : frm (told W) q = W q := by
  obtain ⟨_, h2, h3, h4⟩ := h
  have hs : (told W).size = W 0 * 256 + W 1 := txt_size _ _
  have hw0 := hW 0
  have hw1 := hW 1
  unfold frm
  by_cases e0 : q = 0
  · subst e0
    rw [if_pos rfl, hs]
    omega
  · rw [if_neg e0]
    by_cases e1 : q = 1
    · subst e1
      rw [if_pos rfl, hs]
      omega
    · rw [if_neg e1]
      by_cases e2 : q < W 0 * 256 + W 1 + 2
      · unfold told
        rw [tat_txt (f := fun q => W (q + 2)) (by omega) (hW _)]
        show W (q - 2 + 2) = W q
        rw [show q - 2 + 2 = q by omega]
      · have hno : ¬ q - 2 < W 0 * 256 + W 1 := by clear h3 h4 hs; omega
        have hge : W 0 * 256 + W 1 + 2 ≤ q := Nat.le_of_not_lt e2
        rw [tat_out (told W) (q - 2) (by rw [hs]; exact hno), h4 q hge hq]
/-- A whole tells a text just where it is the frame of the text at the head of it. -/
theorem tells_iff {W : Nat → Nat} {l k : Nat} (hW : ∀ q, W q < 256) (hk : 1 ≤ k) (h0 : 2 ≤ k * l) (h1 : W 0 * 256 + W 1 ≤ 2000) :
    tells W (k * l) k ↔ (blen (W 0 * 256 + W 1) k = l ∧ ∀ q, q < k * l → frm (told W) q = W q) := by
  constructor
  · intro h
    refine ⟨?_, fun q hq => frm_told hW h hq⟩
    have := h.2.2.1
    exact (Nat.eq_of_mul_eq_mul_left (by omega) this).symm
  · rintro ⟨h3, h4⟩
    refine ⟨h0, h1, by rw [h3], fun q hq hq2 => ?_⟩
    rw [← h4 q hq2]
    exact frm_out (by unfold told; rw [txt_size]; omega)
theorem told_frm {s : ByteArray} {W : Nat → Nat} {N : Nat} (_hs : s.size ≤ 2000) (hN : s.size + 2 ≤ N) (h : ∀ q, q < N → W q = frm s q) : W 0 * 256 + W 1 = s.size ∧ told W = s := by
  have h0 := h 0 (by omega)
  have h1 := h 1 (by omega)
  have e0 : frm s 0 = s.size / 256 := if_pos rfl
  have e1 : frm s 1 = s.size % 256 := by unfold frm; rw [if_neg (by omega), if_pos rfl]
  have e : W 0 * 256 + W 1 = s.size := by rw [h0, h1, e0, e1]; omega
  refine ⟨e, ?_⟩
  unfold told
  rw [e]
  symm
  refine txt_is rfl (fun k hk => ?_)
  rw [h (k + 2) (by omega)]
  unfold frm
  rw [if_neg (by omega), if_neg (by omega), show k + 2 - 2 = k by omega]
theorem tells_frm {s : ByteArray} {W : Nat → Nat} {k : Nat} (hs : s.size ≤ 2000) (hk : 1 ≤ k) (h : ∀ q, q < k * blen s.size k → W q = frm s q) : tells W (k * blen s.size k) k ∧ told W = s := by
  have hg := blen_ge (s := s.size) hk
  obtain ⟨e, et⟩ := told_frm hs hg h
  refine ⟨⟨by omega, by omega, by rw [e], fun q h1 h2 => ?_⟩, et⟩
  rw [h q h2]
  exact frm_out (by omega)

/-- A change of one number of one of the first k is seen in every row behind them. -/
theorem spoilt_seen {k : Nat} {T T' : Nat → Nat → Nat} (hT : Gm.Byt T) (hT' : Gm.Byt T') {i j r : Nat} (hi : i < k) (hr : k ≤ r) (hk : r < 256) (hne : T' i j ≠ T i j) (hsame : ∀ t, t < k → t ≠ i → T' t j = T t j) : Gm.mp k (Gm.sprd k) T' r j ≠ Gm.mp k (Gm.sprd k) T r j := by
  intro he
  have h1 : Gm.mp k (Gm.sprd k) T' r j ^^^ Gm.mp k (Gm.sprd k) T r j = m (Gm.sprd k r i) (T' i j ^^^ T i j) := by
    unfold Gm.mp
    rw [← Gm.sm_xor]
    rw [Gm.sm_one hi (fun t ht hti => by rw [hsame t ht hti, xor_self])]
    rw [m_xor]
  rw [he, xor_self] at h1
  have h2 : Gm.sprd k r i ≠ 0 := by
    unfold Gm.sprd
    rw [if_neg (by omega)]
    have hx : r ^^^ i ≠ 0 := fun e => by have := xor_eq e; omega
    intro h0
    have := Gp.m_inv (xor_lt hk (show i < 256 by omega)) hx
    rw [h0, m_zero] at this
    omega
  have h3 : T' i j ^^^ T i j ≠ 0 := fun e => hne (xor_eq e)
  exact m_ne (Gm.sprd_byt k r i) (xor_lt (hT' i j) (hT i j)) h2 h3 h1.symm
end Go.Proofs.Ytmggogdnfgkljaa
