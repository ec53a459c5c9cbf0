/- Texts scaled and summed byte by byte, in the program and in its model: what each answers at every text and number. Condition: texts of at most 2^20 bytes. -/
import Derived.Test.YtahgdbmilflcmaaSlices
import Derived.Test.YtahgdbmilflcmaaSField
import Derived.Laws.BytesArg
import Derived.Deep.QuietTactic
import Derived.BigQuiet
namespace Go.Proofs.Ytahgdbmilflcmaa
set_option maxRecDepth 2000
open Go.ChangeShapes Go.WideShapes Go.ChangeAt Go.RowKit

theorem ret_str {a b : ByteArray} (h : a = b) : Ending.returned (.string a) = .returned (.string b) := by rw [h]
theorem u8_lt (c : UInt8) : c.toNat < 256 := c.toNat_lt

def scaleL (s : ByteArray) (A : Nat) : List Int := s.data.toList.map fun c => ((Gf.mul c.toNat A : Nat) : Int)
def scaleS (s : ByteArray) (a : Int) : ByteArray := if isB a = true then strOfNums (scaleL s a.toNat) else ByteArray.empty
theorem scaleL_len (s : ByteArray) (A : Nat) : (scaleL s A).length = s.size := by simp [scaleL]
theorem scaleL_at (s : ByteArray) (A k : Nat) (h : k < s.size) : (scaleL s A).getD k 0 = ((Gf.mul s[k].toNat A : Nat) : Int) := by
  have h' : k < s.data.toList.length := by simpa using h
  simp only [scaleL, List.getD, List.getElem?_map, List.getElem?_eq_getElem h', Option.map_some, Option.getD_some]
  rfl

set_option maxHeartbeats 1000000 in
theorem sScale_nat (s : ByteArray) (A : Nat) (w : World) (hs : s.size ≤ 1048576) (hA : A < 256) :
    Calls Try.prog 94 #[.string s, .int .i64 (A : Int)] w fun e w' => e = .returned (.string (strOfNums (scaleL s A))) ∧ Below w.heap.size w w' := by
  obtain ⟨i0, hi, hz0, hz1, hz2⟩ := info_parts Try.infoByte
  have ia := isB_ofNat hA
  obtain ⟨xs, HX⟩ : ∃ xs, Hid (xs = scaleL s A) := ⟨_, rfl⟩
  obtain ⟨n, hn⟩ : ∃ n, s.size = n := ⟨_, rfl⟩
  have HL : Hid (xs.length = n) := by show _ = _; rw [HX.out, scaleL_len, hn]
  go_enter Try.func94, Try.ntmps94
  go_wp2_with fail
  refine (sIs_any _ _).mono ?_
  rintro e w' ⟨rfl, hw⟩
  obtain rfl := hw.symm
  go_wp2
  clear hw ia
  have ho1 : (w.alloc (.cells #[] 5)).ownsRow w.heap.size 5 1 (.slice (some ⟨w.heap.size, 0, none⟩) 0 0) 0 ((xs.take 0).map (Value.int .u8)) :=
    World.ownsRow_lit w #[] 0 (Nat.le_refl _) (by unfold maxLen; omega) rfl
  go_loopw [5, 6] (fun v i wr => ∃ k : Nat, k ≤ n ∧ i = .int .i64 k ∧ wr.ownsRow w.heap.size 5 1 v k ((xs.take k).map (Value.int .u8)) ∧ Hid (v ≠ .slice none 0 0) ∧ Below w.heap.size w wr) (fun _ i _ => n - (intOf i).toNat)
  case atStart => exact ⟨0, Nat.zero_le _, rfl, ho1, by simp [Hid], (Below.refl _ _).alloc (Nat.le_refl _) _⟩
  case round =>
    obtain ⟨k, hk, rfl, hown, HV, hbel⟩ := hrel
    clear ho1
    by_cases hlt : k < n
    · have hks : k < s.size := by omega
      have hml := Gf.mul_lt (u8_lt s[k]) hA
      have HE : Hid (xs.take (k + 1) = xs.take k ++ [((Gf.mul s[k].toNat A : Nat) : Int)]) := by
        show _ = _
        rw [take_snoc xs k (by rw [HL.out]; exact hlt), HX.out, scaleL_at s A k hks]
      have hcl := u8_lt s[k]
      go_wp2_with fail
      refine (sMul_nat _ A _ hcl hA).mono ?_
      rintro e w1 ⟨rfl, hw1⟩
      obtain rfl := hw1.symm
      go_wp2_with (at_builtin; refine wpList_append_own _ rfl _ _ 22 rfl w.heap.size 5 i0 (.int .u8 0) 1 1 Try.underlying22 hi hz0 hz1 hz2 rfl (by decide) _ _ _ rfl (hown.alloc _) ⟨wr.heap.size, 0, none⟩ 1 1 [.int .u8 ((Gf.mul s[k].toNat A : Nat) : Int)] rfl rfl ?c1 ?c2 ?c3 ?c4 ?c5 ?_)
      case c1 =>
        intro j u hj
        match j, hj with
        | 0, hj => simp at hj; subst hj; simp [Addr.add]
      case c2 => intro u hu; simp at hu; subst hu; rfl
      case c3 => unfold maxLen; omega
      case c4 => omega
      case c5 => have := hbel.size; simp; omega
      · intro v' w1 hown' hgrow hnil
        have HV' : Hid (v' ≠ .slice none 0 0) := hnil
        have HO : Hid (w1.ownsRow w.heap.size 5 1 v' (k + 1) ((xs.take (k + 1)).map (Value.int .u8))) := by
          rw [HE.out, List.map_append, List.map_take]
          exact hown'
        have hb' : Below w.heap.size w w1 := (hbel.alloc hbel.size _).grown hgrow (by have := hbel.size; simp; omega) (fun j hj => (hown.lt j hj).1)
        clear hown' hgrow hnil hown
        go_wp2
        go_roundw
        case rel => exact ⟨k + 1, by omega, by go_num, HO.out, HV'.out, hb'⟩
        case measure => simp [intOf]; omega
    · have e : k = n := by omega
      subst e
      rw [List.take_of_length_le (by rw [HL.out]; omega)] at hown
      obtain ⟨g, cap, rfl⟩ : ∃ g cap, u5 = .slice (some ⟨g, 0, none⟩) k cap := by
        rcases hown.2 with h | ⟨g, cap, cur, h, _⟩
        · exact absurd h.1 HV.out
        · exact ⟨g, cap, h⟩
      have hcv := run_convert_bytes_arg (P := Try.prog) wr 22 5 Try.underlying22 Try.underlying5 g 0 k cap xs HL.out (fun i hi => by
        rw [Nat.zero_add, hown.cellAt i (by omega)]
        simp [HL.out, hi]) 9 Try.underlying9
      go_wp2
      go_ret
      exact ⟨ret_str (by rw [HX.out]), hbel⟩

set_option maxHeartbeats 400000 in
theorem sScale_any (s : ByteArray) (a : Int) (w : World) (hs : s.size ≤ 1048576) :
    Calls Try.prog 94 #[.string s, .int .i64 a] w fun e w' => e = .returned (.string (scaleS s a)) ∧ Below w.heap.size w w' := by
  by_cases ha : isB a = true
  · obtain ⟨A, hA, rfl⟩ := isB_nat ha
    refine (sScale_nat s A w hs hA).mono ?_
    rintro e w' ⟨rfl, hb⟩
    exact ⟨ret_str (by simp [scaleS, ha]), hb⟩
  · have ha' : isB a = false := by simpa using ha
    go_enter Try.func94, Try.ntmps94
    go_wp2_with (go_at_call 51; refine (sIs_any _ _).mono ?_; rintro e w' ⟨rfl, rfl⟩)
    go_ret
    exact ⟨ret_str (by simp [scaleS, ha]; rfl), Below.refl _ _⟩
end Go.Proofs.Ytahgdbmilflcmaa
