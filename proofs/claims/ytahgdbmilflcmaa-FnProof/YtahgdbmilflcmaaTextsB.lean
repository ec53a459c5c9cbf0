/- Texts summed byte by byte, in the program and in its model: what each answers at every two texts. Condition: texts of at most 2^20 bytes. -/
import Derived.Test.YtahgdbmilflcmaaTexts
import Derived.Deep.RegionHeld3
import Derived.Deep.AppendLies
namespace Go.Proofs.Ytahgdbmilflcmaa
set_option maxRecDepth 2000
open Go.ChangeShapes Go.WideShapes Go.ChangeAt Go.RowKit

def addL (s t : ByteArray) : List Int := List.zipWith (fun (c d : UInt8) => ((c.toNat ^^^ d.toNat : Nat) : Int)) s.data.toList t.data.toList
def addS (s t : ByteArray) : ByteArray := if s.size = t.size then strOfNums (addL s t) else ByteArray.empty
theorem addL_len (s t : ByteArray) (h : s.size = t.size) : (addL s t).length = s.size := by
  have h' : s.data.toList.length = t.data.toList.length := by simpa using h
  simp [addL] at *
  omega
theorem addL_at (s t : ByteArray) (k : Nat) (h : k < s.size) (h2 : k < t.size) : (addL s t).getD k 0 = ((s[k].toNat ^^^ t[k].toNat : Nat) : Int) := by
  have h' : k < s.data.toList.length := by simpa using h
  have h'' : k < t.data.toList.length := by simpa using h2
  simp only [addL, List.getD, List.getElem?_zipWith, List.getElem?_eq_getElem h', List.getElem?_eq_getElem h'', Option.getD_some]
  rfl

set_option maxHeartbeats 1000000 in
theorem sAddT_same (s t : ByteArray) (w : World) (hs : s.size ≤ 1048576) (ht : s.size = t.size) :
    Calls Try.prog 95 #[.string s, .string t] w fun e w' => e = .returned (.string (strOfNums (addL s t))) ∧ Below w.heap.size w w' := by
  obtain ⟨i0, hi, hz0, hz1, hz2⟩ := info_parts Try.infoByte
  obtain ⟨xs, HX⟩ : ∃ xs, Hid (xs = addL s t) := ⟨_, rfl⟩
  obtain ⟨n, hn⟩ : ∃ n, s.size = n := ⟨_, rfl⟩
  have hn2 : t.size = n := by omega
  have HL : Hid (xs.length = n) := by show _ = _; rw [HX.out, addL_len s t ht, hn]
  clear ht
  go_enter Try.func95, Try.ntmps95
  go_wp2
  have ho1 : (w.alloc (.cells #[] 5)).ownsRow w.heap.size 5 1 (.slice (some ⟨w.heap.size, 0, none⟩) 0 0) 0 ((xs.take 0).map (Value.int .u8)) :=
    World.ownsRow_lit w #[] 0 (Nat.le_refl _) (by unfold maxLen; omega) rfl
  go_loopw [5, 6] (fun v i wr => ∃ k g cap : Nat, k ≤ n ∧ i = .int .i64 k ∧ v = .slice (some ⟨g, 0, none⟩) k cap ∧ wr.ownsRow w.heap.size 5 1 (.slice (some ⟨g, 0, none⟩) k cap) k ((xs.take k).map (Value.int .u8)) ∧ Below w.heap.size w wr) (fun _ i _ => n - (intOf i).toNat)
  case atStart => exact ⟨0, _, _, Nat.zero_le _, rfl, rfl, ho1, (Below.refl _ _).alloc (Nat.le_refl _) _⟩
  case round =>
    obtain ⟨k, g, cap, hk, rfl, rfl, hown, hbel⟩ := hrel
    clear ho1
    by_cases hlt : k < n
    · have hks : k < s.size := by omega
      have hkt : k < t.size := by omega
      have hlti : (k : Int) < (n : Int) := by omega
      have hxr : bits .xor .u8 (s[k].toNat : Int) (t[k].toNat : Int) = ((s[k].toNat ^^^ t[k].toNat : Nat) : Int) := u8_xor_nat _ _ (u8_lt _) (u8_lt _)
      have HE : Hid (xs.take (k + 1) = xs.take k ++ [((s[k].toNat ^^^ t[k].toNat : Nat) : Int)]) := by
        show _ = _
        rw [take_snoc xs k (by rw [HL.out]; exact hlt), HX.out, addL_at s t k hks hkt]
      have hsz := hbel.size
      go_wp2_with fail
      go_region_held3 (fun _ => True) (trivial) ((refine step_append_lies _ (by rfl) _ _ _ (by rfl) w.heap.size 5 i0 _ 1 1 Try.underlying22 hi hz0 hz1 hz2 rfl (by omega) (.slice (some ⟨g, 0, none⟩) k cap) k _ (by rfl) ((hown.alloc _).drew) ⟨wr.heap.size, 0, none⟩ 1 1 [.int .u8 ((s[k].toNat ^^^ t[k].toNat : Nat) : Int)] (by rfl) (by rfl) (World.news_of_block (cs := #[.int .u8 ((s[k].toNat ^^^ t[k].toNat : Nat) : Int)]) (t := 5) (fr := (0, 0)) (heap_alloc_new wr _)) (by simp [Value.oneCell']) (by omega) (by unfold maxLen; omega) (by omega) (by simp; omega) (wr.heap.size + 1) (by simp) ?_; intro gg cap2 w1 hown1 hgrow hat hltg))
      all_goals
        have HO : Hid (w1.ownsRow w.heap.size 5 1 (.slice (some ⟨gg, 0, none⟩) (k + 1) cap2) (k + 1) ((xs.take (k + 1)).map (Value.int .u8))) := by
          rw [HE.out, List.map_append]
          first | exact hown1 | (rw [List.map_take]; exact hown1)
        have hb' : Below w.heap.size w w1 := ((hbel.alloc hsz _).drew).grown hgrow (by simp; omega) (fun j hj => (hown.lt j hj).1)
        clear hown1 hgrow hown hat hltg
        go_wp2
        go_roundw
        case rel => exact ⟨k + 1, gg, cap2, by omega, by go_num, rfl, HO.out, hb'⟩
        case measure => simp [intOf]; omega
    · have e : k = n := by omega
      subst e
      rw [List.take_of_length_le (by rw [HL.out]; omega)] at hown
      have hcv := run_convert_bytes_arg (P := Try.prog) wr 22 5 Try.underlying22 Try.underlying5 g 0 k cap xs HL.out (fun i hi => by
        rw [Nat.zero_add, hown.cellAt i (by omega)]
        simp [HL.out, hi]) 9 Try.underlying9
      go_wp2
      go_ret
      exact ⟨ret_str (by rw [HX.out]), hbel⟩

set_option maxHeartbeats 400000 in
theorem sAddT_any (s t : ByteArray) (w : World) (hs : s.size ≤ 1048576) :
    Calls Try.prog 95 #[.string s, .string t] w fun e w' => e = .returned (.string (addS s t)) ∧ Below w.heap.size w w' := by
  by_cases ha : s.size = t.size
  · refine (sAddT_same s t w hs ha).mono ?_
    rintro e w' ⟨rfl, hb⟩
    exact ⟨ret_str (by simp [addS, ha]), hb⟩
  · have ha' : ((s.size : Int) != (t.size : Int)) = true := by simp; omega
    go_enter Try.func95, Try.ntmps95
    go_wp2
    go_ret
    exact ⟨ret_str (by simp [addS, ha]; rfl), Below.refl _ _⟩
end Go.Proofs.Ytahgdbmilflcmaa
