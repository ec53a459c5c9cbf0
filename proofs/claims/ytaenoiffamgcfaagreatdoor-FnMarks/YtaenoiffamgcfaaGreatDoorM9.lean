import Derived.Test.YtaenoiffamgcfaaGreatDoorM6
import Derived.Deep.RegionHeld3
import Derived.Deep.AppendLies
set_option maxHeartbeats 8000000
set_option maxRecDepth 2000
open Go.ChangeShapes Go.WideShapes Go.ChangeAt Go.RowKit
namespace Go.Proofs.YtaenoiffamgcfaaGreatDoor
def addL (s t : ByteArray) : List Int := List.zipWith (fun (c d : UInt8) => ((c.toNat ^^^ d.toNat : Nat) : Int)) s.data.toList t.data.toList
def addS (s t : ByteArray) : ByteArray := if s.size = t.size then strOfNums (addL s t) else ByteArray.empty
theorem addL_len (s t : ByteArray) (h : s.size = t.size) : (addL s t).length = s.size := by
 have h' : s.data.toList.length = t.data.toList.length := by simpa using h
 simp [addL] at *
 omega
theorem addL_at (s t : ByteArray) (k : Nat) (h : k < s.size) (h2 : k < t.size) : (addL s t).getD k 0 = ((s[k].toNat ^^^ t[k].toNat : Nat) : Int) := by
 have h' : k < s.data.toList.length := by simpa using h
 have h'' : k < t.data.toList.length := by simpa using h2
 simp only [addL, List.getD, List.getElem?_zipWith, List.getElem?_eq_getElem h', List.getElem?_eq_getElem h'', Option.getD_some]
 rfl
theorem sAddT_same (s t : ByteArray) (w : World) (hs : s.size ≤ 1048576) (ht : s.size = t.size) :
  Calls Tryz.prog 131 #[.string s, .string t] w fun e w' => e = .returned (.string (strOfNums (addL s t))) ∧ Below w.heap.size w w' := by
 obtain ⟨i0, hi, hz0, hz1, hz2⟩ := info_parts Tryz.infoByte
 obtain ⟨xs, HX⟩ : ∃ xs, Hid (xs = addL s t) := ⟨_, rfl⟩
 obtain ⟨n, hn⟩ : ∃ n, s.size = n := ⟨_, rfl⟩
 have hn2 : t.size = n := by omega
 have HL : Hid (xs.length = n) := by show _ = _; rw [HX.out, addL_len s t ht, hn]
 clear ht
 go_enter Tryz.func131, Tryz.ntmps131
 go_wp2
 have ho1 : (w.alloc (.cells #[] 5)).ownsRow w.heap.size 5 1 (.slice (some ⟨w.heap.size, 0, none⟩) 0 0) 0 ((xs.take 0).map (Value.int .u8)) :=
  World.ownsRow_lit w #[] 0 (Nat.le_refl _) (by unfold maxLen; omega) rfl
 go_loopw [5, 6] (fun v i wr => ∃ k g cap : Nat, k ≤ n ∧ i = .int .i64 k ∧ v = .slice (some ⟨g, 0, none⟩) k cap ∧ wr.ownsRow w.heap.size 5 1 (.slice (some ⟨g, 0, none⟩) k cap) k ((xs.take k).map (Value.int .u8)) ∧ Below w.heap.size w wr) (fun _ i _ => n - (intOf i).toNat)
 case atStart => exact ⟨0, _, _, Nat.zero_le _, rfl, rfl, ho1, (Below.refl _ _).alloc (Nat.le_refl _) _⟩
 case round =>
  obtain ⟨k, g, cap, hk, rfl, rfl, hown, hbel⟩ := hrel
  clear ho1
  by_cases hlt : k < n
  ·have hks : k < s.size := by omega
   have hkt : k < t.size := by omega
   have hlti : (k : Int) < (n : Int) := by omega
   have hxr : bits .xor .u8 (s[k].toNat : Int) (t[k].toNat : Int) = ((s[k].toNat ^^^ t[k].toNat : Nat) : Int) := u8_xor_nat _ _ (u8_lt _) (u8_lt _)
   have HE : Hid (xs.take (k + 1) = xs.take k ++ [((s[k].toNat ^^^ t[k].toNat : Nat) : Int)]) := by
    show _ = _
    rw [take_snoc xs k (by rw [HL.out]; exact hlt), HX.out, addL_at s t k hks hkt]
   have hsz := hbel.size
   go_wp2_with fail
   go_region_held3 (fun _ => True) (trivial) ((refine step_append_lies _ (by rfl) _ _ _ (by rfl) w.heap.size 5 i0 _ 1 1 Tryz.underlying22 hi hz0 hz1 hz2 rfl (by omega) (.slice (some ⟨g, 0, none⟩) k cap) k _ (by rfl) ((hown.alloc _).drew) ⟨wr.heap.size, 0, none⟩ 1 1 [.int .u8 ((s[k].toNat ^^^ t[k].toNat : Nat) : Int)] (by rfl) (by rfl) (World.news_of_block (cs := #[.int .u8 ((s[k].toNat ^^^ t[k].toNat : Nat) : Int)]) (t := 5) (fr := (0, 0)) (heap_alloc_new wr _)) (by simp [Value.oneCell']) (by omega) (by unfold maxLen; omega) (by omega) (by simp; omega) (wr.heap.size + 1) (by simp) ?_; intro gg cap2 w1 hown1 hgrow hat hltg))
   all_goals
    have HO : Hid (w1.ownsRow w.heap.size 5 1 (.slice (some ⟨gg, 0, none⟩) (k + 1) cap2) (k + 1) ((xs.take (k + 1)).map (Value.int .u8))) := by
     rw [HE.out, List.map_append]
     first | exact hown1 | (rw [List.map_take]; exact hown1)
    have hb' : Below w.heap.size w w1 := ((hbel.alloc hsz _).drew).grown hgrow (by simp; omega) (fun j hj => (hown.lt j hj).1)
    clear hown1 hgrow hown hat hltg
    go_wp2
    go_roundw
    case rel => exact ⟨k + 1, gg, cap2, by omega, by go_num, rfl, HO.out, hb'⟩
    case measure => simp [intOf]; omega
  ·have e : k = n := by omega
   subst e
   rw [List.take_of_length_le (by rw [HL.out]; omega)] at hown
   have hcv := run_convert_bytes_arg (P := Tryz.prog) wr 22 5 Tryz.underlying22 Tryz.underlying5 g 0 k cap xs HL.out (fun i hi => by
    rw [Nat.zero_add, hown.cellAt i (by omega)]
    simp [HL.out, hi]) 9 Tryz.underlying9
   go_wp2
   go_ret
   exact ⟨ret_str (by rw [HX.out]), hbel⟩
theorem sAddT_any (s t : ByteArray) (w : World) (hs : s.size ≤ 1048576) :
  Calls Tryz.prog 131 #[.string s, .string t] w fun e w' => e = .returned (.string (addS s t)) ∧ Below w.heap.size w w' := by
 by_cases ha : s.size = t.size
 ·refine (sAddT_same s t w hs ha).mono ?_
  rintro e w' ⟨rfl, hb⟩
  exact ⟨ret_str (by simp [addS, ha]), hb⟩
 ·have ha' : ((s.size : Int) != (t.size : Int)) = true := by simp; omega
  go_enter Tryz.func131, Tryz.ntmps131
  go_wp2
  go_ret
  exact ⟨ret_str (by simp [addS, ha]; rfl), Below.refl _ _⟩
def tat (s : ByteArray) (k : Nat) : Nat := (s.data.toList.getD k 0).toNat
theorem tat_lt (s : ByteArray) (k : Nat) : tat s k < 256 := u8_lt _
theorem tat_in (s : ByteArray) (k : Nat) (h : k < s.size) : tat s k = s[k].toNat := by
 have h' : k < s.data.toList.length := by simpa using h
 simp only [tat, List.getD, List.getElem?_eq_getElem h', Option.getD_some]
 rfl
theorem tat_out (s : ByteArray) (k : Nat) (h : ¬ k < s.size) : tat s k = 0 := by
 have h' : s.data.toList.length ≤ k := by simp at h ⊢; exact h
 simp [tat, List.getD, List.getElem?_eq_none h']
theorem str_ext {s u : ByteArray} (h : s.size = u.size) (he : ∀ k, tat s k = tat u k) : s = u := by
 apply ByteArray.ext
 apply Array.toList_inj.1
 apply List.ext_getElem?
 intro k
 by_cases hk : k < s.size
 ·have h1 : k < s.data.toList.length := by simpa using hk
  have h2 : k < u.data.toList.length := by rw [h] at hk; simpa using hk
  have e := he k
  simp only [tat, List.getD, List.getElem?_eq_getElem h1, List.getElem?_eq_getElem h2, Option.getD_some] at e
  rw [List.getElem?_eq_getElem h1, List.getElem?_eq_getElem h2, UInt8.toNat_inj.1 e]
 ·have h1 : s.data.toList.length ≤ k := by simp at hk ⊢; exact hk
  have h2 : u.data.toList.length ≤ k := by rw [h] at hk; simp at hk ⊢; exact hk
  rw [List.getElem?_eq_none h1, List.getElem?_eq_none h2]
theorem tat_str (xs : List Int) (k : Nat) : tat (strOfNums xs) k = (xs.getD k 0).toNat % 256 := by
 simp only [tat, strOfNums_data, List.getD, List.getElem?_map]
 cases xs[k]? with
 | none => rfl
 | some v => simp
theorem addS_size {x y : ByteArray} (h : x.size = y.size) : (addS x y).size = x.size := by
 simp only [addS]
 rw [if_pos h, strOfNums_size, addL_len x y h]
theorem tat_add {x y : ByteArray} (h : x.size = y.size) (k : Nat) : tat (addS x y) k = tat x k ^^^ tat y k := by
 by_cases hk : k < x.size
 ·have hk2 : k < y.size := by omega
  simp only [addS]
  rw [if_pos h, tat_str, addL_at x y k hk hk2, Int.toNat_natCast, tat_in x k hk, tat_in y k hk2]
  exact Nat.mod_eq_of_lt (Gf.xor_lt (u8_lt _) (u8_lt _))
 ·rw [tat_out x k hk, tat_out y k (by omega), tat_out _ k (by rw [addS_size h]; exact hk)]
  rfl
theorem scaleS_size {s : ByteArray} {a : Int} (h : isB a = true) : (scaleS s a).size = s.size := by
 simp only [scaleS]
 rw [if_pos h, strOfNums_size, scaleL_len]
theorem tat_scale (s : ByteArray) {A : Nat} (hA : A < 256) (k : Nat) : tat (scaleS s (A : Int)) k = Gf.mul (tat s k) A := by
 have h := isB_ofNat hA
 by_cases hk : k < s.size
 ·simp only [scaleS]
  rw [if_pos h, tat_str, Int.toNat_natCast, scaleL_at s A k hk, Int.toNat_natCast, tat_in s k hk]
  exact Nat.mod_eq_of_lt (Gf.mul_lt (u8_lt _) hA)
 ·rw [tat_out s k hk, tat_out _ k (by rw [scaleS_size h]; exact hk), Gf.zero_mul hA]
end Go.Proofs.YtaenoiffamgcfaaGreatDoor
namespace Go.Proofs.YtaenoiffamgcfaaGreatDoor
open Gs (U)
def lby (x : BitVec 64) (i : Nat) : Nat := x.toNat / 2 ^ (8 * (7 - i)) % 256
def lx (x : BitVec 64) : List Int := (List.range 8).map fun i => ((lby x i : Nat) : Int)
theorem lx_len (x : BitVec 64) : (lx x).length = 8 := by simp [lx]
theorem lx_at (x : BitVec 64) (k : Nat) (h : k < 8) : (lx x).getD k 0 = ((lby x k : Nat) : Int) := by
 simp [lx, List.getD, h]
theorem shr_by (x : BitVec 64) (j : Nat) : IntKind.u8.wrap (U x / 2 ^ j) = ((x.toNat / 2 ^ j % 256 : Nat) : Int) := by
 unfold U
 rw [IntKind.wrap_u8]
 rw [show ((x.toNat : Int) / 2 ^ j) = ((x.toNat / 2 ^ j : Nat) : Int) by simp]
 omega
theorem longText_any (x : BitVec 64) (w : World) :
  Calls Tryz.prog 57 #[.int .u64 (U x)] w fun e w' => e = .returned (.string (strOfNums (lx x))) ∧ Below w.heap.size w w' := by
 obtain ⟨i0, hi, hz0, hz1, hz2⟩ := info_parts Tryz.infoByte
 obtain ⟨xs, HX⟩ : ∃ xs, Hid (xs = lx x) := ⟨_, rfl⟩
 have HL : Hid (xs.length = 8) := by show _ = _; rw [HX.out, lx_len]
 go_enter Tryz.func57, Tryz.ntmps57
 go_wp2_with (at_make; refine wpList_make_full _ rfl _ _ 22 rfl w.heap.size 5 i0 (.int .u8 0) 1 Tryz.underlying22 hi hz0 hz1 .i64 .i64 _ _ 8 rfl rfl rfl rfl (by rw [hz2]; omega) (by unfold maxLen; omega) (Nat.le_refl _) ?_; intro w1 hown hgrow)
 have hb1 : Below w.heap.size w w1 := (Below.refl _ _).grown hgrow (Nat.le_refl _) (by simp)
 have ho1 : w1.ownsRow w.heap.size 5 1 (.slice (some ⟨w.heap.size, 0, none⟩) 8 8) 8 ((xs.take 0 ++ List.replicate (8 - 0) 0).map (Value.int .u8)) := by
  simpa [Value.cells, toList_madeCells_one] using hown
 clear hown hgrow
 go_loopw [8] (fun i wr => ∃ k : Nat, k ≤ 8 ∧ i = .int .i64 k ∧ wr.ownsRow w.heap.size 5 1 (.slice (some ⟨w.heap.size, 0, none⟩) 8 8) 8 ((xs.take k ++ List.replicate (8 - k) 0).map (Value.int .u8)) ∧ Below w.heap.size w wr) (fun i _ => 8 - (intOf i).toNat)
 case atStart => exact ⟨0, Nat.zero_le _, rfl, ho1, hb1⟩
 case round =>
  obtain ⟨k, hk, rfl, hown, hbel⟩ := hrel
  clear ho1 hb1
  by_cases hlt : k < 8
  ·have HE : Hid (xs.getD k 0 = ((lby x k : Nat) : Int)) := by show _ = _; rw [HX.out, lx_at x k hlt]
   obtain ⟨old, hold⟩ : ∃ v, wr.cell? ⟨w.heap.size, k, none⟩ = some v := by
    rw [hown.cellAt k (by omega)]
    exact ⟨_, List.getElem?_eq_getElem (by rw [hown.1]; omega)⟩
   have hfr := hown.frozenAt k
   have hst := hown.stored k (.int .u8 (xs.getD k 0))
   rw [copied_set .u8 xs 8 k HL.out hlt, HE.out] at hst
   have hne : Below w.heap.size w (wr.setCell ⟨w.heap.size, k, none⟩ (.int .u8 ((lby x k : Nat) : Int))) := hbel.setCell (Nat.le_refl _) _
   have HO : Hid _ := hst.1
   clear hst hown
   have h7 : 8 * (7 - (k : Int)) = ((8 * (7 - k) : Nat) : Int) := by omega
   have hby : IntKind.u8.wrap (U x / 2 ^ (8 * (7 - k))) = ((lby x k : Nat) : Int) := shr_by x _
   generalize lby x k = y at hby HO hne
   go_wp2
   exact ⟨⟨k + 1, by omega, by go_num, HO.out, hne⟩, by simp [intOf]; omega⟩
  ·have e : k = 8 := by omega
   subst e
   have e2 : xs.take 8 ++ List.replicate (8 - 8) 0 = xs := by rw [List.take_of_length_le (by rw [HL.out]; omega)]; simp
   rw [e2] at hown
   have hcv := run_convert_bytes_arg (P := Tryz.prog) wr 22 5 Tryz.underlying22 Tryz.underlying5 w.heap.size 0 8 8 xs HL.out (fun i hi => by
    rw [Nat.zero_add, hown.cellAt i (by omega)]
    simp [HL.out, hi]) 9 Tryz.underlying9
   go_wp2
   go_ret
   exact ⟨ret_str (by rw [HX.out]), hbel⟩
theorem sLongText_any (x : BitVec 64) (w : World) :
  Calls Tryz.prog 66 #[.int .u64 (U x)] w fun e w' => e = .returned (.string (strOfNums (lx x))) ∧ Below w.heap.size w w' := by
 obtain ⟨i0, hi, hz0, hz1, hz2⟩ := info_parts Tryz.infoByte
 obtain ⟨xs, HX⟩ : ∃ xs, Hid (xs = lx x) := ⟨_, rfl⟩
 have HL : Hid (xs.length = 8) := by show _ = _; rw [HX.out, lx_len]
 go_enter Tryz.func66, Tryz.ntmps66
 go_wp2
 have ho1 : (w.alloc (.cells #[] 5)).ownsRow w.heap.size 5 1 (.slice (some ⟨w.heap.size, 0, none⟩) 0 0) 0 ((xs.take 0).map (Value.int .u8)) :=
  World.ownsRow_lit w #[] 0 (Nat.le_refl _) (by unfold maxLen; omega) rfl
 go_loopw [3, 4] (fun v i wr => ∃ k : Nat, k ≤ 8 ∧ i = .int .i64 (56 - 8 * (k : Int)) ∧ wr.ownsRow w.heap.size 5 1 v k ((xs.take k).map (Value.int .u8)) ∧ Hid (v ≠ .slice none 0 0) ∧ Below w.heap.size w wr) (fun _ i _ => (intOf i + 8).toNat)
 case atStart => exact ⟨0, Nat.zero_le _, rfl, ho1, by simp [Hid], (Below.refl _ _).alloc (Nat.le_refl _) _⟩
 case round =>
  obtain ⟨k, hk, rfl, hown, HV, hbel⟩ := hrel
  clear ho1
  by_cases hlt : k < 8
  ·have h7 : (56 : Int) - 8 * (k : Int) = ((8 * (7 - k) : Nat) : Int) := by omega
   have hby : IntKind.u8.wrap (U x / 2 ^ (8 * (7 - k))) = ((lby x k : Nat) : Int) := shr_by x _
   have HE : Hid (xs.take (k + 1) = xs.take k ++ [((lby x k : Nat) : Int)]) := by
    show _ = _
    rw [take_snoc xs k (by rw [HL.out]; exact hlt), HX.out, lx_at x k hlt]
   have HN : Hid ((56 : Int) - 8 * ((k + 1 : Nat) : Int) = ((8 * (7 - k) : Nat) : Int) - 8) := by show _ = _; omega
   generalize lby x k = y at hby HE
   obtain ⟨j, hj⟩ : ∃ j, 8 * (7 - k) = j := ⟨_, rfl⟩
   have hj64 : j ≤ 56 := by omega
   rw [h7]
   rw [hj] at hby HN ⊢
   clear h7 hj
   go_wp2_with (at_builtin; refine wpList_append_own _ rfl _ _ 22 rfl w.heap.size 5 i0 (.int .u8 0) 1 1 Tryz.underlying22 hi hz0 hz1 hz2 rfl (by decide) _ _ _ rfl (hown.alloc _) ⟨wr.heap.size, 0, none⟩ 1 1 [.int .u8 (y : Int)] rfl rfl ?c1 ?c2 ?c3 ?c4 ?c5 ?_)
   case c1 =>
    intro j' u hj'
    match j', hj' with
    | 0, hj' => simp at hj'; subst hj'; simp [Addr.add]
   case c2 => intro u hu; simp at hu; subst hu; rfl
   case c3 => unfold maxLen; omega
   case c4 => omega
   case c5 => have := hbel.size; simp; omega
   ·intro v' w1 hown' hgrow hnil
    have HV' : Hid (v' ≠ .slice none 0 0) := hnil
    have HO : Hid (w1.ownsRow w.heap.size 5 1 v' (k + 1) ((xs.take (k + 1)).map (Value.int .u8))) := by
     rw [HE.out, List.map_append, List.map_take]
     exact hown'
    have hb' : Below w.heap.size w w1 := (hbel.alloc hbel.size _).grown hgrow (by have := hbel.size; simp; omega) (fun j hj => (hown.lt j hj).1)
    clear hown' hgrow hnil hown
    go_wp2
    go_roundw
    case rel => exact ⟨k + 1, by omega, by rw [HN.out], HO.out, HV'.out, hb'⟩
    case measure => simp [intOf] <;> omega
  ·have e : k = 8 := by omega
   subst e
   rw [List.take_of_length_le (by rw [HL.out]; omega)] at hown
   obtain ⟨g, cap, rfl⟩ : ∃ g cap, u3 = .slice (some ⟨g, 0, none⟩) 8 cap := by
    rcases hown.2 with h | ⟨g, cap, cur, h, _⟩
    ·exact absurd h.1 HV.out
    ·exact ⟨g, cap, h⟩
   have hcv := run_convert_bytes_arg (P := Tryz.prog) wr 22 5 Tryz.underlying22 Tryz.underlying5 g 0 8 cap xs HL.out (fun i hi => by
    rw [Nat.zero_add, hown.cellAt i (by omega)]
    simp [HL.out, hi]) 9 Tryz.underlying9
   go_wp2
   go_ret
   exact ⟨ret_str (by rw [HX.out]), hbel⟩
end Go.Proofs.YtaenoiffamgcfaaGreatDoor
