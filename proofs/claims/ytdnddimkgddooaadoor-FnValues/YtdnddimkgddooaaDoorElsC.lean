/- The program's functions over polynomials that write or call in an open order: numbers, putting one scaled on top of another, values. Conditions: lists of at most 2^20 numbers, byte numbers. -/
import Derived.Test.YtdnddimkgddooaaDoorElsB
namespace Go.Proofs.YtdnddimkgddooaaDoor
open Go.ChangeShapes Go.WideShapes Go.ChangeAt Go.RowKit

theorem ownI_of {w : World} {B g n : Nat} {f : Nat → Nat} (h : w.ownsRow B 3 1 (.slice (some ⟨g, 0, none⟩) n n) n ((eI f n).map (Value.int .i64))) : OwnI w B (.slice (some ⟨g, 0, none⟩) n n) (eI f n) := by
  unfold OwnI
  rw [eI_len]
  exact h

set_option maxHeartbeats 1000000 in
theorem numbers_yes (a : Option Addr) (n cap : Nat) (f : Nat → Nat) (w : World) (h : Els w a n cap f) (hn : n ≤ 1048576) (hf : ∀ i, f i < 256) (hs : Gp.tl f n ≤ 40) :
    Calls Tryd.prog 40 #[.slice a n cap] w fun e w' => ∃ v, e = .returned (.tuple #[v, .bool true]) ∧ OwnI w' w.heap.size v (eI f (Gp.tl f n)) ∧ Below w.heap.size w w' := by
  obtain ⟨i0, hi, hz0, hz1, hz2⟩ := info_parts Tryd.infoInt
  have hl := Gp.tl_le f n
  have hT := trimmed_any a n cap f w h hn hf
  have h' := h.less hl
  clear h
  generalize Gp.tl f n = t at *
  go_enter Tryd.func40, Tryd.ntmps40
  go_wp2_with fail
  refine hT.mono ?_
  rintro e w1 ⟨rfl, hw⟩
  obtain rfl := hw.symm
  go_wp2_with (at_make; refine wpList_make_full _ rfl _ _ 24 rfl w.heap.size 3 i0 (.int .i64 0) 1 Tryd.underlying24 hi hz0 hz1 .i64 .i64 _ _ t rfl rfl rfl rfl (by rw [hz2]; omega) (by unfold maxLen; omega) (Nat.le_refl _) ?_; intro w1 hown hgrow)
  have hb1 : Below w.heap.size w w1 := (Below.refl _ _).grown hgrow (Nat.le_refl _) (by simp)
  have ho1 : w1.ownsRow w.heap.size 3 1 (.slice (some ⟨w.heap.size, 0, none⟩) t t) t ((((eI f t)).take 0 ++ List.replicate (t - 0) 0).map (Value.int .i64)) := by
    simpa [Value.cells, toList_madeCells_one] using hown
  clear hown hgrow hT hw
  go_loopw [18] (fun i wr => ∃ k : Nat, k ≤ t ∧ i = .int .i64 k ∧ wr.ownsRow w.heap.size 3 1 (.slice (some ⟨w.heap.size, 0, none⟩) t t) t (((eI f t).take k ++ List.replicate (t - k) 0).map (Value.int .i64)) ∧ Below w.heap.size w wr) (fun i _ => t - (intOf i).toNat)
  case atStart => exact ⟨0, Nat.zero_le _, rfl, ho1, hb1⟩
  case round =>
    obtain ⟨k, hk, rfl, hown, hbel⟩ := hrel
    clear ho1 hb1
    by_cases hlt : k < t
    · obtain ⟨b, rfl, hc⟩ := (h'.below hbel).at (i := k) hlt
      have hfk := hf k
      obtain ⟨old, hold⟩ : ∃ v, wr.cell? ⟨w.heap.size, k, none⟩ = some v := by
        rw [hown.cellAt k (by omega)]
        exact ⟨_, List.getElem?_eq_getElem (by rw [hown.1]; omega)⟩
      have hfr := hown.frozenAt k
      have hst := hown.stored k (.int .i64 ((eI f t).getD k 0))
      rw [copied_set .i64 (eI f t) t k (eI_len f t) hlt, eI_getD f t k hlt] at hst
      have hne : Below w.heap.size w (wr.setCell ⟨w.heap.size, k, none⟩ (.int .i64 ((f k : Nat) : Int))) := hbel.setCell (Nat.le_refl _) _
      have HO : Hid _ := hst.1
      clear hst hown h'
      go_wp2
      go_roundw
      case rel => exact ⟨k + 1, by omega, by go_num, HO.out, hne⟩
      case measure => simp [intOf]; omega
    · have e : k = t := by omega
      subst e
      have e2 : (eI f k).take k ++ List.replicate (k - k) 0 = eI f k := by rw [List.take_of_length_le (by rw [eI_len]; omega)]; simp
      rw [e2] at hown
      have HO : Hid _ := ownI_of hown
      clear hown h'
      go_wp2
      go_ret2
      exact ⟨_, rfl, HO.out, hbel⟩
set_option maxHeartbeats 1000000 in
theorem numbers_no (a : Option Addr) (n cap : Nat) (f : Nat → Nat) (w : World) (h : Els w a n cap f) (hn : n ≤ 1048576) (hf : ∀ i, f i < 256) (hs : 40 < Gp.tl f n) :
    Calls Tryd.prog 40 #[.slice a n cap] w fun e w' => e = .returned (.tuple #[.slice none 0 0, .bool false]) ∧ w' = w := by
  have hT := trimmed_any a n cap f w h hn hf
  generalize Gp.tl f n = t at *
  have hs' : (40 : Int) < (t : Int) := by omega
  clear h
  go_enter Tryd.func40, Tryd.ntmps40
  go_wp2_with fail
  refine hT.mono ?_
  rintro e w1 ⟨rfl, hw⟩
  obtain rfl := hw.symm
  go_wp2
  go_ret2
  exact ⟨rfl, rfl⟩

theorem below_of_drew {w w1 : World} (h : Below w.drew.heap.size w.drew w1) : Below w.heap.size w w1 := ⟨h.os, h.tape, h.output, h.size, h.block⟩
/-- Behind 'k' numbers: 'o' scaled stands on top of 'f' from 'shift' on. -/
def onTop (f o : Nat → Nat) (scale shift k i : Nat) : Nat := if shift ≤ i ∧ i < shift + k then f i ^^^ Gp.m (o (i - shift)) scale else f i

theorem onTop_step {f o : Nat → Nat} {scale shift k j : Nat} (ho : o k < 256) (hs : scale < 256) (hj : shift + k = j) (i : Nat) : (if i = j then f j ^^^ Gf.mul (o k) scale else onTop f o scale shift k i) = onTop f o scale shift (k + 1) i := by
  subst hj
  unfold onTop
  by_cases e : i = shift + k
  · subst e
    rw [if_pos rfl, if_pos (by omega), Gp.m_nat ho hs, show shift + k - shift = k by omega]
  · rw [if_neg e]
    by_cases h : shift ≤ i ∧ i < shift + k
    · rw [if_pos h, if_pos (by omega)]
    · rw [if_neg h, if_neg (by omega)]
theorem onTop_sh {f o : Nat → Nat} {scale shift n : Nat} (ho : ∀ i, n ≤ i → o i = 0) (i : Nat) : onTop f o scale shift n i = f i ^^^ Gp.m (Gp.sh shift o i) scale := by
  unfold onTop Gp.sh
  by_cases h : shift ≤ i
  · by_cases h2 : i < shift + n
    · rw [if_pos ⟨h, h2⟩, if_pos h]
    · rw [if_neg (by omega), if_pos h, ho _ (by omega), Gp.zero_m, Nat.xor_zero]
  · rw [if_neg (by omega), if_neg h, Gp.zero_m, Nat.xor_zero]
theorem grown_step {w w1 w2 : World} {g : Nat} {v : Value} {k : Nat} (h0 : w.grownBy w1 (some g)) (hb : Below w1.heap.size w1 w2) (h2 : w2.grownBy (w2.setCell ⟨g, k, none⟩ v) (some g)) : w.grownBy (w2.setCell ⟨g, k, none⟩ v) (some g) :=
  ⟨h2.os.trans (hb.os.trans h0.os), h2.tape.trans (hb.tape.trans h0.tape), h2.output.trans (hb.output.trans h0.output), Nat.le_trans h0.size (Nat.le_trans hb.size h2.size), fun j hj hn => ((h2.block j (Nat.lt_of_lt_of_le hj (Nat.le_trans h0.size hb.size)) hn).trans (hb.block j (Nat.lt_of_lt_of_le hj h0.size))).trans (h0.block j hj hn)⟩

set_option maxHeartbeats 2000000 in
theorem addScaled_any (B g n cap : Nat) (f : Nat → Nat) (a : Option Addr) (no co : Nat) (o : Nat → Nat) (scale shift : Nat) (w : World) (hown : OwnU w B g n cap f) (ho : Els w a no co o) (hag : ∀ b, a = some ⟨b, 0, none⟩ → b ≠ g) (hf : ∀ i, f i < 256) (hoo : ∀ i, o i < 256) (hsc : scale < 256) (hfit : shift + no ≤ n) (hn : n ≤ 1048576) :
    Calls Tryd.prog 41 #[.slice (some ⟨g, 0, none⟩) n cap, .slice a no co, .int .u8 (scale : Int), .int .i64 (shift : Int)] w fun e w' => e = .returned (.tuple #[]) ∧ OwnU w' B g n cap (onTop f o scale shift no) ∧ w.grownBy w' (some g) := by
  go_enter Tryd.func41, Tryd.ntmps41
  go_wp2
  go_loopw [12] (fun i wr => ∃ k : Nat, k ≤ no ∧ i = .int .i64 k ∧ OwnU wr B g n cap (onTop f o scale shift k) ∧ w.grownBy wr (some g)) (fun i _ => no - (intOf i).toNat)
  case atStart => exact ⟨0, Nat.zero_le _, rfl, hown.congr (fun i _ => by unfold onTop; rw [if_neg (by omega)]), World.grownBy.refl _ _⟩
  case round =>
    obtain ⟨k, hk, rfl, hown', hgr⟩ := hrel
    clear hown
    have ho' := ho.grown hgr hag
    clear ho
    by_cases hlt : k < no
    · obtain ⟨b, rfl, hc⟩ := ho'.at (i := k) hlt
      clear ho' hag
      have hok := hoo k
      have hfk := hf (shift + k)
      have hsk : onTop f o scale shift k (shift + k) = f (shift + k) := by unfold onTop; rw [if_neg (by omega)]
      have hcell := (OwnU.els hown').at (i := shift + k) (by omega)
      obtain ⟨b', e', hcp⟩ := hcell
      cases e'
      rw [hsk] at hcp
      have hml := Gf.mul_lt hok hsc
      have hlti : (k : Int) < (no : Int) := by omega
      obtain ⟨j, hj⟩ : ∃ j, shift + k = j := ⟨_, rfl⟩
      rw [hj] at hcp hfk
      have hji : (shift : Int) + (k : Int) = (j : Int) := by omega
      have hjn : (j : Int) < (n : Int) := by omega
      have hjn' : j < n := by omega
      have hj0 : (0 : Int) ≤ (j : Int) := by omega
      have hwr : IntKind.i64.wrap ((shift : Int) + (k : Int)) = (j : Int) := by rw [IntKind.wrap_i64]; omega
      clear hji

      go_wp2_with fail
      go_region_with ((first | (go_at_call 42; refine (times_any (o k) scale _ hok hsc).mono ?_; rintro e w1 ⟨rfl, hb1'⟩; have hb1 := below_of_drew hb1'; clear hb1'; have hcp1 := (hb1.cell (p := ⟨g, j, none⟩) (block_lt_of_cell hcp)).trans hcp; have hown1 := (OwnU.below hown' hb1); have hfr1 := World.ownsRow.frozenAt hown1 j) | (go_at_call 43; refine (plus_any (f j) (Gf.mul (o k) scale) _ hfk hml).mono ?_; rintro e w2 ⟨rfl, hw2⟩; obtain rfl := hw2.symm)))
      all_goals
        have HS : Hid _ := OwnU.set (k := j) (v := f j ^^^ Gf.mul (o k) scale) hown1 hjn'
        have HT : Hid _ := onTop_step (f := f) (o := o) hok hsc hj
        clear hown1 hown' hsk hj
        go_wp2
        go_roundw
        case rel => exact ⟨k + 1, by omega, by go_num, OwnU.congr HS.out.1 (fun i _ => HT.out i), grown_step hgr hb1 HS.out.2⟩
        case measure => simp [intOf] <;> omega
    · have e : k = no := by omega
      subst e
      go_wp2
      go_end0
      exact ⟨rfl, hown', hgr⟩

set_option maxHeartbeats 1000000 in
theorem at_any (a : Option Addr) (n cap : Nat) (f : Nat → Nat) (x : Nat) (w : World) (h : Els w a n cap f) (hn : n ≤ 1048576) (hf : ∀ i, f i < 256) (hx : x < 256) :
    Calls Tryd.prog 30 #[.slice a n cap, .int .u8 (x : Int)] w fun e w' => e = .returned (.int .u8 ((Gp.ev f x n : Nat) : Int)) ∧ Below w.heap.size w w' := by
  go_enter Tryd.func30, Tryd.ntmps30
  go_wp2
  go_loopw [5, 6] (fun s i wr => ∃ k V : Nat, k ≤ n ∧ V < 256 ∧ s = .int .u8 (V : Int) ∧ i = .int .i64 ((k : Int) - 1) ∧ Hid (V = Gp.hn f x (n - k) k) ∧ Below w.heap.size w wr) (fun _ i _ => (intOf i + 1).toNat)
  case atStart => exact ⟨n, 0, Nat.le_refl _, by omega, rfl, rfl, by show _ = _; rw [Nat.sub_self]; rfl, Below.refl _ _⟩
  case round =>
    obtain ⟨k, V, hk, hV, rfl, rfl, HV, hbel⟩ := hrel
    have h' := h.below hbel
    clear h
    by_cases hk0 : k = 0
    · subst hk0
      go_wp2
      go_ret
      exact ⟨ret_int (by rw [HV.out, Nat.sub_zero]; rfl), hbel⟩
    · obtain ⟨j, rfl⟩ : ∃ j, k = j + 1 := ⟨k - 1, by omega⟩
      obtain ⟨b, rfl, hc⟩ := h'.at (i := j) (by omega)
      clear h'
      have hj := hf j
      have hml := Gf.mul_lt hV hx
      have HV2 : Hid (Gf.mul V x ^^^ f j = Gp.hn f x (n - j) j) := by
        show _ = _
        rw [show n - j = (n - (j + 1)) + 1 by omega, Gp.hn_s, HV.out.symm, Gp.m_nat hV hx]
      have hxl : Hid (Gf.mul V x ^^^ f j < 256) := Gf.xor_lt hml hj
      rw [show ((j + 1 : Nat) : Int) - 1 = (j : Int) by omega]
      have hjn : (j : Int) < (n : Int) := by omega
      clear HV
      go_wp2_with fail
      go_region_with ((first | (go_at_call 42; refine (times_any V x _ hV hx).mono ?_; rintro e w1 ⟨rfl, hb1'⟩; have hb1 := below_of_drew hb1'; clear hb1'; have hcp1 := (hb1.cell (p := ⟨b, j, none⟩) (block_lt_of_cell hc)).trans hc) | (go_at_call 43; refine (plus_any (Gf.mul V x) (f j) _ hml hj).mono ?_; rintro e w2 ⟨rfl, hw2⟩; obtain rfl := hw2.symm)))
      all_goals
        go_wp2
        go_roundw
        case rel => exact ⟨j, _, by omega, hxl.out, rfl, by go_num, HV2.out, below2 hbel hb1⟩
        case measure => simp [intOf] <;> omega
end Go.Proofs.YtdnddimkgddooaaDoor
