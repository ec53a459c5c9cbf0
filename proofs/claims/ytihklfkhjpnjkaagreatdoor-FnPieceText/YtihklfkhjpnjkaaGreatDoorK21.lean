import Derived.Test.YtihklfkhjpnjkaaGreatDoorK14
set_option maxHeartbeats 8000000
set_option maxRecDepth 2000
open Go.ChangeShapes Go.WideShapes Go.ChangeAt Go.RowKit
namespace Go.Proofs.YtihklfkhjpnjkaaGreatDoor
def okp (T : Nat → Nat) (i : Nat) : Bool := decide (0 ≤ ix (T (2 * i))) && decide (0 ≤ ix (T (2 * i + 1)))
def oks (T : Nat → Nat) (m : Nat) : Bool := (List.range m).all (okp T)
def hbv (T : Nat → Nat) (i : Nat) : Nat := 16 * (ix (T (2 * i))).toNat + (ix (T (2 * i + 1))).toNat
def hbL (T : Nat → Nat) (m : Nat) : List Int := (List.range m).map fun i => ((hbv T i : Nat) : Int)
theorem hbL_len (T : Nat → Nat) (m : Nat) : (hbL T m).length = m := by simp [hbL]
theorem hbL_at (T : Nat → Nat) (m k : Nat) (h : k < m) : (hbL T m).getD k 0 = ((hbv T k : Nat) : Int) := by simp [hbL, List.getD, h]
theorem hbL_snoc (T : Nat → Nat) (k : Nat) : hbL T (k + 1) = hbL T k ++ [((hbv T k : Nat) : Int)] := by simp [hbL, List.range_succ]
theorem hbv_lt (T : Nat → Nat) (i : Nat) : hbv T i < 256 := by
 have := ix_lt (T (2 * i))
 have := ix_lt (T (2 * i + 1))
 unfold hbv
 omega
theorem oks_iff {T : Nat → Nat} {m : Nat} : oks T m = true ↔ ∀ i, i < m → okp T i = true := by
 unfold oks
 rw [List.all_eq_true]
 simp [List.mem_range]
theorem oks_no {T : Nat → Nat} {m k : Nat} (hk : k < m) (h : okp T k = false) : oks T m = false := by
 cases h2 : oks T m with
 | false => rfl
 | true => rw [oks_iff.1 h2 k hk] at h; cases h
def hbF (s : ByteArray) : Bool := decide (s.size % 2 = 0) && oks (tat s) (s.size / 2)
def hbS (s : ByteArray) : ByteArray := if hbF s = true then strOfNums (hbL (tat s) (s.size / 2)) else ByteArray.empty
theorem or_digits (p q : Nat) (hp : p < 16) (hq : q < 16) : bits .or .i64 ((p : Int) * 16) (q : Int) = ((16 * p + q : Nat) : Int) := by
 have h := Nat.two_pow_add_eq_or_of_lt (i := 4) (b := q) (by omega) p
 have hl : 16 * p ||| q < 256 := by rw [show 16 * p = 2 ^ 4 * p by omega, ← h]; omega
 rw [show (p : Int) * 16 = ((16 * p : Nat) : Int) by omega]
 show IntKind.i64.wrap ((BitVec.ofInt 64 ((16 * p : Nat) : Int) ||| BitVec.ofInt 64 (q : Int)).toNat : Int) = _
 rw [BitVec.toNat_or, ofInt_u64 _ (by omega), ofInt_u64 _ (by omega), IntKind.wrap_i64, show 16 * p = 2 ^ 4 * p by omega, h]
 rw [show 16 * p = 2 ^ 4 * p by omega] at hl
 omega
theorem hexBytes_any (s : ByteArray) (w : World) (hs : s.size ≤ 1048576) :
  Calls Tryz.prog 125 #[.string s] w fun e w' => e = .returned (.tuple #[.string (hbS s), .bool (hbF s)]) ∧ Below w.heap.size w w' := by
 obtain ⟨i0, hi, hz0, hz1, hz2⟩ := info_parts Tryz.infoByte
 obtain ⟨n, hn⟩ : ∃ n, s.size = n := ⟨_, rfl⟩
 by_cases hev : n % 2 = 0
 case neg =>
  have hF : hbF s = false := by unfold hbF; simp [hn, hev]
  have HS : Hid (hbS s = ByteArray.empty) := by show _ = _; unfold hbS; rw [if_neg (by simp [hF])]
  have he : ((n : Int) % 2 != 0) = true := by simp; omega
  have he2 : ((n : Int).tmod 2 != 0) = true := by rw [Int.tmod_eq_emod_of_nonneg (by omega)]; exact he
  go_enter Tryz.func125, Tryz.ntmps125
  go_wp2
  go_ret2
  exact ⟨by rw [HS.out, hF]; rfl, Below.refl _ _⟩
 obtain ⟨m, hm⟩ : ∃ m, n = 2 * m := ⟨n / 2, by omega⟩
 have hF : hbF s = oks (tat s) m := by unfold hbF; rw [hn, show n / 2 = m by omega]; simp [hev]
 have HF : Hid (hbF s = oks (tat s) m) := hF
 have HS : Hid (hbS s = if oks (tat s) m = true then strOfNums (hbL (tat s) m) else ByteArray.empty) := by show _ = _; unfold hbS; rw [hF, hn, show n / 2 = m by omega]
 clear hF
 have he : ((n : Int) % 2 != 0) = false := by simp; omega
 have he2 : ((n : Int).tmod 2 != 0) = false := by rw [Int.tmod_eq_emod_of_nonneg (by omega)]; exact he
 have hd : (n : Int) / 2 = (m : Int) := by omega
 have hd2 : (n : Int).tdiv 2 = (m : Int) := by rw [Int.tdiv_eq_ediv_of_nonneg (by omega)]; exact hd
 have hwm : IntKind.i64.wrap (m : Int) = (m : Int) := by rw [IntKind.wrap_i64]; omega
 obtain ⟨xs, HX⟩ : ∃ xs, Hid (xs = hbL (tat s) m) := ⟨_, rfl⟩
 have HL : Hid (xs.length = m) := by show _ = _; rw [HX.out, hbL_len]
 have HM : Hid (n = 2 * m) := hm
 have hmb : m ≤ 1048576 := by omega
 clear hm hev
 go_enter Tryz.func125, Tryz.ntmps125
 go_wp2_with (at_make; refine wpList_make_full _ rfl _ _ 22 rfl w.heap.size 5 i0 (.int .u8 0) 1 Tryz.underlying22 hi hz0 hz1 .i64 .i64 _ _ m rfl rfl rfl rfl (by rw [hz2]; omega) (by unfold maxLen; omega) (Nat.le_refl _) ?_; intro w1 hown hgrow)
 have hb1 : Below w.heap.size w w1 := (Below.refl _ _).grown hgrow (Nat.le_refl _) (by simp)
 have ho1 : w1.ownsRow w.heap.size 5 1 (.slice (some ⟨w.heap.size, 0, none⟩) m m) m ((xs.take 0 ++ List.replicate (m - 0) 0).map (Value.int .u8)) := by
  simpa [Value.cells, toList_madeCells_one] using hown
 clear hown hgrow he he2 hd hd2 hwm
 go_loopw [18] (fun i wr => ∃ k : Nat, k ≤ m ∧ i = .int .i64 k ∧ (∀ j, j < k → okp (tat s) j = true) ∧ wr.ownsRow w.heap.size 5 1 (.slice (some ⟨w.heap.size, 0, none⟩) m m) m ((xs.take k ++ List.replicate (m - k) 0).map (Value.int .u8)) ∧ Below w.heap.size w wr) (fun i _ => m - (intOf i).toNat)
 case atStart => exact ⟨0, Nat.zero_le _, rfl, fun j hj => absurd hj (Nat.not_lt_zero _), ho1, hb1⟩
 case round =>
  obtain ⟨k, hk, rfl, hok, hown, hbel⟩ := hrel
  clear ho1 hb1
  have KK : Hid (∀ j, j < k → okp (tat s) j = true) := hok
  clear hok
  by_cases hlt : k < m
  ·have hlti : (k : Int) < (m : Int) := by omega
   have hk1 : 2 * k < s.size := by have := HM.out; omega
   have hk2 : 2 * k + 1 < s.size := by have := HM.out; omega
   have hwk : IntKind.i64.wrap (2 * (k : Int)) = 2 * (k : Int) := by rw [IntKind.wrap_i64]; omega
   have hwk2 : IntKind.i64.wrap (2 * (k : Int) + 1) = 2 * (k : Int) + 1 := by rw [IntKind.wrap_i64]; omega
   have i1 : (0 : Int) ≤ 2 * (k : Int) := by omega
   have i2 : 2 * (k : Int) < (n : Int) := by omega
   have i3 : (0 : Int) ≤ 2 * (k : Int) + 1 := by omega
   have i4 : 2 * (k : Int) + 1 < (n : Int) := by omega
   have i5 : (2 * (k : Int)).toNat = 2 * k := by omega
   have i6 : (2 * (k : Int) + 1).toNat = 2 * k + 1 := by omega
   obtain ⟨c, hc⟩ : ∃ c, s[2 * k].toNat = c := ⟨_, rfl⟩
   obtain ⟨d, hd⟩ : ∃ d, s[2 * k + 1].toNat = d := ⟨_, rfl⟩
   have hcl : c < 256 := by rw [← hc]; exact u8_lt _
   have hdl : d < 256 := by rw [← hd]; exact u8_lt _
   have HC : Hid (tat s (2 * k) = c) := (tat_in s _ hk1).trans hc
   have HD : Hid (tat s (2 * k + 1) = d) := (tat_in s _ hk2).trans hd
   by_cases hbad : okp (tat s) k = true
   ·have h1 : 0 ≤ ix c := by simp only [okp, HC.out, HD.out, Bool.and_eq_true, decide_eq_true_eq] at hbad; exact hbad.1
    have h2 : 0 ≤ ix d := by simp only [okp, HC.out, HD.out, Bool.and_eq_true, decide_eq_true_eq] at hbad; exact hbad.2
    have KK2 : Hid (∀ j, j < k + 1 → okp (tat s) j = true) := by
     intro j hj
     by_cases hjk : j = k
     ·rw [hjk]; exact hbad
     ·exact KK.out j (by omega)
    obtain ⟨p, hp⟩ : ∃ p : Nat, ix c = (p : Int) := ⟨(ix c).toNat, by omega⟩
    obtain ⟨q, hq⟩ : ∃ q : Nat, ix d = (q : Int) := ⟨(ix d).toNat, by omega⟩
    have hpl : p < 16 := by have := ix_lt c; omega
    have hql : q < 16 := by have := ix_lt d; omega
    have HE : Hid (xs.getD k 0 = ((16 * p + q : Nat) : Int)) := by
     show _ = _
     rw [HX.out, hbL_at _ _ _ hlt, hbv, HC.out, HD.out, hp, hq, Int.toNat_natCast, Int.toNat_natCast]
    clear h1 h2 hbad KK
    have hor := or_digits p q hpl hql
    have hsh : IntKind.i64.wrap ((p : Int) * 16) = (p : Int) * 16 := by rw [IntKind.wrap_i64]; omega
    obtain ⟨y, hy⟩ : ∃ y, 16 * p + q = y := ⟨_, rfl⟩
    have hyl : y < 256 := by omega
    rw [hy] at hor HE
    clear hy
    have hw8 : IntKind.u8.wrap (y : Int) = (y : Int) := by rw [IntKind.wrap_u8]; omega
    obtain ⟨old, hold⟩ : ∃ v, wr.cell? ⟨w.heap.size, k, none⟩ = some v := by
     rw [hown.cellAt k (by omega)]
     exact ⟨_, List.getElem?_eq_getElem (by rw [hown.1]; omega)⟩
    have KO : Hid (wr.ownsRow w.heap.size 5 1 (.slice (some ⟨w.heap.size, 0, none⟩) m m) m ((xs.take k ++ List.replicate (m - k) 0).map (Value.int .u8))) := hown
    clear hown
    go_wp2_with fail
    go_quiet ((go_at_call 151; exact Calls.quiet_of_same (indexByte_any _ (by assumption) _)))
    obtain ⟨w2, HW2⟩ : ∃ x, Hid (x = wr.drewN nq) := ⟨_, rfl⟩
    rw [← HW2.out]
    have KO2 : Hid (w2.ownsRow w.heap.size 5 1 (.slice (some ⟨w.heap.size, 0, none⟩) m m) m ((xs.take k ++ List.replicate (m - k) 0).map (Value.int .u8))) := by
     rw [HW2.out]
     exact ownsRow_below KO.out (belowDrewN (Below.refl _ _) _)
    have hb2 : Below w.heap.size w w2 := by rw [HW2.out]; exact belowDrewN hbel _
    clear hbel KO hold
    obtain ⟨old, hold⟩ : ∃ v, w2.cell? ⟨w.heap.size, k, none⟩ = some v := by
     rw [World.ownsRow.cellAt KO2.out k (by omega)]
     exact ⟨_, List.getElem?_eq_getElem (by rw [KO2.out.1]; omega)⟩
    have hfr := World.ownsRow.frozenAt KO2.out k
    have hst := World.ownsRow.stored KO2.out k (.int .u8 (xs.getD k 0))
    rw [copied_set .u8 xs m k HL.out hlt, HE.out] at hst
    have HO : Hid _ := hst.1
    clear hst KO2
    go_wp2
    go_roundw
    case rel => exact ⟨k + 1, by omega, by go_num, KK2.out, HO.out, hb2.setCell (Nat.le_refl _) _⟩
    case measure => simp [intOf]; omega
   ·have hbad' : okp (tat s) k = false := by simpa using hbad
    have hF0 : oks (tat s) m = false := oks_no hlt hbad'
    have HF0 : Hid (hbF s = false) := HF.out.trans hF0
    have HS0 : Hid (hbS s = ByteArray.empty) := by show _ = _; rw [HS.out, hF0]; rfl
    clear hF0 hbad hown
    simp only [okp, HC.out, HD.out] at hbad'
    by_cases h1 : 0 ≤ ix c
    ·have h2 : ix d < 0 := by simp [h1] at hbad'; exact hbad'
     have b1 : decide (ix c < 0) = false := by simp; omega
     have b2 : decide (ix d < 0) = true := by simp; omega
     clear hbad' h1 h2
     go_wp2_with fail
     go_quiet ((go_at_call 151; exact Calls.quiet_of_same (indexByte_any _ (by assumption) _)))
     go_wp2
     go_ret2
     exact ⟨by rw [HS0.out, HF0.out]; rfl, belowDrewN hbel _⟩
    ·have b1 : decide (ix c < 0) = true := by simp; omega
     clear hbad' h1
     go_wp2_with fail
     go_quiet ((go_at_call 151; exact Calls.quiet_of_same (indexByte_any _ (by assumption) _)))
     go_wp2
     go_ret2
     exact ⟨by rw [HS0.out, HF0.out]; rfl, belowDrewN hbel _⟩
  ·have e : k = m := by omega
   subst e
   have hF1 : oks (tat s) k = true := oks_iff.2 KK.out
   have HF1 : Hid (hbF s = true) := HF.out.trans hF1
   have HS1 : Hid (hbS s = strOfNums xs) := by show _ = _; rw [HS.out, hF1, if_pos rfl, HX.out]
   clear hF1
   have e2 : xs.take k ++ List.replicate (k - k) 0 = xs := by rw [List.take_of_length_le (by rw [HL.out]; omega)]; simp
   rw [e2] at hown
   have hcv := run_convert_bytes_arg (P := Tryz.prog) wr 22 5 Tryz.underlying22 Tryz.underlying5 w.heap.size 0 k k xs HL.out (fun i hi => by
    rw [Nat.zero_add, hown.cellAt i (by omega)]
    simp [HL.out, hi]) 9 Tryz.underlying9
   go_wp2
   go_ret2
   exact ⟨by rw [HS1.out, HF1.out]; rfl, hbel⟩
theorem sHexBytes_any (s : ByteArray) (w : World) (hs : s.size ≤ 1048576) :
  Calls Tryz.prog 93 #[.string s] w fun e w' => e = .returned (.tuple #[.string (hbS s), .bool (hbF s)]) ∧ Below w.heap.size w w' := by
 obtain ⟨i0, hi, hz0, hz1, hz2⟩ := info_parts Tryz.infoByte
 obtain ⟨n, hn⟩ : ∃ n, s.size = n := ⟨_, rfl⟩
 obtain ⟨m, HM⟩ : ∃ m, Hid (m = n / 2) := ⟨_, rfl⟩
 have hmn : 2 * m ≤ n := by have := HM.out; omega
 have hmn2 : n ≤ 2 * m + 1 := by have := HM.out; omega
 have HF : Hid (hbF s = (decide (n % 2 = 0) && oks (tat s) m)) := by show _ = _; unfold hbF; rw [hn, HM.out]
 have HS : Hid (hbS s = if hbF s = true then strOfNums (hbL (tat s) m) else ByteArray.empty) := by show _ = _; unfold hbS; rw [hn, ← HM.out]
 have K1 : Hid ((w.alloc (.cells #[] 5)).ownsRow w.heap.size 5 1 (.slice (some ⟨w.heap.size, 0, none⟩) 0 0) 0 ((hbL (tat s) 0).map (Value.int .u8))) :=
  World.ownsRow_lit w #[] 0 (Nat.le_refl _) (by unfold maxLen; omega) rfl
 have KB1 : Hid (Below w.heap.size w (w.alloc (.cells #[] 5))) := (Below.refl _ _).alloc (Nat.le_refl _) _
 go_enter Tryz.func93, Tryz.ntmps93
 go_wp2
 go_loopw [4, 5] (fun v i wr => ∃ (k gg cap2 : Nat), k ≤ m ∧ i = .int .i64 (2 * (k : Int)) ∧ v = .slice (some ⟨gg, 0, none⟩) k cap2 ∧ (∀ j, j < k → okp (tat s) j = true) ∧ wr.ownsRow w.heap.size 5 1 (.slice (some ⟨gg, 0, none⟩) k cap2) k ((hbL (tat s) k).map (Value.int .u8)) ∧ Below w.heap.size w wr) (fun _ i _ => n - (intOf i).toNat)
 case atStart => exact ⟨0, _, _, Nat.zero_le _, rfl, rfl, fun j hj => absurd hj (Nat.not_lt_zero _), K1.out, KB1.out⟩
 case round =>
  obtain ⟨k, gg, cap2, hk, rfl, rfl, hok, hown, hbel⟩ := hrel
  clear K1 KB1
  have KK : Hid (∀ j, j < k → okp (tat s) j = true) := hok
  clear hok
  by_cases hlt : k < m
  ·have hk1 : 2 * k < s.size := by omega
   have hk2 : 2 * k + 1 < s.size := by omega
   have i1 : (0 : Int) ≤ 2 * (k : Int) := by omega
   have i2 : 2 * (k : Int) < (n : Int) := by omega
   have i3 : (0 : Int) ≤ 2 * (k : Int) + 1 := by omega
   have i4 : 2 * (k : Int) + 1 < (n : Int) := by omega
   have i5 : (2 * (k : Int)).toNat = 2 * k := by omega
   have i6 : (2 * (k : Int) + 1).toNat = 2 * k + 1 := by omega
   have i7 : IntKind.i64.wrap (2 * (k : Int) + 1) = 2 * (k : Int) + 1 := by rw [IntKind.wrap_i64]; omega
   obtain ⟨c, hc⟩ : ∃ c, s[2 * k].toNat = c := ⟨_, rfl⟩
   obtain ⟨d, hd⟩ : ∃ d, s[2 * k + 1].toNat = d := ⟨_, rfl⟩
   have HC : Hid (tat s (2 * k) = c) := (tat_in s _ hk1).trans hc
   have HD : Hid (tat s (2 * k + 1) = d) := (tat_in s _ hk2).trans hd
   by_cases hbad : okp (tat s) k = true
   ·have h1 : 0 ≤ ix c := by simp only [okp, HC.out, HD.out, Bool.and_eq_true, decide_eq_true_eq] at hbad; exact hbad.1
    have h2 : 0 ≤ ix d := by simp only [okp, HC.out, HD.out, Bool.and_eq_true, decide_eq_true_eq] at hbad; exact hbad.2
    have KK2 : Hid (∀ j, j < k + 1 → okp (tat s) j = true) := by
     intro j hj
     by_cases hjk : j = k
     ·rw [hjk]; exact hbad
     ·exact KK.out j (by omega)
    obtain ⟨p, hp⟩ : ∃ p : Nat, ix c = (p : Int) := ⟨(ix c).toNat, by omega⟩
    obtain ⟨q, hq⟩ : ∃ q : Nat, ix d = (q : Int) := ⟨(ix d).toNat, by omega⟩
    have hpl : p < 16 := by have := ix_lt c; omega
    have hql : q < 16 := by have := ix_lt d; omega
    have HE : Hid (hbL (tat s) (k + 1) = hbL (tat s) k ++ [((16 * p + q : Nat) : Int)]) := by
     show _ = _
     rw [hbL_snoc, hbv, HC.out, HD.out, hp, hq, Int.toNat_natCast, Int.toNat_natCast]
    clear h1 h2 hbad KK
    obtain ⟨y, hy⟩ : ∃ y, 16 * p + q = y := ⟨_, rfl⟩
    have hyl : y < 256 := by omega
    rw [hy] at HE
    have hsum : 16 * (p : Int) + (q : Int) = (y : Int) := by omega
    have hw16 : IntKind.i64.wrap (16 * (p : Int)) = 16 * (p : Int) := by rw [IntKind.wrap_i64]; omega
    have hwy : IntKind.i64.wrap (y : Int) = (y : Int) := by rw [IntKind.wrap_i64]; omega
    have hw8 : IntKind.u8.wrap (y : Int) = (y : Int) := by rw [IntKind.wrap_u8]; omega
    clear hy
    have KO : Hid (wr.ownsRow w.heap.size 5 1 (.slice (some ⟨gg, 0, none⟩) k cap2) k ((hbL (tat s) k).map (Value.int .u8))) := hown
    clear hown
    go_wp2_with fail
    go_quiet ((go_at_call 135; exact Calls.quiet_of_same (digit_any _ _)))
    obtain ⟨w2, HW2⟩ : ∃ x, Hid (x = wr.drewN nq) := ⟨_, rfl⟩
    rw [← HW2.out]
    have KO2 : Hid (w2.ownsRow w.heap.size 5 1 (.slice (some ⟨gg, 0, none⟩) k cap2) k ((hbL (tat s) k).map (Value.int .u8))) := by
     rw [HW2.out]
     exact ownsRow_below KO.out (belowDrewN (Below.refl _ _) _)
    have hb2 : Below w.heap.size w w2 := by rw [HW2.out]; exact belowDrewN hbel _
    have hs2 := hb2.size
    have hgl := (World.ownsRow.lt KO2.out _ rfl).1
    clear hbel KO
    go_wp2_with (at_builtin; refine wpList_append_lies _ (by rfl) _ _ 22 (by rfl) w.heap.size 5 i0 (.int .u8 0) 1 1 Tryz.underlying22 hi hz0 hz1 hz2 rfl (by decide) (.slice (some ⟨gg, 0, none⟩) k cap2) k _ (by rfl) (World.ownsRow.alloc KO2.out _) ⟨w2.heap.size, 0, none⟩ 1 1 [.int .u8 (y : Int)] (by rfl) (by rfl) (World.news_of_block (cs := #[.int .u8 (y : Int)]) (t := 5) (fr := (0, 0)) (heap_alloc_new w2 _)) (by simp [Value.oneCell']) (by omega) (by unfold maxLen; omega) (by omega) (by simp; omega) (w2.heap.size + 1) (by simp) ?_; intro g3 cap3 w3 hown3 hgrow hat hltg; have HO : Hid (w3.ownsRow w.heap.size 5 1 (.slice (some ⟨g3, 0, none⟩) (k + 1) cap3) (k + 1) ((hbL (tat s) (k + 1)).map (Value.int .u8))) := (by rw [HE.out, List.map_append]; exact hown3); have hb' : Below w.heap.size w w3 := (hb2.alloc hs2 _).grown (show World.grownBy _ w3 (some gg) from hgrow) (by simp; omega) (fun j hj => by cases hj; exact hgl); clear hown3 hgrow hat hltg)
    go_roundw
    case rel => exact ⟨k + 1, g3, cap3, by omega, by congr 1 <;> omega, rfl, KK2.out, HO.out, hb'⟩
    case measure => simp [intOf] <;> omega
   ·have hbad' : okp (tat s) k = false := by simpa using hbad
    have hF0 : hbF s = false := by rw [HF.out, oks_no hlt hbad', Bool.and_false]
    have HF0 : Hid (hbF s = false) := hF0
    have HS0 : Hid (hbS s = ByteArray.empty) := by show _ = _; rw [HS.out, hF0]; rfl
    clear hF0 hbad hown
    simp only [okp, HC.out, HD.out] at hbad'
    by_cases h1 : 0 ≤ ix c
    ·have h2 : ix d < 0 := by simp [h1] at hbad'; exact hbad'
     have b1 : decide (ix c < 0) = false := by simp; omega
     have b2 : decide (ix d < 0) = true := by simp; omega
     clear hbad' h1 h2
     go_wp2_with fail
     go_quiet ((go_at_call 135; exact Calls.quiet_of_same (digit_any _ _)))
     go_wp2
     go_ret2
     exact ⟨by rw [HS0.out, HF0.out]; rfl, belowDrewN hbel _⟩
    ·have b1 : decide (ix c < 0) = true := by simp; omega
     clear hbad' h1
     go_wp2_with fail
     go_quiet ((go_at_call 135; exact Calls.quiet_of_same (digit_any _ _)))
     go_wp2
     go_ret2
     exact ⟨by rw [HS0.out, HF0.out]; rfl, belowDrewN hbel _⟩
  ·have e : k = m := by omega
   subst e
   have i4 : ¬ 2 * (k : Int) + 1 < (n : Int) := by omega
   have i7 : IntKind.i64.wrap (2 * (k : Int) + 1) = 2 * (k : Int) + 1 := by rw [IntKind.wrap_i64]; omega
   have hF1 : oks (tat s) k = true := oks_iff.2 KK.out
   by_cases hev : n % 2 = 0
   ·have he : ((n : Int) % 2 == 1) = false := by simp; omega
    have he2 : ((n : Int).tmod 2 == 1) = false := by rw [Int.tmod_eq_emod_of_nonneg (by omega)]; exact he
    have hFt : hbF s = true := by rw [HF.out, hF1]; simp [hev]
    have HF1 : Hid (hbF s = true) := hFt
    have HS1 : Hid (hbS s = strOfNums (hbL (tat s) k)) := by show _ = _; rw [HS.out, hFt, if_pos rfl]
    clear hF1 hFt
    have HL : Hid ((hbL (tat s) k).length = k) := hbL_len _ _
    have hcv := run_convert_bytes_arg (P := Tryz.prog) wr 22 5 Tryz.underlying22 Tryz.underlying5 gg 0 k cap2 (hbL (tat s) k) HL.out (fun i hi => by
     rw [Nat.zero_add, hown.cellAt i (by omega)]
     simp [HL.out, hi]) 9 Tryz.underlying9
    go_wp2
    go_ret2
    exact ⟨by rw [HS1.out, HF1.out]; rfl, hbel⟩
   ·have he : ((n : Int) % 2 == 1) = true := by simp; omega
    have he2 : ((n : Int).tmod 2 == 1) = true := by rw [Int.tmod_eq_emod_of_nonneg (by omega)]; exact he
    have hFf : hbF s = false := by rw [HF.out]; simp [hev]
    have HF1 : Hid (hbF s = false) := hFf
    have HS1 : Hid (hbS s = ByteArray.empty) := by show _ = _; rw [HS.out, hFf]; rfl
    clear hF1 hFf hown
    go_wp2
    go_ret2
    exact ⟨by rw [HS1.out, HF1.out]; rfl, hbel⟩
end Go.Proofs.YtihklfkhjpnjkaaGreatDoor
