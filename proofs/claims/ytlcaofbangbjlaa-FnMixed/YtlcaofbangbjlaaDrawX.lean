/- The draws of longs and of digits: what each gives, at any bytes. Condition: at most 2^20 bytes of code. -/
import Derived.Test.YtlcaofbangbjlaaDrawT
import Derived.Test.YtlcaofbangbjlaaSMix
import Derived.Test.YtlcaofbangbjlaaSBlk
import Derived.Test.YtlcaofbangbjlaaSHexT
namespace Go.Proofs.Ytlcaofbangbjlaa
open Go.ChangeShapes Go.WideShapes Go.ChangeAt Go.RowKit
open Gs (U V4)

theorem u32_in (n : Int) : 0 ≤ IntKind.u32.wrap n ∧ IntKind.u32.wrap n < 4294967296 := by rw [IntKind.wrap_u32]; omega

set_option maxHeartbeats 1000000 in
theorem word_any (g n cap : Nat) (a : Option Addr) (w : World) (hc : Cur w g a n cap) :
    Calls Try.prog 52 #[.pointer (some ⟨g, 0, none⟩)] w fun e w' => ∃ x : Nat, x < 4294967296 ∧ e = .returned (.int .u32 (x : Int)) ∧ w.grownBy w' (some g) ∧ Cur w' g a n cap := by
  have fin : ∀ z : Int, ∃ x : Nat, x < 4294967296 ∧ Ending.returned (.int .u32 (IntKind.u32.wrap z)) = .returned (.int .u32 (x : Int)) := fun z =>
    ⟨(IntKind.u32.wrap z).toNat, by have := u32_in z; omega, by have := u32_in z; congr 2; omega⟩
  have F : Hid _ := fin
  clear fin
  go_enter Try.func52, Try.ntmps52
  go_wp2_with fail
  refine (belowN_any g n cap a _ _ hc).mono ?_
  rintro e w1 ⟨x, x0, x1, _, rfl, hg1, hc1⟩
  have hlt := hc1.lt
  clear x1
  by_cases e0 : x = 0
  · subst e0
    go_wp2_with fail
    refine (pick_any g n cap a w1.heap.size 0 11 11 _ (hc1.alloc _) (by omega) (by omega) (by omega) (lit_cells (cs := [0, 1, 2, 31, 32, 255, 256, 2147483647, 2147483648, 4294967295, 4294967294]))).mono ?_
    rintro e w2 ⟨z, rfl, hg2, hc2⟩
    obtain ⟨y, hy, ey⟩ := F.out z
    clear hc hc1
    go_wp2
    go_ret
    exact ⟨y, hy, ey, grownBy_trans hg1 (grownBy_trans (World.grownBy_alloc w1 _ _) hg2), hc2⟩
  · have b0 : (x == 0) = false := by simpa using e0
    by_cases e1 : x = 1
    · subst e1
      go_wp2_with fail
      refine (belowN_any g n cap a _ _ hc1).mono ?_
      rintro e w2 ⟨z, z0, z1, _, rfl, hg2, hc2⟩
      have z2 := z1 (by omega)
      clear z1
      obtain ⟨Z, rfl⟩ := Int.eq_ofNat_of_zero_le z0
      go_wp2
      go_ret
      exact ⟨Z, by omega, rfl, grownBy_trans hg1 hg2, hc2⟩
    · have b1 : (x == 1) = false := by simpa using e1
      go_wp2_with fail
      refine (belowN_any g n cap a _ _ hc1).mono ?_
      rintro e w2 ⟨z, z0, z1, _, rfl, hg2, hc2⟩
      have z2 := z1 (by omega)
      clear z1
      go_wp2_with fail
      refine (belowN_any g n cap a _ _ hc2).mono ?_
      rintro e w3 ⟨y, y0, y1, _, rfl, hg3, hc3⟩
      have y2 := y1 (by omega)
      clear y1
      obtain ⟨Z, rfl⟩ := Int.eq_ofNat_of_zero_le z0
      obtain ⟨Y, rfl⟩ := Int.eq_ofNat_of_zero_le y0
      go_wp2
      go_ret
      exact ⟨Z * 65536 + Y, by omega, by simp, grownBy_trans hg1 (grownBy_trans hg2 hg3), hc3⟩

set_option maxHeartbeats 1000000 in
theorem longDraw_any (g n cap : Nat) (a : Option Addr) (w : World) (hc : Cur w g a n cap) :
    Calls Try.prog 36 #[.pointer (some ⟨g, 0, none⟩)] w fun e w' => ∃ x : BitVec 64, e = .returned (.int .u64 (U x)) ∧ w.grownBy w' (some g) ∧ Cur w' g a n cap := by
  have hor := Gs.U_or
  go_enter Try.func36, Try.ntmps36
  go_wp2_with fail
  refine (word_any g n cap a _ hc).mono ?_
  rintro e w1 ⟨x, hx, rfl, hg1, hc1⟩
  have ex := Gs.U_nat (n := x) (by omega)
  have e1 : IntKind.u64.wrap (x : Int) = (x : Int) := by rw [IntKind.wrap_u64]; omega
  have e2 : IntKind.u64.wrap ((x : Int) * 4294967296) = U (BitVec.ofNat 64 x <<< 32) := by rw [ex, show (4294967296 : Int) = 2 ^ 32 by decide, Gs.U_shl]
  clear ex
  go_wp2_with fail
  refine (word_any g n cap a _ hc1).mono ?_
  rintro e w2 ⟨y, hy, rfl, hg2, hc2⟩
  have ey := Gs.U_nat (n := y) (by omega)
  have e3 : IntKind.u64.wrap (y : Int) = U (BitVec.ofNat 64 y) := by rw [IntKind.wrap_u64, ← ey]; omega
  clear ey
  go_wp2
  go_ret
  exact ⟨_, rfl, grownBy_trans hg1 hg2, hc2⟩

set_option maxHeartbeats 400000 in
theorem drawLong_any (a : Option Addr) (n cap : Nat) (w : World) (hc : CodeAt w a n) :
    Calls Try.prog 27 #[.slice a n cap] w fun e w' => ∃ x : BitVec 64, e = .returned (.int .u64 (U x)) ∧ Below w.heap.size w w' := by
  go_enter Try.func27, Try.ntmps27
  go_wp2_with fail
  refine (new_any a n cap _ hc.1 hc.bytes).mono ?_
  rintro e w1 ⟨g, rfl, hg, hb1, hc1⟩
  go_wp2_with fail
  refine (longDraw_any g n cap a _ hc1).mono ?_
  rintro e w2 ⟨x, rfl, hg2, hc2⟩
  go_wp2
  go_ret
  exact ⟨x, rfl, below_g hb1 hg hg2⟩

set_option maxHeartbeats 400000 in
theorem drawHexText_any (a : Option Addr) (n cap : Nat) (w : World) (hc : CodeAt w a n) :
    Calls Try.prog 22 #[.slice a n cap] w fun e w' => ∃ s : ByteArray, s.size ≤ 12 ∧ e = .returned (.string s) ∧ Below w.heap.size w w' := by
  go_enter Try.func22, Try.ntmps22
  go_wp2_with fail
  refine (new_any a n cap _ hc.1 hc.bytes).mono ?_
  rintro e w1 ⟨g, rfl, hg, hb1, hc1⟩
  have hab := hc.under hg
  go_wp2_with fail
  refine (belowN_any g n cap a _ _ hc1).mono ?_
  rintro e w2 ⟨x, x0, x1, _, rfl, hg2, hc2⟩
  have x2 := x1 (by omega)
  obtain ⟨m, rfl⟩ := Int.eq_ofNat_of_zero_le x0
  go_wp2_with fail
  refine (bytes_any g n cap a m _ hc2 hab (by omega)).mono ?_
  rintro e w3 ⟨s, hs, rfl, hg3, hc3⟩
  go_wp2
  go_ret
  exact ⟨s, by omega, rfl, below_g hb1 hg (grownBy_trans hg2 hg3)⟩

set_option maxHeartbeats 1000000 in
theorem drawRoll_any (a : Option Addr) (n cap : Nat) (w : World) (hc : CodeAt w a n) :
    Calls Try.prog 13 #[.slice a n cap] w fun e w' => ∃ (x : BitVec 64) (m : Int), e = .returned (.tuple #[.int .u64 (U x), .int .i64 m]) ∧ Below w.heap.size w w' := by
  go_enter Try.func13, Try.ntmps13
  go_wp2_with fail
  refine (new_any a n cap _ hc.1 hc.bytes).mono ?_
  rintro e w1 ⟨g, rfl, hg, hb1, hc1⟩
  go_wp2_with fail
  refine (longDraw_any g n cap a _ hc1).mono ?_
  rintro e w2 ⟨x, rfl, hg2, hc2⟩
  go_wp2_with fail
  refine (belowN_any g n cap a _ _ hc2).mono ?_
  rintro e w3 ⟨y, y0, y1, _, rfl, hg3, hc3⟩
  have y2 := y1 (by omega)
  clear y1
  go_wp2_with fail
  refine (belowN_any g n cap a _ _ hc3).mono ?_
  rintro e w4 ⟨z, z0, z1, _, rfl, hg4, hc4⟩
  have z2 := z1 (by omega)
  have hlt := hc4.lt
  clear z1
  go_wp2_with fail
  refine (pick_any g n cap a w4.heap.size 0 5 5 _ (hc4.alloc _) (by omega) (by omega) (by omega) (lit_cells (cs := [y, -z, 64, 9223372036854775807, -9223372036854775808]))).mono ?_
  rintro e w5 ⟨m, rfl, hg5, hc5⟩
  go_wp2
  go_ret2
  exact ⟨x, m, rfl, below_g hb1 hg (grownBy_trans hg2 (grownBy_trans hg3 (grownBy_trans hg4 (grownBy_trans (World.grownBy_alloc w4 _ _) hg5))))⟩

set_option maxHeartbeats 1000000 in
theorem drawSip_any (a : Option Addr) (n cap : Nat) (w : World) (hc : CodeAt w a n) :
    Calls Try.prog 15 #[.slice a n cap] w fun e w' => ∃ (x y : BitVec 64) (s : ByteArray), s.size ≤ 300 ∧ e = .returned (.tuple #[.int .u64 (U x), .int .u64 (U y), .string s]) ∧ Below w.heap.size w w' := by
  go_enter Try.func15, Try.ntmps15
  go_wp2_with fail
  refine (new_any a n cap _ hc.1 hc.bytes).mono ?_
  rintro e w1 ⟨g, rfl, hg, hb1, hc1⟩
  have hab := hc.under hg
  go_wp2_with fail
  refine (longDraw_any g n cap a _ hc1).mono ?_
  rintro e w2 ⟨x, rfl, hg2, hc2⟩
  go_wp2_with fail
  refine (longDraw_any g n cap a _ hc2).mono ?_
  rintro e w3 ⟨y, rfl, hg3, hc3⟩
  go_wp2_with fail
  refine (belowN_any g n cap a _ _ hc3).mono ?_
  rintro e w4 ⟨z, z0, z1, _, rfl, hg4, hc4⟩
  have z2 := z1 (by omega)
  clear z1
  go_wp2_with fail
  refine (once_any g n cap a _ _ hc4).mono ?_
  rintro e w5 ⟨q, rfl, hg5, hc5⟩
  have hg15 := grownBy_trans hg2 (grownBy_trans hg3 (grownBy_trans hg4 hg5))
  clear hc1 hc2 hc3 hc4 hg2 hg3 hg4 hg5
  cases q
  · obtain ⟨m, rfl⟩ := Int.eq_ofNat_of_zero_le z0
    go_wp2_with fail
    refine (bytes_any g n cap a m _ hc5 hab (by omega)).mono ?_
    rintro e w6 ⟨s, hs, rfl, hg6, hc6⟩
    go_wp2
    go_ret3
    exact ⟨x, y, s, by omega, rfl, below_g hb1 hg (grownBy_trans hg15 hg6)⟩
  · go_wp2_with fail
    refine (belowN_any g n cap a _ _ hc5).mono ?_
    rintro e w6 ⟨u, u0, u1, _, rfl, hg6, hc6⟩
    have u2 := u1 (by omega)
    clear u1
    obtain ⟨m, rfl⟩ := Int.eq_ofNat_of_zero_le u0
    obtain ⟨M, HM⟩ : ∃ M : Nat, Hid (M = 250 + m) := ⟨_, rfl⟩
    have em : (250 : Int) + (m : Int) = (M : Int) := by have := HM.out; omega
    have hM : M ≤ 262 := by have := HM.out; omega
    go_wp2_with fail
    refine (bytes_any g n cap a M _ hc6 hab (by omega)).mono ?_
    rintro e w7 ⟨s, hs, rfl, hg7, hc7⟩
    go_wp2
    go_ret3
    exact ⟨x, y, s, by omega, rfl, below_g hb1 hg (grownBy_trans hg15 (grownBy_trans hg6 hg7))⟩

theorem Row.grown {w w' : World} {g r : Nat} {t : TypeId} {cs : Array Value} (h : Row w g t cs) (hg : w.grownBy w' (some r)) (hr : g ≠ r) : Row w' g t cs := by
  unfold Row
  rw [hg.block g h.lt (by simp; omega)]
  exact h

set_option maxHeartbeats 1000000 in
theorem drawMix_any (a : Option Addr) (n cap : Nat) (w : World) (hc : CodeAt w a n) :
    Calls Try.prog 14 #[.slice a n cap] w fun e w' => ∃ v : V4, e = .returned (.agg #[.int .u64 (U v.a), .int .u64 (U v.b), .int .u64 (U v.c), .int .u64 (U v.d)]) ∧ Below w.heap.size w w' := by
  obtain ⟨B, HB⟩ : ∃ B, Hid (B = w.heap.size) := ⟨_, rfl⟩
  obtain ⟨w0, HW0⟩ : ∃ x, Hid (x = w.alloc (.cells #[.int .u64 0, .int .u64 0, .int .u64 0, .int .u64 0] 27)) := ⟨_, rfl⟩
  have r0 : Row w0 B 27 #[.int .u64 0, .int .u64 0, .int .u64 0, .int .u64 0] := by rw [HW0.out, HB.out]; exact Row.new w _ _
  have hb0 : Below w.heap.size w w0 := by rw [HW0.out]; exact (Below.refl _ _).alloc (Nat.le_refl _) _
  have hc0 := hc.below hb0
  clear hc
  go_enter Try.func14, Try.ntmps14
  go_wp2_with fail
  rw [← HW0.out, ← HB.out]
  refine (new_any a n cap _ hc0.1 hc0.bytes).mono ?_
  rintro e w1 ⟨g, rfl, hg, hb1, hc1⟩
  have hBg : B < g := by have := r0.lt; omega
  have r1 := r0.below hb1 r0.lt
  clear hc0
  go_wp2_with fail
  refine (longDraw_any g n cap a _ hc1).mono ?_
  rintro e w2 ⟨x1, rfl, hg2, hc2⟩
  go_wp2_with fail
  refine (longDraw_any g n cap a _ hc2).mono ?_
  rintro e w3 ⟨x2, rfl, hg3, hc3⟩
  go_wp2_with fail
  refine (longDraw_any g n cap a _ hc3).mono ?_
  rintro e w4 ⟨x3, rfl, hg4, hc4⟩
  go_wp2_with fail
  refine (longDraw_any g n cap a _ hc4).mono ?_
  rintro e w5 ⟨x4, rfl, hg5, hc5⟩
  have hg15 := grownBy_trans hg2 (grownBy_trans hg3 (grownBy_trans hg4 hg5))
  have K5 : Hid (Row w5 B 27 #[.int .u64 0, .int .u64 0, .int .u64 0, .int .u64 0]) := r1.grown hg15 (by omega)
  have B5 : Hid (Below w.heap.size w w5) := hb0.trans (below_g hb1 hg hg15 |>.mono (by have := hb0.size; omega))
  have ZR : Hid (Row ((((w5.setCell ⟨B, 0, none⟩ (.int .u64 (U x1))).setCell ⟨B, 1, none⟩ (.int .u64 (U x2))).setCell ⟨B, 2, none⟩ (.int .u64 (U x3))).setCell ⟨B, 3, none⟩ (.int .u64 (U x4))) B 27 #[.int .u64 (U x1), .int .u64 (U x2), .int .u64 (U x3), .int .u64 (U x4)]) := (((K5.out.set 0 _).set 1 _).set 2 _).set 3 _
  clear hc1 hc2 hc3 hc4 hc5 hg2 hg3 hg4 hg5 hg15 r0 r1 hb0 hb1
  have q0 := K5.out.cell 0
  have q1 := K5.out.cell 1
  have q2 := K5.out.cell 2
  have q3 := K5.out.cell 3
  have f0 := K5.out.free 0
  have f1 := K5.out.free 1
  have f2 := K5.out.free 2
  have f3 := K5.out.free 3
  simp at q0 q1 q2 q3
  go_wp2
  clear q0 q1 q2 q3 f0 f1 f2 f3
  refine bodyPost_ret (v := .agg #[.int .u64 (U x1), .int .u64 (U x2), .int .u64 (U x3), .int .u64 (U x4)]) (results_cell_row Try.results14 _ _ B 27 _ (0, 0) _ (by simp) ZR.out Try.underlying27 (by rfl) Try.info4) rfl ⟨⟨x1, x2, x3, x4⟩, rfl, ?_⟩
  have hB : w.heap.size ≤ B := by rw [HB.out]; exact Nat.le_refl _
  exact Below.setCell (Below.setCell (Below.setCell (Below.setCell B5.out hB _) hB _) hB _) hB _

set_option maxHeartbeats 400000 in
theorem pickS_any (g n cap : Nat) (a : Option Addr) (lb off m lc : Nat) (w : World) (hc : Cur w g a n cap) (hm : 0 < m) (hm2 : m ≤ 256) (hl : lb ≠ g)
    (hcell : ∀ i, i < m → ∃ t : ByteArray, t.size = 1 ∧ w.cell? ⟨lb, off + i, none⟩ = some (.string t)) :
    Calls Try.prog 50 #[.pointer (some ⟨g, 0, none⟩), .slice (some ⟨lb, off, none⟩) m lc] w fun e w' => ∃ t : ByteArray, t.size = 1 ∧ e = .returned (.string t) ∧ w.grownBy w' (some g) ∧ Cur w' g a n cap := by
  go_enter Try.func50, Try.ntmps50
  go_wp2_with fail
  refine (belowN_any g n cap a _ _ hc).mono ?_
  rintro e w1 ⟨x, x0, x1, _, rfl, hg, hc1⟩
  have x2 := x1 (by omega)
  obtain ⟨k, rfl⟩ := Int.eq_ofNat_of_zero_le x0
  obtain ⟨t, ht, hz⟩ := hcell k (by omega)
  have hz1 := hg.cell hz (by simpa using hl)
  clear hcell hz x1
  go_wp2
  go_ret
  exact ⟨t, ht, rfl, hg, hc1⟩

set_option maxHeartbeats 2000000 in
theorem drawHexBytes_any (a : Option Addr) (n cap : Nat) (w : World) (hc : CodeAt w a n) :
    Calls Try.prog 25 #[.slice a n cap] w fun e w' => ∃ s : ByteArray, s.size ≤ 100 ∧ e = .returned (.string s) ∧ Below w.heap.size w w' := by
  go_enter Try.func25, Try.ntmps25
  go_wp2_with fail
  refine (new_any a n cap _ hc.1 hc.bytes).mono ?_
  rintro e w1 ⟨g, rfl, hg, hb1, hc1⟩
  have hab := hc.under hg
  clear hc
  go_wp2_with fail
  refine (belowN_any g n cap a _ _ hc1).mono ?_
  rintro e w2 ⟨x, x0, x1, _, rfl, hg2, hc2⟩
  have x2 := x1 (by omega)
  clear x1
  obtain ⟨m, rfl⟩ := Int.eq_ofNat_of_zero_le x0
  go_wp2_with fail
  refine (bytes_any g n cap a m _ hc2 hab (by omega)).mono ?_
  rintro e w3 ⟨s, hs, rfl, hg3, hc3⟩
  go_wp2_with fail
  refine (sHexText_any s _ (by omega)).mono ?_
  rintro e w4 ⟨rfl, hb4⟩
  have hu : (hexT s).size = 2 * m := by unfold hexT; rw [strOfNums_size, hxL_len, hs]
  have hg4 := grownBy_below (g := g) hb4
  have hc4 : Cur w4 g a n cap := hc3.far (r := w3.heap.size) (grownBy_below hb4) hc3.lt hab
  generalize hexT s = u at hu ⊢
  go_wp2_with fail
  refine (belowN_any g n cap a _ _ hc4).mono ?_
  rintro e w5 ⟨y, y0, y1, _, rfl, hg5, hc5⟩
  have y2 := y1 (by omega)
  clear y1
  obtain ⟨i, rfl⟩ := Int.eq_ofNat_of_zero_le y0
  have hiu : i ≤ u.size := by omega
  go_wp2_with fail
  refine (belowN_any g n cap a _ _ hc5).mono ?_
  rintro e w6 ⟨q, q0, _, _, rfl, hg6, hc6⟩
  have hg16 := grownBy_trans hg2 (grownBy_trans hg3 (grownBy_trans hg4 (grownBy_trans hg5 hg6)))
  have hlt := hc6.lt
  clear hc1 hc2 hc3 hc4 hc5 hg2 hg3 hg4 hg5 hg6 hb4
  by_cases e0 : q = 0
  · subst e0
    go_wp2
    go_ret
    exact ⟨_, by simp [ByteArray.size_extract]; omega, rfl, below_g hb1 hg hg16⟩
  · have b0 : (q == 0) = false := by simpa using e0
    by_cases e1 : q = 1
    · subst e1
      have KC : Hid (Cur (w6.drew.alloc (.cells #[.string ⟨#[65]⟩, .string ⟨#[103]⟩, .string ⟨#[48]⟩, .string ⟨#[32]⟩] 9)) g a n cap) := Cur.alloc (show Cur w6.drew g a n cap from hc6) _
      have KL : Hid (∀ i, i < 4 → ∃ t : ByteArray, t.size = 1 ∧ (w6.drew.alloc (.cells #[.string ⟨#[65]⟩, .string ⟨#[103]⟩, .string ⟨#[48]⟩, .string ⟨#[32]⟩] 9)).cell? ⟨w6.heap.size, 0 + i, none⟩ = some (.string t)) := by
        intro i hi
        have hr := (Row.new w6.drew #[.string ⟨#[65]⟩, .string ⟨#[103]⟩, .string ⟨#[48]⟩, .string ⟨#[32]⟩] 9).cell i
        rw [Nat.zero_add]
        match i, hi with
        | 0, _ => exact ⟨_, rfl, hr⟩
        | 1, _ => exact ⟨_, rfl, hr⟩
        | 2, _ => exact ⟨_, rfl, hr⟩
        | 3, _ => exact ⟨_, rfl, hr⟩
      have KG : Hid (w1.grownBy (w6.drew.alloc (.cells #[.string ⟨#[65]⟩, .string ⟨#[103]⟩, .string ⟨#[48]⟩, .string ⟨#[32]⟩] 9)) (some g)) := grownBy_trans hg16 ⟨rfl, rfl, rfl, by simp, fun j hj _ => Below.heap_alloc w6.drew _ j hj⟩
      clear hc6 hg16
      have i1 : (i : Int) ≤ 2 * (m : Int) := by omega
      have i2 : (0 : Int) ≤ (i : Int) := by omega
      have i3 : i ≤ 2 * m := by omega
      have k1 : (9223372036854775807 < i + 1) = False := by simp; omega
      have k2 : (9223372036854775807 < i + 1 + (2 * m - i)) = False := by simp; omega
      have k3 : (9223372036854775806 < i) = False := by simp; omega
      have s1 : (u.extract 0 i).size = i := by simp [ByteArray.size_extract]; omega
      have s2 : (u.extract i (2 * m)).size = 2 * m - i := by simp [ByteArray.size_extract]; omega
      go_wp2_with fail
      go_region_held3 (fun _ => True) (trivial) ((go_at_call 50; refine Calls.mono (pickS_any g n cap a w6.heap.size 0 4 4 _ KC.out (by omega) (by omega) (by omega) KL.out) ?_; rintro e w7 ⟨t, ht, rfl, hg7, hc7⟩; have s3 : (u.extract 0 i ++ t).size = i + 1 := (by rw [ByteArray.size_append, s1, ht]); have KG7 : Hid (w1.grownBy w7 (some g)) := grownBy_trans KG.out hg7; clear hg7 hc7))
      all_goals
        go_wp2
        go_ret
        exact ⟨_, by rw [ByteArray.size_append, s3, s2]; omega, rfl, below_g hb1 hg KG7.out⟩
    · have b1 : (q == 1) = false := by simpa using e1
      go_wp2
      go_ret
      exact ⟨u, by omega, rfl, below_g hb1 hg hg16⟩
end Go.Proofs.Ytlcaofbangbjlaa
