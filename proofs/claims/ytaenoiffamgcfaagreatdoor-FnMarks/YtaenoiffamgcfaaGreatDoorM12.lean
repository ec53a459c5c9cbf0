import Derived.Test.YtaenoiffamgcfaaGreatDoorM7
import Derived.Test.YtaenoiffamgcfaaGreatDoorM9
set_option maxHeartbeats 8000000
set_option maxRecDepth 2000
open Go.ChangeShapes Go.WideShapes Go.ChangeAt Go.RowKit
namespace Go.Proofs.YtaenoiffamgcfaaGreatDoor
open Gs (U rolI V4 mx inn key all4 fin)
theorem end_any (g L n : Nat) (v : V4) (w : World) (h : Row w g 126 (H6 L n v)) (hn : n ≤ 4194304) (hL : L < 18446744073709551616) :
  Calls Tryz.prog 91 #[.pointer (some ⟨g, 0, none⟩)] w fun e w' => e = .returned (.int .u64 (U (all4 (fin (inn v (BitVec.ofNat 64 L ||| (BitVec.ofNat 64 n <<< 56))))))) ∧ Below g w w' := by
 have hxor := Gs.U_xor
 have h255 : ∀ x : BitVec 64, bits .xor .u64 (U x) 255 = U (x ^^^ 255#64) := fun x => Gs.U_xor x 255#64
 have K0 : Hid (Row w g 126 (H6 L n v)) := h
 clear h
 go_enter Tryz.func91, Tryz.ntmps91
 go_wp2_with fail
 refine Calls.mono (last_any g L n v w K0.out hn hL) ?_
 rintro e w1 ⟨rfl, h1, hb1⟩
 have K1 : Hid (Row w1 g 126 (H6 L n v)) := h1
 clear h1
 go_wp2_with fail
 refine Calls.mono (add_any g L n v _ w1 K1.out) ?_
 rintro e w2 ⟨rfl, h2, hb2⟩
 obtain ⟨a, b, c, d, HU⟩ : ∃ a b c d, Hid (inn v (BitVec.ofNat 64 L ||| (BitVec.ofNat 64 n <<< 56)) = ⟨a, b, c, d⟩) := ⟨_, _, _, _, rfl⟩
 rw [HU.out] at h2
 have K2 : Hid (Row w2 g 126 (H6 L n ⟨a, b, c, d⟩)) := h2
 have B2 : Hid (Below g w w2) := hb1.trans hb2
 clear h2 hb1 hb2
 have c4 := K2.out.cell 4
 have f4 := K2.out.free 4
 simp at c4
 go_wp2_with fail
 go_still_tail 9, Tryz.mixed
 rw [fold_drew]
 obtain ⟨w3, HW3⟩ : ∃ x, Hid (x = w2.drew) := ⟨_, rfl⟩
 rw [← HW3.out]
 have K3 : Hid (Row w3 g 126 (H6 L n ⟨a, b, c, d⟩)) := by show Row _ _ _ _; rw [HW3.out]; exact K2.out.drew
 have B3 : Hid (Below g w w3) := by show Below _ _ _; rw [HW3.out]; exact B2.out.drew
 clear c4 f4
 have c4 := K3.out.cell 4
 have f4 := K3.out.free 4
 simp at c4
 obtain ⟨w4, HW4⟩ : ∃ w4, Hid (w4 = w3.setCell ⟨g, 4, none⟩ (.int .u64 (U (c ^^^ 255#64)))) := ⟨_, rfl⟩
 have K4 : Hid (Row w4 g 126 (H6 L n ⟨a, b, c ^^^ 255#64, d⟩)) := by show Row _ _ _ _; rw [HW4.out]; exact K3.out.set 4 _
 have B4 : Hid (Below g w w4) := by show Below _ _ _; rw [HW4.out]; exact Below.setCell B3.out (by simp) _
 go_wp2_with fail
 rw [← HW4.out]
 clear c4 f4
 refine Calls.mono (mixes_any g L n 4 ⟨a, b, c ^^^ 255#64, d⟩ w4 K4.out (by omega)) ?_
 rintro e w5 ⟨rfl, h5, hb5⟩
 have HF : Hid (fin ⟨a, b, c, d⟩ = mxs ⟨a, b, c ^^^ 255#64, d⟩ 4) := rfl
 generalize mxs ⟨a, b, c ^^^ 255#64, d⟩ 4 = m at h5 HF
 obtain ⟨p, q, s, t⟩ := m
 have K5 : Hid (Row w5 g 126 (H6 L n ⟨p, q, s, t⟩)) := h5
 have B5 : Hid (Below g w w5) := B4.out.trans hb5
 clear h5 hb5
 have c2 := K5.out.cell 2
 have c3 := K5.out.cell 3
 have c4 := K5.out.cell 4
 have c5 := K5.out.cell 5
 simp at c2 c3 c4 c5
 go_wp2_with fail
 go_quiet (fail)
 go_wp2
 go_ret
 exact ⟨by rw [HU.out, HF.out]; rfl, belowDrewN B5.out _⟩
theorem sip_wide (a b : BitVec 64) (s : ByteArray) (w : World) (hs : s.size ≤ 4194304) :
  Calls Tryz.prog 58 #[.int .u64 (U a), .int .u64 (U b), .string s] w fun e w' => e = .returned (.int .u64 (U (Gs.sip (tat s) a b s.size))) ∧ Below w.heap.size w w' := by
 obtain ⟨n, hn⟩ : ∃ n, s.size = n := ⟨_, rfl⟩
 obtain ⟨g, HG⟩ : ∃ g, Hid (g = w.heap.size) := ⟨_, rfl⟩
 obtain ⟨w1, HW1⟩ : ∃ x, Hid (x = w.alloc (.cells (H6 0 0 (key a b)) 126)) := ⟨_, rfl⟩
 have h1 : Row w1 g 126 (H6 0 0 (key a b)) := by rw [HW1.out, HG.out]; exact Row.new w _ _
 have b1 : Below g w w1 := by rw [HW1.out, HG.out]; exact (Below.refl _ _).alloc (Nat.le_refl _) _
 go_enter Tryz.func58, Tryz.ntmps58
 go_wp2_with fail
 refine (keyed_any a b w).mono ?_
 rintro e w' ⟨rfl, hw⟩
 rw [← HW1.out] at hw
 obtain rfl := hw.symm
 rw [← HG.out]
 go_wp2
 go_loopw [14] (fun i wr => ∃ k : Nat, k ≤ n ∧ i = .int .i64 k ∧ Row wr g 126 (H6 (Gs.le (tat s) (8 * (k / 8)) (k % 8)) k (Gs.blk (tat s) (key a b) (k / 8))) ∧ Below g w wr) (fun i _ => n - (intOf i).toNat)
 case atStart => exact ⟨0, Nat.zero_le _, rfl, h1, b1⟩
 case round =>
  obtain ⟨k, hk, rfl, hrow, hb⟩ := hrel
  clear h1 b1
  by_cases hlt : k < n
  ·have hlti : (k : Int) < (n : Int) := by omega
   have hks : k < s.size := by omega
   have K : Hid _ := hrow
   clear hrow
   have HX : Hid (s[k].toNat = tat s k) := (tat_in s k hks).symm
   have hLk := Gs.le_lt64 (tat_lt s) (8 * (k / 8)) (k % 8) (by omega)
   have HO : Hid (Gs.le (tat s) (8 * (k / 8)) (k % 8) ||| s[k].toNat * 2 ^ (8 * (k % 8)) = Gs.le (tat s) (8 * (k / 8)) (k % 8 + 1)) := by
    show _ = _
    rw [HX.out, ← Gs.le_or (tat_lt s), show 8 * (k / 8) + k % 8 = k by omega]
   go_wp2_with fail
   go_still_tail 6, Tryz.mixed
   rw [fold_drew]
   obtain ⟨w2, HW2⟩ : ∃ x, Hid (x = wr.drew) := ⟨_, rfl⟩
   rw [← HW2.out]
   have K2 := Row.drew K.out
   rw [← HW2.out] at K2
   have B2 : Below g w w2 := by rw [HW2.out]; exact hb.drew
   have KP : Hid _ := put_any g _ k s[k].toNat _ w2 K2 (by omega) hLk (u8_lt _)
   clear K2 hLk
   by_cases h8 : (k + 1) % 8 = 0
   ·have e1 : (k + 1) / 8 = k / 8 + 1 := by omega
    have e2 : (k + 1) % 8 = 0 := h8
    have e3 : k % 8 + 1 = 8 := by omega
    have HR : Hid (H6 (Gs.le (tat s) (8 * ((k + 1) / 8)) ((k + 1) % 8)) (k + 1) (Gs.blk (tat s) (key a b) ((k + 1) / 8)) = H6 0 (k + 1) (inn (Gs.blk (tat s) (key a b) (k / 8)) (BitVec.ofNat 64 (Gs.le (tat s) (8 * (k / 8)) 8)))) := by show _ = _; rw [e1, e2]; rfl
    have hU := Gs.U_nat (Gs.le_lt64 (tat_lt s) (8 * (k / 8)) 8 (by omega))
    have KU : Hid _ := hU
    rw [HO.out, e3] at KP
    clear e1 e2 e3 HO hU
    go_wp2_with fail
    refine Calls.mono KP.out ?_
    rintro e w3 ⟨rfl, h3, hb3⟩
    have K3 : Hid _ := h3
    clear h3
    have hdec : decide ((k + 1) % 8 = 0) = true := by simpa using h8
    rw [hdec]
    go_wp2_with fail
    refine Calls.mono (take_any g _ _ _ w3 K3.out) ?_
    rintro e w4 ⟨rfl, h4, hb4⟩
    have K4 : Hid _ := h4
    clear h4
    go_wp2_with fail
    rw [KU.out]
    refine Calls.mono (add_any g _ _ _ _ w4 K4.out) ?_
    rintro e w5 ⟨rfl, h5, hb5⟩
    rw [← HR.out] at h5
    have K5 : Hid _ := h5
    have B5 : Hid (Below g w w5) := ((B2.trans hb3).trans hb4).trans hb5
    clear h5
    go_wp2
    go_roundw
    case rel => exact ⟨k + 1, by omega, by go_num, K5.out, B5.out⟩
    case measure => simp [intOf]; omega
   ·have e1 : (k + 1) / 8 = k / 8 := by omega
    have e2 : (k + 1) % 8 = k % 8 + 1 := by omega
    have HR : Hid (H6 (Gs.le (tat s) (8 * ((k + 1) / 8)) ((k + 1) % 8)) (k + 1) (Gs.blk (tat s) (key a b) ((k + 1) / 8)) = H6 (Gs.le (tat s) (8 * (k / 8)) (k % 8 + 1)) (k + 1) (Gs.blk (tat s) (key a b) (k / 8))) := by show _ = _; rw [e1, e2]
    rw [HO.out] at KP
    clear e1 e2 HO
    go_wp2_with fail
    refine Calls.mono KP.out ?_
    rintro e w3 ⟨rfl, h3, hb3⟩
    rw [← HR.out] at h3
    have K3 : Hid _ := h3
    clear h3
    have B3 : Hid (Below g w w3) := B2.trans hb3
    have hdec : decide ((k + 1) % 8 = 0) = false := by simpa using h8
    rw [hdec]
    go_wp2
    go_roundw
    case rel => exact ⟨k + 1, by omega, by go_num, K3.out, B3.out⟩
    case measure => simp [intOf]; omega
  ·obtain rfl : k = n := by omega
   have K : Hid _ := hrow
   clear hrow
   go_wp2_with fail
   have HE := end_any g _ _ _ wr K.out (by omega) (Gs.le_lt64 (tat_lt s) _ _ (by omega))
   rw [Gs.shl56 k] at HE
   refine Calls.mono HE ?_
   clear HE
   rintro e w2 ⟨rfl, hb2⟩
   go_wp2
   go_ret
   refine ⟨?_, ?_⟩
   ·rw [hn]; rfl
   ·rw [← HG.out]; exact hb.trans hb2
end Go.Proofs.YtaenoiffamgcfaaGreatDoor
