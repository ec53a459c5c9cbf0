/- The program's sum of a text with a key: what Sip answers. Condition: a text of at most 2^20 bytes. -/
import Derived.Test.YtcnigfejpfcfaaaJ2
import Derived.Test.YtcnigfejpfcfaaaJ1
namespace Go.Proofs.Ytcnigfejpfcfaaa
set_option maxRecDepth 2000
open Go.ChangeShapes Go.WideShapes Go.ChangeAt Go.RowKit
open Gs (U rolI V4 mx inn key all4 fin)

set_option maxHeartbeats 2000000 in
theorem end_any (g L n : Nat) (v : V4) (w : World) (h : Row w g 165 (H6 L n v)) (hn : n ≤ 4194304) (hL : L < 18446744073709551616) :
    Calls Try.prog 150 #[.pointer (some ⟨g, 0, none⟩)] w fun e w' => e = .returned (.int .u64 (U (all4 (fin (inn v (BitVec.ofNat 64 L ||| (BitVec.ofNat 64 n <<< 56))))))) ∧ Below g w w' := by
  have hxor := Gs.U_xor
  have h255 : ∀ x : BitVec 64, bits .xor .u64 (U x) 255 = U (x ^^^ 255#64) := fun x => Gs.U_xor x 255#64
  have K0 : Hid (Row w g 165 (H6 L n v)) := h
  clear h
  go_enter Try.func150, Try.ntmps150
  go_wp2_with fail
  refine Calls.mono (last_any g L n v w K0.out hn hL) ?_
  rintro e w1 ⟨rfl, h1, hb1⟩
  have K1 : Hid (Row w1 g 165 (H6 L n v)) := h1
  clear h1
  go_wp2_with fail
  refine Calls.mono (add_any g L n v _ w1 K1.out) ?_
  rintro e w2 ⟨rfl, h2, hb2⟩
  obtain ⟨a, b, c, d, HU⟩ : ∃ a b c d, Hid (inn v (BitVec.ofNat 64 L ||| (BitVec.ofNat 64 n <<< 56)) = ⟨a, b, c, d⟩) := ⟨_, _, _, _, rfl⟩
  rw [HU.out] at h2
  have K2 : Hid (Row w2 g 165 (H6 L n ⟨a, b, c, d⟩)) := h2
  have B2 : Hid (Below g w w2) := hb1.trans hb2
  clear h2 hb1 hb2
  have c4 := K2.out.cell 4
  have f4 := K2.out.free 4
  simp at c4
  go_wp2_with fail
  go_still_tail 9, Try.mixed
  rw [fold_drew]
  obtain ⟨w3, HW3⟩ : ∃ x, Hid (x = w2.drew) := ⟨_, rfl⟩
  rw [← HW3.out]
  have K3 : Hid (Row w3 g 165 (H6 L n ⟨a, b, c, d⟩)) := by show Row _ _ _ _; rw [HW3.out]; exact K2.out.drew
  have B3 : Hid (Below g w w3) := by show Below _ _ _; rw [HW3.out]; exact B2.out.drew
  clear c4 f4
  have c4 := K3.out.cell 4
  have f4 := K3.out.free 4
  simp at c4
  obtain ⟨w4, HW4⟩ : ∃ w4, Hid (w4 = w3.setCell ⟨g, 4, none⟩ (.int .u64 (U (c ^^^ 255#64)))) := ⟨_, rfl⟩
  have K4 : Hid (Row w4 g 165 (H6 L n ⟨a, b, c ^^^ 255#64, d⟩)) := by show Row _ _ _ _; rw [HW4.out]; exact K3.out.set 4 _
  have B4 : Hid (Below g w w4) := by show Below _ _ _; rw [HW4.out]; exact Below.setCell B3.out (by simp) _
  go_wp2_with fail
  rw [← HW4.out]
  clear c4 f4
  refine Calls.mono (mixes_any g L n 4 ⟨a, b, c ^^^ 255#64, d⟩ w4 K4.out (by omega)) ?_
  rintro e w5 ⟨rfl, h5, hb5⟩
  have HF : Hid (fin ⟨a, b, c, d⟩ = mxs ⟨a, b, c ^^^ 255#64, d⟩ 4) := rfl
  generalize mxs ⟨a, b, c ^^^ 255#64, d⟩ 4 = m at h5 HF
  obtain ⟨p, q, s, t⟩ := m
  have K5 : Hid (Row w5 g 165 (H6 L n ⟨p, q, s, t⟩)) := h5
  have B5 : Hid (Below g w w5) := B4.out.trans hb5
  clear h5 hb5
  have c2 := K5.out.cell 2
  have c3 := K5.out.cell 3
  have c4 := K5.out.cell 4
  have c5 := K5.out.cell 5
  simp at c2 c3 c4 c5
  go_wp2_with fail
  go_quiet (fail)
  go_wp2
  go_ret
  exact ⟨by rw [HU.out, HF.out]; rfl, belowDrewN B5.out _⟩

set_option maxHeartbeats 2000000 in
theorem sip_wide (a b : BitVec 64) (s : ByteArray) (w : World) (hs : s.size ≤ 4194304) :
    Calls Try.prog 142 #[.int .u64 (U a), .int .u64 (U b), .string s] w fun e w' => e = .returned (.int .u64 (U (Gs.sip (tat s) a b s.size))) ∧ Below w.heap.size w w' := by
  obtain ⟨n, hn⟩ : ∃ n, s.size = n := ⟨_, rfl⟩
  obtain ⟨g, HG⟩ : ∃ g, Hid (g = w.heap.size) := ⟨_, rfl⟩
  obtain ⟨w1, HW1⟩ : ∃ x, Hid (x = w.alloc (.cells (H6 0 0 (key a b)) 165)) := ⟨_, rfl⟩
  have h1 : Row w1 g 165 (H6 0 0 (key a b)) := by rw [HW1.out, HG.out]; exact Row.new w _ _
  have b1 : Below g w w1 := by rw [HW1.out, HG.out]; exact (Below.refl _ _).alloc (Nat.le_refl _) _
  go_enter Try.func142, Try.ntmps142
  go_wp2_with fail
  refine (keyed_any a b w).mono ?_
  rintro e w' ⟨rfl, hw⟩
  rw [← HW1.out] at hw
  obtain rfl := hw.symm
  rw [← HG.out]
  go_wp2
  go_loopw [14] (fun i wr => ∃ k : Nat, k ≤ n ∧ i = .int .i64 k ∧ Row wr g 165 (H6 (Gs.le (tat s) (8 * (k / 8)) (k % 8)) k (Gs.blk (tat s) (key a b) (k / 8))) ∧ Below g w wr) (fun i _ => n - (intOf i).toNat)
  case atStart => exact ⟨0, Nat.zero_le _, rfl, h1, b1⟩
  case round =>
    obtain ⟨k, hk, rfl, hrow, hb⟩ := hrel
    clear h1 b1
    by_cases hlt : k < n
    · have hlti : (k : Int) < (n : Int) := by omega
      have hks : k < s.size := by omega
      have K : Hid _ := hrow
      clear hrow
      have HX : Hid (s[k].toNat = tat s k) := (tat_in s k hks).symm
      have hLk := Gs.le_lt64 (tat_lt s) (8 * (k / 8)) (k % 8) (by omega)
      have HO : Hid (Gs.le (tat s) (8 * (k / 8)) (k % 8) ||| s[k].toNat * 2 ^ (8 * (k % 8)) = Gs.le (tat s) (8 * (k / 8)) (k % 8 + 1)) := by
        show _ = _
        rw [HX.out, ← Gs.le_or (tat_lt s), show 8 * (k / 8) + k % 8 = k by omega]
      go_wp2_with fail
      go_still_tail 6, Try.mixed
      rw [fold_drew]
      obtain ⟨w2, HW2⟩ : ∃ x, Hid (x = wr.drew) := ⟨_, rfl⟩
      rw [← HW2.out]
      have K2 := Row.drew K.out
      rw [← HW2.out] at K2
      have B2 : Below g w w2 := by rw [HW2.out]; exact hb.drew
      have KP : Hid _ := put_any g _ k s[k].toNat _ w2 K2 (by omega) hLk (u8_lt _)
      clear K2 hLk
      by_cases h8 : (k + 1) % 8 = 0
      · have e1 : (k + 1) / 8 = k / 8 + 1 := by omega
        have e2 : (k + 1) % 8 = 0 := h8
        have e3 : k % 8 + 1 = 8 := by omega
        have HR : Hid (H6 (Gs.le (tat s) (8 * ((k + 1) / 8)) ((k + 1) % 8)) (k + 1) (Gs.blk (tat s) (key a b) ((k + 1) / 8)) = H6 0 (k + 1) (inn (Gs.blk (tat s) (key a b) (k / 8)) (BitVec.ofNat 64 (Gs.le (tat s) (8 * (k / 8)) 8)))) := by show _ = _; rw [e1, e2]; rfl
        have hU := Gs.U_nat (Gs.le_lt64 (tat_lt s) (8 * (k / 8)) 8 (by omega))
        have KU : Hid _ := hU
        rw [HO.out, e3] at KP
        clear e1 e2 e3 HO hU
        go_wp2_with fail
        refine Calls.mono KP.out ?_
        rintro e w3 ⟨rfl, h3, hb3⟩
        have K3 : Hid _ := h3
        clear h3
        have hdec : decide ((k + 1) % 8 = 0) = true := by simpa using h8
        rw [hdec]
        go_wp2_with fail
        refine Calls.mono (take_any g _ _ _ w3 K3.out) ?_
        rintro e w4 ⟨rfl, h4, hb4⟩
        have K4 : Hid _ := h4
        clear h4
        go_wp2_with fail
        rw [KU.out]
        refine Calls.mono (add_any g _ _ _ _ w4 K4.out) ?_
        rintro e w5 ⟨rfl, h5, hb5⟩
        rw [← HR.out] at h5
        have K5 : Hid _ := h5
        have B5 : Hid (Below g w w5) := ((B2.trans hb3).trans hb4).trans hb5
        clear h5
        go_wp2
        go_roundw
        case rel => exact ⟨k + 1, by omega, by go_num, K5.out, B5.out⟩
        case measure => simp [intOf]; omega
      · have e1 : (k + 1) / 8 = k / 8 := by omega
        have e2 : (k + 1) % 8 = k % 8 + 1 := by omega
        have HR : Hid (H6 (Gs.le (tat s) (8 * ((k + 1) / 8)) ((k + 1) % 8)) (k + 1) (Gs.blk (tat s) (key a b) ((k + 1) / 8)) = H6 (Gs.le (tat s) (8 * (k / 8)) (k % 8 + 1)) (k + 1) (Gs.blk (tat s) (key a b) (k / 8))) := by show _ = _; rw [e1, e2]
        rw [HO.out] at KP
        clear e1 e2 HO
        go_wp2_with fail
        refine Calls.mono KP.out ?_
        rintro e w3 ⟨rfl, h3, hb3⟩
        rw [← HR.out] at h3
        have K3 : Hid _ := h3
        clear h3
        have B3 : Hid (Below g w w3) := B2.trans hb3
        have hdec : decide ((k + 1) % 8 = 0) = false := by simpa using h8
        rw [hdec]
        go_wp2
        go_roundw
        case rel => exact ⟨k + 1, by omega, by go_num, K3.out, B3.out⟩
        case measure => simp [intOf]; omega
    · obtain rfl : k = n := by omega
      have K : Hid _ := hrow
      clear hrow
      go_wp2_with fail
      have HE := end_any g _ _ _ wr K.out (by omega) (Gs.le_lt64 (tat_lt s) _ _ (by omega))
      rw [Gs.shl56 k] at HE
      refine Calls.mono HE ?_
      clear HE
      rintro e w2 ⟨rfl, hb2⟩
      go_wp2
      go_ret
      refine ⟨?_, ?_⟩
      · rw [hn]; rfl
      · rw [← HG.out]; exact hb.trans hb2
theorem sip_any (a b : BitVec 64) (s : ByteArray) (w : World) (hs : s.size ≤ 1048576) :
    Calls Try.prog 142 #[.int .u64 (U a), .int .u64 (U b), .string s] w fun e w' => e = .returned (.int .u64 (U (Gs.sip (tat s) a b s.size))) ∧ Below w.heap.size w w' := sip_wide a b s w (by omega)
end Go.Proofs.Ytcnigfejpfcfaaa

/- The model's sum of a text with a key: what Sip answers there. Condition: a text of at most 2^20 bytes. -/
namespace Go.Proofs.Ytcnigfejpfcfaaa
set_option maxRecDepth 2000
open Go.ChangeShapes Go.WideShapes Go.ChangeAt Go.RowKit
open Gs (U rolI V4 mx inn key all4 fin)

set_option maxHeartbeats 1000000 in
theorem long_any (s : ByteArray) (w : World) (hs : s.size ≤ 8) :
    Calls Try.prog 144 #[.string s] w fun e w' => e = .returned (.int .u64 ((Gs.le (tat s) 0 s.size : Nat) : Int)) ∧ w' = w := by
  obtain ⟨n, hn⟩ : ∃ n, s.size = n := ⟨_, rfl⟩
  go_enter Try.func144, Try.ntmps144
  go_wp2
  go_loop [3, 4] (fun x i => ∃ j : Nat, j ≤ n ∧ i = .int .i64 ((n : Int) - 1 - j) ∧ x = .int .u64 ((Gs.le (tat s) (n - j) j : Nat) : Int)) (fun _ i => (intOf i + 1).toNat)
  case atStart => exact ⟨0, Nat.zero_le _, by simp, rfl⟩
  case round =>
    obtain ⟨j, hj, rfl, rfl⟩ := hrel
    by_cases hlt : j < n
    · obtain ⟨o, HO⟩ : ∃ o : Nat, Hid (n = o + j + 1) := ⟨n - j - 1, by show _ = _; omega⟩
      have eo : (n : Int) - 1 - (j : Int) = (o : Int) := by have := HO.out; omega
      have hos : o < s.size := by have := HO.out; omega
      have HX : Hid (s[o].toNat = tat s o) := (tat_in s o hos).symm
      have hl1 := Gs.le_lt64 (tat_lt s) o (j + 1) (by omega)
      have HF : Hid (Gs.le (tat s) o (j + 1) = Gs.le (tat s) (o + 1) j * 256 + s[o].toNat) := by show _ = _; rw [HX.out, Gs.le_first]
      rw [show n - j = o + 1 by have := HO.out; omega, eo]
      rw [HF.out] at hl1
      generalize Gs.le (tat s) (o + 1) j = X at hl1 HF ⊢
      have hnj : n - (j + 1) = o := by have := HO.out; omega
      have HN : Hid (n - (j + 1) = o) := hnj
      clear hnj
      go_wp2
      refine ⟨⟨j + 1, by omega, ?_, ?_⟩, ?_⟩
      · have := HO.out
        congr 1
        omega
      · rw [HN.out, HF.out]
        simp
      · simp [intOf]
    · obtain rfl : j = n := by omega
      go_wp2
      go_ret
      exact ⟨rfl, rfl⟩

set_option maxHeartbeats 1000000 in
theorem in_any (v : V4) (x : BitVec 64) (w : World) : Calls Try.prog 143 #[A4 v, .int .u64 (U x)] w fun e w' => e = .returned (A4 (inn v x)) ∧ Below w.heap.size w w' := by
  obtain ⟨a, b, c, d⟩ := v
  have hxor := Gs.U_xor
  obtain ⟨B, HB⟩ : ∃ B, Hid (B = w.heap.size) := ⟨_, rfl⟩
  obtain ⟨w1, HW1⟩ : ∃ w1, Hid (w1 = (w.alloc (.cells (C4 ⟨a, b, c, d ^^^ x⟩) 155)).alloc (.cells #[.int .u64 0, .int .u64 0, .int .u64 0, .int .u64 0] 155)) := ⟨_, rfl⟩
  have K1 : Hid (Own4 w w1 B ⟨a, b, c, d ^^^ x⟩) := by
    show Own4 _ _ _ _
    rw [HW1.out, HB.out]
    refine ⟨(Row.new w _ _).alloc _, ⟨⟨0, 0, 0, 0⟩, ?_⟩, ((Below.refl _ _).alloc (Nat.le_refl _) _).alloc (by simp) _⟩
    have := Row.new (w.alloc (.cells (C4 ⟨a, b, c, d ^^^ x⟩) 155)) #[.int .u64 0, .int .u64 0, .int .u64 0, .int .u64 0] 155
    rw [show (w.alloc (.cells (C4 ⟨a, b, c, d ^^^ x⟩) 155)).heap.size = w.heap.size + 1 by simp] at this
    exact this
  have hs1 : w1.heap.size = B + 2 := by rw [HW1.out, HB.out]; simp
  have R1 : Hid _ := K1.out.row
  go_enter Try.func143, Try.ntmps143
  go_wp2_with (rw [← HW1.out, ← HB.out]; refine wpList_load_row (by rfl) 155 _ (by rfl) B (by rfl) 155 _ (0, 0) _ R1.out Try.underlying155 (by rfl) Try.info4 ?_)
  refine (sMix_any _ _).mono ?_
  rintro e w2 ⟨rfl, hb2⟩
  go_wp2_with fail
  refine (sMix_any _ _).mono ?_
  rintro e w3 ⟨rfl, hb3⟩
  have HI : Hid (inn ⟨a, b, c, d⟩ x = ⟨(mx (mx ⟨a, b, c, d ^^^ x⟩)).a ^^^ x, (mx (mx ⟨a, b, c, d ^^^ x⟩)).b, (mx (mx ⟨a, b, c, d ^^^ x⟩)).c, (mx (mx ⟨a, b, c, d ^^^ x⟩)).d⟩) := rfl
  generalize mx (mx ⟨a, b, c, d ^^^ x⟩) = m at HI ⊢
  obtain ⟨p, q, s, t⟩ := m
  have hb13 : Below w1.heap.size w1 w3 := below2 hb2 hb3
  obtain ⟨z, hz⟩ := K1.out.res
  have R3 : Hid (Row w3 B 155 (C4 ⟨a, b, c, d ^^^ x⟩)) := Row.below R1.out hb13 (by omega)
  have Z3 : Hid (Row w3 (B + 1) 155 (C4 z)) := hz.below hb13 (by omega)
  have B3 : Hid (Below B w w3) := K1.out.bel.trans (hb13.mono (by omega))
  clear hz hb13 hb2 hb3
  have c0 := R3.out.cell 0
  have c1 := R3.out.cell 1
  have c2 := R3.out.cell 2
  have c3 := R3.out.cell 3
  have f0 := R3.out.free 0
  have f1 := R3.out.free 1
  have f2 := R3.out.free 2
  have f3 := R3.out.free 3
  simp at c0 c1 c2 c3
  obtain ⟨w4, HW4⟩ : ∃ x', Hid (x' = ((((w3.setCell ⟨B, 0, none⟩ (.int .u64 (U p))).setCell ⟨B, 1, none⟩ (.int .u64 (U q))).setCell ⟨B, 2, none⟩ (.int .u64 (U s))).setCell ⟨B, 3, none⟩ (.int .u64 (U t))).setCell ⟨B, 0, none⟩ (.int .u64 (U (p ^^^ x)))) := ⟨_, rfl⟩
  have R4 : Hid (Row w4 B 155 (C4 ⟨p ^^^ x, q, s, t⟩)) := by
    show Row _ _ _ _
    rw [HW4.out]
    exact ((((R3.out.set 0 _).set 1 _).set 2 _).set 3 _).set 0 _
  have Z4 : Hid (Row w4 (B + 1) 155 (C4 z)) := by
    show Row _ _ _ _
    rw [HW4.out]
    exact ((((Z3.out.other 0 _ (by omega)).other 1 _ (by omega)).other 2 _ (by omega)).other 3 _ (by omega)).other 0 _ (by omega)
  have B4 : Hid (Below B w w4) := by
    show Below _ _ _
    rw [HW4.out]
    exact Below.setCell (Below.setCell (Below.setCell (Below.setCell (Below.setCell B3.out (by simp) _) (by simp) _) (by simp) _) (by simp) _) (by simp) _
  have ZR : Hid (Row ((((w4.setCell ⟨B + 1, 0, none⟩ (.int .u64 (U (p ^^^ x)))).setCell ⟨B + 1, 1, none⟩ (.int .u64 (U q))).setCell ⟨B + 1, 2, none⟩ (.int .u64 (U s))).setCell ⟨B + 1, 3, none⟩ (.int .u64 (U t))) (B + 1) 155 (C4 (inn ⟨a, b, c, d⟩ x))) := by
    show Row _ _ _ _
    rw [HI.out]
    exact (((Z4.out.set 0 _).set 1 _).set 2 _).set 3 _
  have q0 := Z4.out.cell 0
  have q1 := Z4.out.cell 1
  have q2 := Z4.out.cell 2
  have q3 := Z4.out.cell 3
  have g0 := Z4.out.free 0
  have g1 := Z4.out.free 1
  have g2 := Z4.out.free 2
  have g3 := Z4.out.free 3
  simp at q0 q1 q2 q3
  go_wp2_with (rw [← HW4.out]; refine wpList_load_row (by rfl) 155 _ (by rfl) B (by rfl) 155 _ (0, 0) _ R4.out Try.underlying155 (by rfl) Try.info4 ?_; clear c0 c1 c2 c3 f0 f1 f2 f3)
  clear q0 q1 q2 q3 g0 g1 g2 g3
  refine bodyPost_ret (v := A4 (inn ⟨a, b, c, d⟩ x)) (results_cell_row Try.results143 _ _ (B + 1) 155 _ (0, 0) _ (by simp) ZR.out Try.underlying155 (by rfl) Try.info4) rfl ⟨rfl, ?_⟩
  rw [← HB.out]
  exact Below.setCell (Below.setCell (Below.setCell (Below.setCell B4.out (by simp) _) (by simp) _) (by simp) _) (by simp) _

theorem tat_cut (u : ByteArray) (a b j : Nat) (hb : b ≤ u.size) (hj : a + j < b) : tat (u.extract a b) j = tat u (a + j) := by
  have hs : (u.extract a b).size = b - a := by simp [ByteArray.size_extract]; omega
  rw [tat_in _ j (by omega), tat_in _ (a + j) (by omega)]
  congr 1
  simp [ByteArray.getElem_extract]

def strLen : Value → Nat
  | .string s => s.size
  | _ => 0

set_option maxHeartbeats 2000000 in
theorem sSip_wide (a b : BitVec 64) (s : ByteArray) (w : World) (hs : s.size ≤ 4194304) :
    Calls Try.prog 137 #[.int .u64 (U a), .int .u64 (U b), .string s] w fun e w' => e = .returned (.int .u64 (U (Gs.sip (tat s) a b s.size))) ∧ Below w.heap.size w w' := by
  obtain ⟨n, hn⟩ : ∃ n, s.size = n := ⟨_, rfl⟩
  have hxor := Gs.U_xor
  have h255 : ∀ x : BitVec 64, bits .xor .u64 (U x) 255 = U (x ^^^ 255#64) := fun x => Gs.U_xor x 255#64
  have h1 : bits .xor .u64 (U a) 8317987319222330741 = U (a ^^^ 8317987319222330741#64) := Gs.U_xor a 8317987319222330741#64
  have h2 : bits .xor .u64 (U b) 7237128888997146477 = U (b ^^^ 7237128888997146477#64) := Gs.U_xor b 7237128888997146477#64
  have h3 : bits .xor .u64 (U a) 7816392313619706465 = U (a ^^^ 7816392313619706465#64) := Gs.U_xor a 7816392313619706465#64
  have h4 : bits .xor .u64 (U b) 8387220255154660723 = U (b ^^^ 8387220255154660723#64) := Gs.U_xor b 8387220255154660723#64
  obtain ⟨g, HG⟩ : ∃ g, Hid (g = w.heap.size) := ⟨_, rfl⟩
  obtain ⟨w1, HW1⟩ : ∃ x, Hid (x = w.alloc (.cells #[.int .u64 (U (a ^^^ 8317987319222330741#64)), .int .u64 (U (b ^^^ 7237128888997146477#64)), .int .u64 (U (a ^^^ 7816392313619706465#64)), .int .u64 (U (b ^^^ 8387220255154660723#64))] 155)) := ⟨_, rfl⟩
  have r1 : Row w1 g 155 (C4 (key a b)) := by rw [HW1.out, HG.out]; exact Row.new w _ _
  have b1 : Below g w w1 := by rw [HW1.out, HG.out]; exact (Below.refl _ _).alloc (Nat.le_refl _) _
  have hsz : IntKind.u64.wrap ((n : Int) % 256) = ((n % 256 : Nat) : Int) := by rw [IntKind.wrap_u64]; omega
  go_enter Try.func137, Try.ntmps137
  go_wp2
  rw [← HW1.out, ← HG.out]
  clear h1 h2 h3 h4
  go_loopw [2] (fun sv wr => ∃ (q : Nat) (u : ByteArray), sv = .string u ∧ u.size + 8 * q = n ∧ (∀ j, j < u.size → tat u j = tat s (8 * q + j)) ∧ Row wr g 155 (C4 (Gs.blk (tat s) (key a b) q)) ∧ Below g w wr) (fun sv _ => strLen sv)
  case atStart => exact ⟨0, s, rfl, by omega, fun j _ => by rw [Nat.mul_zero, Nat.zero_add], r1, b1⟩
  case round =>
    obtain ⟨q, u, rfl, hu, hT, hrow, hb⟩ := hrel
    clear r1 b1
    obtain ⟨p0, p1, p2, p3, HV⟩ : ∃ a' b' c' d', Hid (Gs.blk (tat s) (key a b) q = ⟨a', b', c', d'⟩) := ⟨_, _, _, _, rfl⟩
    rw [HV.out] at hrow
    have KT : Hid (∀ j, j < u.size → tat u j = tat s (8 * q + j)) := hT
    have K : Hid (Row wr g 155 (C4 ⟨p0, p1, p2, p3⟩)) := hrow
    clear hT hrow
    have c0 := K.out.cell 0
    have c1 := K.out.cell 1
    have c2 := K.out.cell 2
    have c3 := K.out.cell 3
    simp at c0 c1 c2 c3
    by_cases h8 : 8 ≤ u.size
    · have h8i : (8 : Int) ≤ (u.size : Int) := by omega
      have hz8 : (u.extract 0 8).size = 8 := by simp [ByteArray.size_extract]; omega
      have HL : Hid (Gs.le (tat (u.extract 0 8)) 0 (u.extract 0 8).size = Gs.le (tat s) (8 * q) 8) := by
        show _ = _
        rw [hz8]
        refine Gs.le_congr 8 (fun j hj => ?_)
        rw [Nat.zero_add, tat_cut u 0 8 j h8 (by omega), Nat.zero_add, KT.out j (by omega)]
      have KL : Hid _ := fun w0 => long_any (u.extract 0 8) w0 (by omega)
      rw [HL.out] at KL
      clear hz8
      go_wp2_with fail
      go_still_tail 4, Try.mixed
      still_call (KL.out _)
      refine wpStill_nil ?_
      rw [fold_drew]
      obtain ⟨w2, HW2⟩ : ∃ x, Hid (x = wr.drew) := ⟨_, rfl⟩
      rw [← HW2.out]
      have K2 : Hid (Row w2 g 155 (C4 ⟨p0, p1, p2, p3⟩)) := by show Row _ _ _ _; rw [HW2.out]; exact K.out.drew
      have B2 : Hid (Below g w w2) := by show Below _ _ _; rw [HW2.out]; exact hb.drew
      clear c0 c1 c2 c3
      have KU : Hid _ := Gs.U_nat (Gs.le_lt64 (tat_lt s) (8 * q) 8 (by omega))
      go_wp2_with fail
      rw [KU.out]
      refine (in_any ⟨p0, p1, p2, p3⟩ _ _).mono ?_
      rintro e w3 ⟨rfl, hb3⟩
      have HS : Hid (Gs.blk (tat s) (key a b) (q + 1) = inn ⟨p0, p1, p2, p3⟩ (BitVec.ofNat 64 (Gs.le (tat s) (8 * q) 8))) := by show _ = _; rw [Gs.blk, HV.out]
      generalize inn ⟨p0, p1, p2, p3⟩ (BitVec.ofNat 64 (Gs.le (tat s) (8 * q) 8)) = m at HS ⊢
      obtain ⟨m0, m1, m2, m3⟩ := m
      have hgl := K2.out.lt
      have K3 : Hid (Row w3 g 155 (C4 ⟨p0, p1, p2, p3⟩)) := K2.out.below hb3 hgl
      have B3 : Hid (Below g w w3) := B2.out.trans (hb3.mono (by omega))
      have c0 := K3.out.cell 0
      have c1 := K3.out.cell 1
      have c2 := K3.out.cell 2
      have c3 := K3.out.cell 3
      have f0 := K3.out.free 0
      have f1 := K3.out.free 1
      have f2 := K3.out.free 2
      have f3 := K3.out.free 3
      simp at c0 c1 c2 c3
      have KN : Hid (Row ((((w3.setCell ⟨g, 0, none⟩ (.int .u64 (U m0))).setCell ⟨g, 1, none⟩ (.int .u64 (U m1))).setCell ⟨g, 2, none⟩ (.int .u64 (U m2))).setCell ⟨g, 3, none⟩ (.int .u64 (U m3))) g 155 (C4 (Gs.blk (tat s) (key a b) (q + 1)))) := by
        show Row _ _ _ _
        rw [HS.out]
        exact (((K3.out.set 0 _).set 1 _).set 2 _).set 3 _
      have BN : Hid (Below g w ((((w3.setCell ⟨g, 0, none⟩ (.int .u64 (U m0))).setCell ⟨g, 1, none⟩ (.int .u64 (U m1))).setCell ⟨g, 2, none⟩ (.int .u64 (U m2))).setCell ⟨g, 3, none⟩ (.int .u64 (U m3)))) := Below.setCell (Below.setCell (Below.setCell (Below.setCell B3.out (by simp) _) (by simp) _) (by simp) _) (by simp) _
      have hz : (u.extract 8 u.size).size = u.size - 8 := by simp [ByteArray.size_extract]
      have HZ : Hid ((u.extract 8 u.size).size = u.size - 8) := hz
      have HT : Hid (∀ j, j < (u.extract 8 u.size).size → tat (u.extract 8 u.size) j = tat s (8 * (q + 1) + j)) := by
        intro j hj
        rw [hz] at hj
        rw [tat_cut u 8 u.size j (Nat.le_refl _) (by omega), KT.out (8 + j) (by omega)]
        congr 1
        omega
      clear hz
      go_wp2
      go_roundw
      case rel => exact ⟨q + 1, _, rfl, by have := HZ.out; omega, HT.out, KN.out, BN.out⟩
      case measure => have := HZ.out; simp only [strLen]; omega
    · have h8i : ¬ (8 : Int) ≤ (u.size : Int) := by omega
      have eq8 : n / 8 = q := by omega
      have em8 : n % 8 = u.size := by omega
      have HL : Hid (Gs.le (tat u) 0 u.size = Gs.le (tat s) (8 * (n / 8)) (n % 8)) := by
        show _ = _
        rw [eq8, em8]
        refine Gs.le_congr u.size (fun j hj => ?_)
        rw [Nat.zero_add, KT.out j hj]
      have KL : Hid _ := fun w0 => long_any u w0 (by omega)
      rw [HL.out] at KL
      have hLl := Gs.le_lt64 (tat_lt s) (8 * (n / 8)) (n % 8) (by omega)
      have hor : bits .or .u64 ((Gs.le (tat s) (8 * (n / 8)) (n % 8) : Nat) : Int) (IntKind.u64.wrap ((n : Int) % 256 * 72057594037927936)) = U (Gs.lst (tat s) n) := by
        rw [show (n : Int) % 256 = ((n % 256 : Nat) : Int) by omega, Gs.U_nat (n := n % 256) (by omega), show (72057594037927936 : Int) = 2 ^ 56 by decide, Gs.U_shl, Gs.U_nat hLl, Gs.U_or]
        rfl
      have HV2 : Hid (Gs.sip (tat s) a b s.size = all4 (fin (inn ⟨p0, p1, p2, p3⟩ (Gs.lst (tat s) n)))) := by
        show _ = _
        rw [← HV.out, hn, ← eq8]
        rfl
      clear hLl eq8 em8
      generalize Gs.le (tat s) (8 * (n / 8)) (n % 8) = X at KL hor
      generalize Gs.lst (tat s) n = Y at hor HV2
      go_wp2_with fail
      go_still_tail 6, Try.mixed
      still_call (KL.out _)
      repeat still_step
      refine wpStill_nil ?_
      rw [fold_drew]
      obtain ⟨w2, HW2⟩ : ∃ x, Hid (x = wr.drew) := ⟨_, rfl⟩
      rw [← HW2.out]
      have K2 : Hid (Row w2 g 155 (C4 ⟨p0, p1, p2, p3⟩)) := by show Row _ _ _ _; rw [HW2.out]; exact K.out.drew
      have B2 : Hid (Below g w w2) := by show Below _ _ _; rw [HW2.out]; exact hb.drew
      clear c0 c1 c2 c3
      go_wp2_with fail
      refine (in_any ⟨p0, p1, p2, p3⟩ Y _).mono ?_
      rintro e w3 ⟨rfl, hb3⟩
      generalize inn ⟨p0, p1, p2, p3⟩ Y = m at HV2 ⊢
      obtain ⟨m0, m1, m2, m3⟩ := m
      have hgl := K2.out.lt
      have K3 : Hid (Row w3 g 155 (C4 ⟨p0, p1, p2, p3⟩)) := K2.out.below hb3 hgl
      have B3 : Hid (Below g w w3) := B2.out.trans (hb3.mono (by omega))
      have c0 := K3.out.cell 0
      have c1 := K3.out.cell 1
      have c2 := K3.out.cell 2
      have c3 := K3.out.cell 3
      have f0 := K3.out.free 0
      have f1 := K3.out.free 1
      have f2 := K3.out.free 2
      have f3 := K3.out.free 3
      simp at c0 c1 c2 c3
      obtain ⟨w4, HW4⟩ : ∃ x, Hid (x = ((((w3.setCell ⟨g, 0, none⟩ (.int .u64 (U m0))).setCell ⟨g, 1, none⟩ (.int .u64 (U m1))).setCell ⟨g, 2, none⟩ (.int .u64 (U m2))).setCell ⟨g, 3, none⟩ (.int .u64 (U m3))).setCell ⟨g, 2, none⟩ (.int .u64 (U (m2 ^^^ 255#64)))) := ⟨_, rfl⟩
      have K4 : Hid (Row w4 g 155 (C4 ⟨m0, m1, m2 ^^^ 255#64, m3⟩)) := by
        show Row _ _ _ _
        rw [HW4.out]
        exact ((((K3.out.set 0 _).set 1 _).set 2 _).set 3 _).set 2 _
      have B4 : Hid (Below g w w4) := by
        show Below _ _ _
        rw [HW4.out]
        exact Below.setCell (Below.setCell (Below.setCell (Below.setCell (Below.setCell B3.out (by simp) _) (by simp) _) (by simp) _) (by simp) _) (by simp) _
      go_wp2_with (rw [← HW4.out]; refine wpList_load_row (by rfl) 155 _ (by rfl) g (by rfl) 155 _ (0, 0) _ K4.out Try.underlying155 (by rfl) Try.info4 ?_; clear c0 c1 c2 c3 f0 f1 f2 f3)
      refine (sMix_any _ _).mono ?_
      rintro e w5 ⟨rfl, hb5⟩
      go_wp2_with fail
      refine (sMix_any _ _).mono ?_
      rintro e w6 ⟨rfl, hb6⟩
      go_wp2_with fail
      refine (sMix_any _ _).mono ?_
      rintro e w7 ⟨rfl, hb7⟩
      go_wp2_with fail
      refine (sMix_any _ _).mono ?_
      rintro e w8 ⟨rfl, hb8⟩
      have hb48 : Below w4.heap.size w4 w8 := below2 (below2 hb5 hb6) (below2 hb7 hb8)
      have hgl4 := K4.out.lt
      have K8 : Hid (Row w8 g 155 (C4 ⟨m0, m1, m2 ^^^ 255#64, m3⟩)) := K4.out.below hb48 hgl4
      have B8 : Hid (Below g w w8) := B4.out.trans (hb48.mono (by omega))
      clear hb5 hb6 hb7 hb8 hb48 hb3
      have HF : Hid (Gs.sip (tat s) a b s.size = all4 (mx (mx (mx (mx ⟨m0, m1, m2 ^^^ 255#64, m3⟩))))) := HV2.out
      generalize mx (mx (mx (mx ⟨m0, m1, m2 ^^^ 255#64, m3⟩))) = f at HF ⊢
      obtain ⟨k0, k1, k2, k3⟩ := f
      have c0 := K8.out.cell 0
      have c1 := K8.out.cell 1
      have c2 := K8.out.cell 2
      have c3 := K8.out.cell 3
      have f0 := K8.out.free 0
      have f1 := K8.out.free 1
      have f2 := K8.out.free 2
      have f3 := K8.out.free 3
      simp at c0 c1 c2 c3
      go_wp2
      go_ret
      refine ⟨?_, ?_⟩
      · rw [← hn, HF.out]; rfl
      · rw [← HG.out]; exact Below.setCell (Below.setCell (Below.setCell (Below.setCell B8.out (by simp) _) (by simp) _) (by simp) _) (by simp) _
theorem sSip_any (a b : BitVec 64) (s : ByteArray) (w : World) (hs : s.size ≤ 1048576) :
    Calls Try.prog 137 #[.int .u64 (U a), .int .u64 (U b), .string s] w fun e w' => e = .returned (.int .u64 (U (Gs.sip (tat s) a b s.size))) ∧ Below w.heap.size w w' := sSip_wide a b s w (by omega)
end Go.Proofs.Ytcnigfejpfcfaaa

/- A long's eight bytes as a text, in the program and in its model: what each answers at every long. No condition. -/
namespace Go.Proofs.Ytcnigfejpfcfaaa
set_option maxRecDepth 2000
open Go.ChangeShapes Go.WideShapes Go.ChangeAt Go.RowKit
open Gs (U)

def lby (x : BitVec 64) (i : Nat) : Nat := x.toNat / 2 ^ (8 * (7 - i)) % 256
def lx (x : BitVec 64) : List Int := (List.range 8).map fun i => ((lby x i : Nat) : Int)
theorem lx_len (x : BitVec 64) : (lx x).length = 8 := by simp [lx]
theorem lx_at (x : BitVec 64) (k : Nat) (h : k < 8) : (lx x).getD k 0 = ((lby x k : Nat) : Int) := by
  simp [lx, List.getD, h]
theorem shr_by (x : BitVec 64) (j : Nat) : IntKind.u8.wrap (U x / 2 ^ j) = ((x.toNat / 2 ^ j % 256 : Nat) : Int) := by
  unfold U
  rw [IntKind.wrap_u8]
  rw [show ((x.toNat : Int) / 2 ^ j) = ((x.toNat / 2 ^ j : Nat) : Int) by simp]
  omega

set_option maxHeartbeats 1000000 in
theorem longText_any (x : BitVec 64) (w : World) :
    Calls Try.prog 141 #[.int .u64 (U x)] w fun e w' => e = .returned (.string (strOfNums (lx x))) ∧ Below w.heap.size w w' := by
  obtain ⟨i0, hi, hz0, hz1, hz2⟩ := info_parts Try.infoByte
  obtain ⟨xs, HX⟩ : ∃ xs, Hid (xs = lx x) := ⟨_, rfl⟩
  have HL : Hid (xs.length = 8) := by show _ = _; rw [HX.out, lx_len]
  go_enter Try.func141, Try.ntmps141
  go_wp2_with (at_make; refine wpList_make_full _ rfl _ _ 103 rfl w.heap.size 5 i0 (.int .u8 0) 1 Try.underlying103 hi hz0 hz1 .i64 .i64 _ _ 8 rfl rfl rfl rfl (by rw [hz2]; omega) (by unfold maxLen; omega) (Nat.le_refl _) ?_; intro w1 hown hgrow)
  have hb1 : Below w.heap.size w w1 := (Below.refl _ _).grown hgrow (Nat.le_refl _) (by simp)
  have ho1 : w1.ownsRow w.heap.size 5 1 (.slice (some ⟨w.heap.size, 0, none⟩) 8 8) 8 ((xs.take 0 ++ List.replicate (8 - 0) 0).map (Value.int .u8)) := by
    simpa [Value.cells, toList_madeCells_one] using hown
  clear hown hgrow
  go_loopw [8] (fun i wr => ∃ k : Nat, k ≤ 8 ∧ i = .int .i64 k ∧ wr.ownsRow w.heap.size 5 1 (.slice (some ⟨w.heap.size, 0, none⟩) 8 8) 8 ((xs.take k ++ List.replicate (8 - k) 0).map (Value.int .u8)) ∧ Below w.heap.size w wr) (fun i _ => 8 - (intOf i).toNat)
  case atStart => exact ⟨0, Nat.zero_le _, rfl, ho1, hb1⟩
  case round =>
    obtain ⟨k, hk, rfl, hown, hbel⟩ := hrel
    clear ho1 hb1
    by_cases hlt : k < 8
    · have HE : Hid (xs.getD k 0 = ((lby x k : Nat) : Int)) := by show _ = _; rw [HX.out, lx_at x k hlt]
      obtain ⟨old, hold⟩ : ∃ v, wr.cell? ⟨w.heap.size, k, none⟩ = some v := by
        rw [hown.cellAt k (by omega)]
        exact ⟨_, List.getElem?_eq_getElem (by rw [hown.1]; omega)⟩
      have hfr := hown.frozenAt k
      have hst := hown.stored k (.int .u8 (xs.getD k 0))
      rw [copied_set .u8 xs 8 k HL.out hlt, HE.out] at hst
      have hne : Below w.heap.size w (wr.setCell ⟨w.heap.size, k, none⟩ (.int .u8 ((lby x k : Nat) : Int))) := hbel.setCell (Nat.le_refl _) _
      have HO : Hid _ := hst.1
      clear hst hown
      have h7 : 8 * (7 - (k : Int)) = ((8 * (7 - k) : Nat) : Int) := by omega
      have hby : IntKind.u8.wrap (U x / 2 ^ (8 * (7 - k))) = ((lby x k : Nat) : Int) := shr_by x _
      generalize lby x k = y at hby HO hne
      go_wp2
      exact ⟨⟨k + 1, by omega, by go_num, HO.out, hne⟩, by simp [intOf]; omega⟩
    · have e : k = 8 := by omega
      subst e
      have e2 : xs.take 8 ++ List.replicate (8 - 8) 0 = xs := by rw [List.take_of_length_le (by rw [HL.out]; omega)]; simp
      rw [e2] at hown
      have hcv := run_convert_bytes_arg (P := Try.prog) wr 103 5 Try.underlying103 Try.underlying5 w.heap.size 0 8 8 xs HL.out (fun i hi => by
        rw [Nat.zero_add, hown.cellAt i (by omega)]
        simp [HL.out, hi]) 9 Try.underlying9
      go_wp2
      go_ret
      exact ⟨ret_str (by rw [HX.out]), hbel⟩

set_option maxHeartbeats 1000000 in
theorem sLongText_any (x : BitVec 64) (w : World) :
    Calls Try.prog 136 #[.int .u64 (U x)] w fun e w' => e = .returned (.string (strOfNums (lx x))) ∧ Below w.heap.size w w' := by
  obtain ⟨i0, hi, hz0, hz1, hz2⟩ := info_parts Try.infoByte
  obtain ⟨xs, HX⟩ : ∃ xs, Hid (xs = lx x) := ⟨_, rfl⟩
  have HL : Hid (xs.length = 8) := by show _ = _; rw [HX.out, lx_len]
  go_enter Try.func136, Try.ntmps136
  go_wp2
  have ho1 : (w.alloc (.cells #[] 5)).ownsRow w.heap.size 5 1 (.slice (some ⟨w.heap.size, 0, none⟩) 0 0) 0 ((xs.take 0).map (Value.int .u8)) :=
    World.ownsRow_lit w #[] 0 (Nat.le_refl _) (by unfold maxLen; omega) rfl
  go_loopw [3, 4] (fun v i wr => ∃ k : Nat, k ≤ 8 ∧ i = .int .i64 (56 - 8 * (k : Int)) ∧ wr.ownsRow w.heap.size 5 1 v k ((xs.take k).map (Value.int .u8)) ∧ Hid (v ≠ .slice none 0 0) ∧ Below w.heap.size w wr) (fun _ i _ => (intOf i + 8).toNat)
  case atStart => exact ⟨0, Nat.zero_le _, rfl, ho1, by simp [Hid], (Below.refl _ _).alloc (Nat.le_refl _) _⟩
  case round =>
    obtain ⟨k, hk, rfl, hown, HV, hbel⟩ := hrel
    clear ho1
    by_cases hlt : k < 8
    · have h7 : (56 : Int) - 8 * (k : Int) = ((8 * (7 - k) : Nat) : Int) := by omega
      have hby : IntKind.u8.wrap (U x / 2 ^ (8 * (7 - k))) = ((lby x k : Nat) : Int) := shr_by x _
      have HE : Hid (xs.take (k + 1) = xs.take k ++ [((lby x k : Nat) : Int)]) := by
        show _ = _
        rw [take_snoc xs k (by rw [HL.out]; exact hlt), HX.out, lx_at x k hlt]
      have HN : Hid ((56 : Int) - 8 * ((k + 1 : Nat) : Int) = ((8 * (7 - k) : Nat) : Int) - 8) := by show _ = _; omega
      generalize lby x k = y at hby HE
      obtain ⟨j, hj⟩ : ∃ j, 8 * (7 - k) = j := ⟨_, rfl⟩
      have hj64 : j ≤ 56 := by omega
      rw [h7]
      rw [hj] at hby HN ⊢
      clear h7 hj
      go_wp2_with (at_builtin; refine wpList_append_own _ rfl _ _ 103 rfl w.heap.size 5 i0 (.int .u8 0) 1 1 Try.underlying103 hi hz0 hz1 hz2 rfl (by decide) _ _ _ rfl (hown.alloc _) ⟨wr.heap.size, 0, none⟩ 1 1 [.int .u8 (y : Int)] rfl rfl ?c1 ?c2 ?c3 ?c4 ?c5 ?_)
      case c1 =>
        intro j' u hj'
        match j', hj' with
        | 0, hj' => simp at hj'; subst hj'; simp [Addr.add]
      case c2 => intro u hu; simp at hu; subst hu; rfl
      case c3 => unfold maxLen; omega
      case c4 => omega
      case c5 => have := hbel.size; simp; omega
      · intro v' w1 hown' hgrow hnil
        have HV' : Hid (v' ≠ .slice none 0 0) := hnil
        have HO : Hid (w1.ownsRow w.heap.size 5 1 v' (k + 1) ((xs.take (k + 1)).map (Value.int .u8))) := by
          rw [HE.out, List.map_append, List.map_take]
          exact hown'
        have hb' : Below w.heap.size w w1 := (hbel.alloc hbel.size _).grown hgrow (by have := hbel.size; simp; omega) (fun j hj => (hown.lt j hj).1)
        clear hown' hgrow hnil hown
        go_wp2
        go_roundw
        case rel => exact ⟨k + 1, by omega, by rw [HN.out], HO.out, HV'.out, hb'⟩
        case measure => simp [intOf] <;> omega
    · have e : k = 8 := by omega
      subst e
      rw [List.take_of_length_le (by rw [HL.out]; omega)] at hown
      obtain ⟨g, cap, rfl⟩ : ∃ g cap, u3 = .slice (some ⟨g, 0, none⟩) 8 cap := by
        rcases hown.2 with h | ⟨g, cap, cur, h, _⟩
        · exact absurd h.1 HV.out
        · exact ⟨g, cap, h⟩
      have hcv := run_convert_bytes_arg (P := Try.prog) wr 103 5 Try.underlying103 Try.underlying5 g 0 8 cap xs HL.out (fun i hi => by
        rw [Nat.zero_add, hown.cellAt i (by omega)]
        simp [HL.out, hi]) 9 Try.underlying9
      go_wp2
      go_ret
      exact ⟨ret_str (by rw [HX.out]), hbel⟩
end Go.Proofs.Ytcnigfejpfcfaaa

/- The sixteen bytes that stand for a text, in the program and in its model: what each answers. Condition: a text of at most 2^20 bytes. -/
namespace Go.Proofs.Ytcnigfejpfcfaaa
set_option maxRecDepth 2000
open Go.ChangeShapes Go.WideShapes Go.ChangeAt Go.RowKit
open Gs (U)

def sumS (s : ByteArray) : ByteArray := strOfNums (lx (Gs.sip (tat s) 1#64 2#64 s.size)) ++ strOfNums (lx (Gs.sip (tat s) 3#64 4#64 s.size))
theorem lxs_size (x : BitVec 64) : (strOfNums (lx x)).size = 8 := by rw [strOfNums_size, lx_len]
theorem sumS_size (s : ByteArray) : (sumS s).size = 16 := by
  unfold sumS
  rw [ByteArray.size_append, lxs_size, lxs_size]

set_option maxHeartbeats 1000000 in
theorem sum_wide (s : ByteArray) (w : World) (hs : s.size ≤ 4194304) :
    Calls Try.prog 132 #[.string s] w fun e w' => e = .returned (.string (sumS s)) ∧ Below w.heap.size w w' := by
  have z1 := lxs_size (Gs.sip (tat s) 1#64 2#64 s.size)
  have z2 := lxs_size (Gs.sip (tat s) 3#64 4#64 s.size)
  have HS : Hid (sumS s = strOfNums (lx (Gs.sip (tat s) 1#64 2#64 s.size)) ++ strOfNums (lx (Gs.sip (tat s) 3#64 4#64 s.size))) := rfl
  go_enter Try.func132, Try.ntmps132
  go_wp2_with fail
  refine (sip_wide 1#64 2#64 s _ hs).mono ?_
  rintro e w1 ⟨rfl, hb1⟩
  go_wp2_with fail
  refine (longText_any _ _).mono ?_
  rintro e w2 ⟨rfl, hb2⟩
  go_wp2_with fail
  refine (sip_wide 3#64 4#64 s _ hs).mono ?_
  rintro e w3 ⟨rfl, hb3⟩
  go_wp2_with fail
  refine (longText_any _ _).mono ?_
  rintro e w4 ⟨rfl, hb4⟩
  have hb := below2 (below2 hb1 hb2) (below2 hb3 hb4)
  generalize strOfNums (lx (Gs.sip (tat s) 1#64 2#64 s.size)) = t1 at z1 HS ⊢
  generalize strOfNums (lx (Gs.sip (tat s) 3#64 4#64 s.size)) = t2 at z2 HS ⊢
  go_wp2
  go_ret
  exact ⟨by rw [HS.out]; rfl, hb⟩

theorem sum_any (s : ByteArray) (w : World) (hs : s.size ≤ 1048576) :
    Calls Try.prog 132 #[.string s] w fun e w' => e = .returned (.string (sumS s)) ∧ Below w.heap.size w w' := sum_wide s w (by omega)
set_option maxHeartbeats 1000000 in
theorem sSum_wide (s : ByteArray) (w : World) (hs : s.size ≤ 4194304) :
    Calls Try.prog 125 #[.string s] w fun e w' => e = .returned (.string (sumS s)) ∧ Below w.heap.size w w' := by
  have z1 := lxs_size (Gs.sip (tat s) 1#64 2#64 s.size)
  have z2 := lxs_size (Gs.sip (tat s) 3#64 4#64 s.size)
  have HS : Hid (sumS s = strOfNums (lx (Gs.sip (tat s) 1#64 2#64 s.size)) ++ strOfNums (lx (Gs.sip (tat s) 3#64 4#64 s.size))) := rfl
  go_enter Try.func125, Try.ntmps125
  go_wp2_with fail
  refine (sSip_wide 1#64 2#64 s _ hs).mono ?_
  rintro e w1 ⟨rfl, hb1⟩
  go_wp2_with fail
  refine (sLongText_any _ _).mono ?_
  rintro e w2 ⟨rfl, hb2⟩
  go_wp2_with fail
  refine (sSip_wide 3#64 4#64 s _ hs).mono ?_
  rintro e w3 ⟨rfl, hb3⟩
  go_wp2_with fail
  refine (sLongText_any _ _).mono ?_
  rintro e w4 ⟨rfl, hb4⟩
  have hb := below2 (below2 hb1 hb2) (below2 hb3 hb4)
  generalize strOfNums (lx (Gs.sip (tat s) 1#64 2#64 s.size)) = t1 at z1 HS ⊢
  generalize strOfNums (lx (Gs.sip (tat s) 3#64 4#64 s.size)) = t2 at z2 HS ⊢
  have h16 : (t1 ++ t2).size = 16 := by rw [ByteArray.size_append]; omega
  have hcut : (t1 ++ t2).extract 0 16 = t1 ++ t2 := by rw [← h16]; exact ByteArray.extract_zero_size
  go_wp2
  go_ret
  exact ⟨by rw [HS.out]; rfl, hb⟩
theorem sSum_any (s : ByteArray) (w : World) (hs : s.size ≤ 1048576) :
    Calls Try.prog 125 #[.string s] w fun e w' => e = .returned (.string (sumS s)) ∧ Below w.heap.size w w' := sSum_wide s w (by omega)
end Go.Proofs.Ytcnigfejpfcfaaa

/- Trees over texts by plain functions: the row above a row, the root, a proof, the root that a proof leads to. No condition but what each law says; nothing of the program is named but the sum of a text. -/
namespace Go.Proofs.Ytcnigfejpfcfaaa
set_option maxRecDepth 2000
namespace Gt

/-- The sum of a byte 1 and two texts. -/
def jn (a b : ByteArray) : ByteArray := sumS ((⟨#[1]⟩ : ByteArray) ++ a ++ b)
def lf (s : ByteArray) : ByteArray := sumS ((⟨#[0]⟩ : ByteArray) ++ s)
theorem jn_size (a b : ByteArray) : (jn a b).size = 16 := sumS_size _
theorem lf_size (a : ByteArray) : (lf a).size = 16 := sumS_size _
/-- The neighbour's place. -/
def nb (i : Nat) : Nat := if i % 2 = 0 then i + 1 else i - 1
def hf (n : Nat) : Nat := (n + 1) / 2
/-- The row above a row of m. -/
def up (m : Nat) (R : Nat → ByteArray) : Nat → ByteArray := fun i => if 2 * i + 1 < m then jn (R (2 * i)) (R (2 * i + 1)) else if 2 * i < m then R (2 * i) else ByteArray.empty
theorem up_congr {m : Nat} {R R' : Nat → ByteArray} (h : ∀ i, i < m → R i = R' i) : up m R = up m R' := by
  funext i
  unfold up
  by_cases h1 : 2 * i + 1 < m
  · rw [if_pos h1, if_pos h1, h _ (by omega), h _ h1]
  · rw [if_neg h1, if_neg h1]
    by_cases h2 : 2 * i < m
    · rw [if_pos h2, if_pos h2, h _ h2]
    · rw [if_neg h2, if_neg h2]
theorem up_size {m : Nat} {R : Nat → ByteArray} (h : ∀ i, i < m → (R i).size = 16) : ∀ i, i < hf m → (up m R i).size = 16 := by
  intro i hi
  unfold hf at hi
  unfold up
  by_cases h1 : 2 * i + 1 < m
  · rw [if_pos h1]; exact jn_size _ _
  · rw [if_neg h1, if_pos (by omega)]; exact h _ (by omega)
theorem up_pad (m : Nat) (R : Nat → ByteArray) : ∀ i, hf m ≤ i → up m R i = ByteArray.empty := by
  intro i hi
  unfold hf at hi
  unfold up
  rw [if_neg (by omega), if_neg (by omega)]
/-- The root over a row. -/
def rt (n : Nat) (R : Nat → ByteArray) : ByteArray := if _h : n ≤ 1 then R 0 else rt (hf n) (up n R)
  termination_by n
  decreasing_by unfold hf; omega
theorem rt_one {n : Nat} (R : Nat → ByteArray) (h : n ≤ 1) : rt n R = R 0 := by rw [rt, dif_pos h]
theorem rt_more {n : Nat} (R : Nat → ByteArray) (h : ¬ n ≤ 1) : rt n R = rt (hf n) (up n R) := by rw [rt, dif_neg h]
theorem rt_congr {n : Nat} {R R' : Nat → ByteArray} (hn : 0 < n) (h : ∀ i, i < n → R i = R' i) : rt n R = rt n R' := by
  by_cases e : n ≤ 1
  · rw [rt_one _ e, rt_one _ e, h 0 hn]
  · rw [rt_more _ e, rt_more _ e, up_congr h]
theorem rt_size {n : Nat} : ∀ {R : Nat → ByteArray}, 0 < n → (∀ i, i < n → (R i).size = 16) → (rt n R).size = 16 := by
  induction n using Nat.strongRecOn with
  | _ n ih =>
    intro R hn h
    by_cases e : n ≤ 1
    · rw [rt_one _ e]; exact h 0 hn
    · rw [rt_more _ e]
      exact ih (hf n) (by unfold hf; omega) (by unfold hf; omega) (up_size h)
/-- How many texts a proof has. -/
def pl (i n : Nat) : Nat := if _h : n ≤ 1 then 0 else (if nb i < n then 1 else 0) + pl (i / 2) (hf n)
  termination_by n
  decreasing_by unfold hf; omega
theorem pl_one {n : Nat} (i : Nat) (h : n ≤ 1) : pl i n = 0 := by rw [pl, dif_pos h]
theorem pl_yes {n : Nat} (i : Nat) (h : ¬ n ≤ 1) (hb : nb i < n) : pl i n = 1 + pl (i / 2) (hf n) := by rw [pl, dif_neg h, if_pos hb]
theorem pl_no {n : Nat} (i : Nat) (h : ¬ n ≤ 1) (hb : ¬ nb i < n) : pl i n = pl (i / 2) (hf n) := by rw [pl, dif_neg h, if_neg hb, Nat.zero_add]
theorem pl_le (k : Nat) : ∀ (i n : Nat), n ≤ 2 ^ k → pl i n ≤ k := by
  induction k with
  | zero => intro i n h; rw [pl_one i (by simpa using h)]; exact Nat.le_refl _
  | succ k ih =>
    intro i n h
    by_cases e : n ≤ 1
    · rw [pl_one i e]; exact Nat.zero_le _
    · have h2 : hf n ≤ 2 ^ k := by
        rw [Nat.pow_succ] at h
        unfold hf
        have := Nat.one_le_two_pow (n := k)
        omega
      have := ih (i / 2) (hf n) h2
      by_cases hb : nb i < n
      · rw [pl_yes i e hb]; omega
      · rw [pl_no i e hb]; omega
/-- The texts of a proof. -/
def pf (n : Nat) (R : Nat → ByteArray) (i : Nat) (j : Nat) : ByteArray :=
  if _h : n ≤ 1 then ByteArray.empty else if nb i < n then (if j = 0 then R (nb i) else pf (hf n) (up n R) (i / 2) (j - 1)) else pf (hf n) (up n R) (i / 2) j
  termination_by n
  decreasing_by all_goals (unfold hf; omega)
theorem pf_hd {n : Nat} (R : Nat → ByteArray) (i : Nat) (h : ¬ n ≤ 1) (hb : nb i < n) : pf n R i 0 = R (nb i) := by rw [pf, dif_neg h, if_pos hb, if_pos rfl]
theorem pf_tl {n : Nat} (R : Nat → ByteArray) (i j : Nat) (h : ¬ n ≤ 1) (hb : nb i < n) : pf n R i (j + 1) = pf (hf n) (up n R) (i / 2) j := by rw [pf, dif_neg h, if_pos hb, if_neg (by omega)]; rfl
theorem pf_no {n : Nat} (R : Nat → ByteArray) (i j : Nat) (h : ¬ n ≤ 1) (hb : ¬ nb i < n) : pf n R i j = pf (hf n) (up n R) (i / 2) j := by rw [pf, dif_neg h, if_neg hb]
theorem pf_congr {n : Nat} {R R' : Nat → ByteArray} (h : ∀ i, i < n → R i = R' i) (i j : Nat) : pf n R i j = pf n R' i j := by
  by_cases e : n ≤ 1
  · rw [pf, dif_pos e, pf, dif_pos e]
  · by_cases hb : nb i < n
    · cases j with
      | zero => rw [pf_hd _ _ e hb, pf_hd _ _ e hb, h _ hb]
      | succ j => rw [pf_tl _ _ _ e hb, pf_tl _ _ _ e hb, up_congr h]
    · rw [pf_no _ _ _ e hb, pf_no _ _ _ e hb, up_congr h]
theorem pf_size {n : Nat} : ∀ {R : Nat → ByteArray} (i : Nat), i < n → (∀ i, i < n → (R i).size = 16) → ∀ j, j < pl i n → (pf n R i j).size = 16 := by
  induction n using Nat.strongRecOn with
  | _ n ih =>
    intro R i hi h j hj
    by_cases e : n ≤ 1
    · rw [pl_one i e] at hj; omega
    · have hlt : hf n < n := by unfold hf; omega
      have hi2 : i / 2 < hf n := by unfold hf; omega
      by_cases hb : nb i < n
      · rw [pl_yes i e hb] at hj
        cases j with
        | zero => rw [pf_hd _ _ e hb]; exact h _ hb
        | succ j => rw [pf_tl _ _ _ e hb]; exact ih (hf n) hlt (i / 2) hi2 (up_size h) j (by omega)
      · rw [pl_no i e hb] at hj
        rw [pf_no _ _ _ e hb]
        exact ih (hf n) hlt (i / 2) hi2 (up_size h) j hj
/-- The root that a leaf and a proof, from its text at 'c' on, lead to. -/
def pr (x : ByteArray) (i n : Nat) (P : Nat → ByteArray) (c : Nat) : ByteArray :=
  if _h : n ≤ 1 then x else if nb i < n then pr (if i % 2 = 0 then jn x (P c) else jn (P c) x) (i / 2) (hf n) P (c + 1) else pr x (i / 2) (hf n) P c
  termination_by n
  decreasing_by all_goals (unfold hf; omega)
theorem pr_one {n : Nat} (x : ByteArray) (i : Nat) (P : Nat → ByteArray) (c : Nat) (h : n ≤ 1) : pr x i n P c = x := by rw [pr, dif_pos h]
theorem pr_yes {n : Nat} (x : ByteArray) (i : Nat) (P : Nat → ByteArray) (c : Nat) (h : ¬ n ≤ 1) (hb : nb i < n) : pr x i n P c = pr (if i % 2 = 0 then jn x (P c) else jn (P c) x) (i / 2) (hf n) P (c + 1) := by rw [pr, dif_neg h, if_pos hb]
theorem pr_no {n : Nat} (x : ByteArray) (i : Nat) (P : Nat → ByteArray) (c : Nat) (h : ¬ n ≤ 1) (hb : ¬ nb i < n) : pr x i n P c = pr x (i / 2) (hf n) P c := by rw [pr, dif_neg h, if_neg hb]
theorem pr_congr {P P' : Nat → ByteArray} {n : Nat} : ∀ (x : ByteArray) (i c c' : Nat), (∀ j, j < pl i n → P (c + j) = P' (c' + j)) → pr x i n P c = pr x i n P' c' := by
  induction n using Nat.strongRecOn with
  | _ n ih =>
    intro x i c c' h
    by_cases e : n ≤ 1
    · rw [pr_one _ _ _ _ e, pr_one _ _ _ _ e]
    · have hlt : hf n < n := by unfold hf; omega
      by_cases hb : nb i < n
      · rw [pl_yes i e hb] at h
        rw [pr_yes _ _ _ _ e hb, pr_yes _ _ _ _ e hb]
        have h0 := h 0 (by omega)
        simp only [Nat.add_zero] at h0
        rw [h0]
        exact ih (hf n) hlt _ _ _ _ (fun j hj => by have := h (j + 1) (by omega); rwa [show c + (j + 1) = c + 1 + j by omega, show c' + (j + 1) = c' + 1 + j by omega] at this)
      · rw [pl_no i e hb] at h
        rw [pr_no _ _ _ _ e hb, pr_no _ _ _ _ e hb]
        exact ih (hf n) hlt _ _ _ _ h
/-- Each leaf's proof leads to the root. -/
theorem pr_pf {n : Nat} : ∀ (R : Nat → ByteArray) (i : Nat), i < n → pr (R i) i n (pf n R i) 0 = rt n R := by
  induction n using Nat.strongRecOn with
  | _ n ih =>
    intro R i hi
    by_cases e : n ≤ 1
    · rw [pr_one _ _ _ _ e, rt_one _ e, show i = 0 by omega]
    · have hlt : hf n < n := by unfold hf; omega
      have hi2 : i / 2 < hf n := by unfold hf; omega
      have hIH := ih (hf n) hlt (up n R) (i / 2) hi2
      rw [rt_more _ e, ← hIH]
      by_cases hb : nb i < n
      · rw [pr_yes _ _ _ _ e hb, pf_hd _ _ e hb]
        have hx : (if i % 2 = 0 then jn (R i) (R (nb i)) else jn (R (nb i)) (R i)) = up n R (i / 2) := by
          unfold nb at hb ⊢
          unfold up
          by_cases h2 : i % 2 = 0
          · rw [if_pos h2] at hb ⊢
            rw [if_pos h2, if_pos (by omega), show 2 * (i / 2) = i by omega]
          · rw [if_neg h2] at hb ⊢
            rw [if_neg h2, if_pos (by omega), show 2 * (i / 2) = i - 1 by omega, show i - 1 + 1 = i by omega]
        rw [hx]
        exact pr_congr _ _ _ _ (fun j _ => by rw [show 0 + 1 + j = j + 1 by omega, pf_tl _ _ _ e hb, Nat.zero_add])
      · have hx : R i = up n R (i / 2) := by
          unfold nb at hb
          unfold up
          by_cases h2 : i % 2 = 0
          · rw [if_pos h2] at hb
            rw [if_neg (by omega), if_pos (by omega), show 2 * (i / 2) = i by omega]
          · rw [if_neg h2] at hb
            omega
        rw [pr_no _ _ _ _ e hb, ← hx]
        exact pr_congr _ _ _ _ (fun j _ => by rw [Nat.zero_add, pf_no _ _ _ e hb])
theorem pr_size {P : Nat → ByteArray} {n : Nat} : ∀ (x : ByteArray) (i c : Nat), x.size = 16 → (pr x i n P c).size = 16 := by
  induction n using Nat.strongRecOn with
  | _ n ih =>
    intro x i c h
    by_cases e : n ≤ 1
    · rw [pr_one _ _ _ _ e]; exact h
    · have hlt : hf n < n := by unfold hf; omega
      by_cases hb : nb i < n
      · rw [pr_yes _ _ _ _ e hb]
        refine ih (hf n) hlt _ _ _ ?_
        by_cases h2 : i % 2 = 0
        · rw [if_pos h2]; exact jn_size _ _
        · rw [if_neg h2]; exact jn_size _ _
      · rw [pr_no _ _ _ _ e hb]; exact ih (hf n) hlt _ _ _ h
/-- The next place that is joined, or the top. -/
def nm (p s : Nat) : Nat × Nat := if _h : s ≤ 1 then (p, s) else if nb p < s then (p, s) else nm (p / 2) (hf s)
  termination_by s
  decreasing_by unfold hf; omega
theorem nm_one {s : Nat} (p : Nat) (h : s ≤ 1) : nm p s = (p, s) := by rw [nm, dif_pos h]
theorem nm_yes {s : Nat} (p : Nat) (h : ¬ s ≤ 1) (hb : nb p < s) : nm p s = (p, s) := by rw [nm, dif_neg h, if_pos hb]
theorem nm_no {s : Nat} (p : Nat) (h : ¬ s ≤ 1) (hb : ¬ nb p < s) : nm p s = nm (p / 2) (hf s) := by rw [nm, dif_neg h, if_neg hb]
theorem pl_nm {s : Nat} : ∀ (p : Nat), pl (nm p s).1 (nm p s).2 = pl p s := by
  induction s using Nat.strongRecOn with
  | _ s ih =>
    intro p
    by_cases e : s ≤ 1
    · rw [nm_one p e]
    · by_cases hb : nb p < s
      · rw [nm_yes p e hb]
      · rw [nm_no p e hb, pl_no p e hb]; exact ih (hf s) (by unfold hf; omega) _
theorem pr_nm {s : Nat} : ∀ (x : ByteArray) (p : Nat) (P : Nat → ByteArray) (c : Nat), pr x (nm p s).1 (nm p s).2 P c = pr x p s P c := by
  induction s using Nat.strongRecOn with
  | _ s ih =>
    intro x p P c
    by_cases e : s ≤ 1
    · rw [nm_one p e]
    · by_cases hb : nb p < s
      · rw [nm_yes p e hb]
      · rw [nm_no p e hb, pr_no _ _ _ _ e hb]; exact ih (hf s) (by unfold hf; omega) _ _ _ _
theorem nb_xor (i : Nat) : i ^^^ 1 = nb i := by
  unfold nb
  have h1 : (i ^^^ 1) / 2 = i / 2 := by rw [Nat.xor_div_two]; simp
  have h2 : (i ^^^ 1) % 2 = (i + 1) % 2 := by
    have h := Nat.xor_mod_two_pow (a := i) (b := 1) (n := 1)
    rw [Nat.pow_one] at h
    rw [h]
    rcases Nat.mod_two_eq_zero_or_one i with e | e
    · rw [e, show (i + 1) % 2 = 1 by omega]; decide
    · rw [e, show (i + 1) % 2 = 0 by omega]; decide
  by_cases e : i % 2 = 0
  · rw [if_pos e]; omega
  · rw [if_neg e]; omega
theorem nb_model (i : Nat) : (i : Int) + 1 - 2 * ((i : Int) % 2) = (nb i : Int) := by
  unfold nb
  by_cases e : i % 2 = 0
  · rw [if_pos e]; omega
  · rw [if_neg e]; omega
end Gt
end Go.Proofs.Ytcnigfejpfcfaaa

/- Leaves and joins, in the program and in its model: what each answers. Condition: texts of at most 2^20 bytes. -/
namespace Go.Proofs.Ytcnigfejpfcfaaa
set_option maxRecDepth 2000
open Go.ChangeShapes Go.WideShapes Go.ChangeAt Go.RowKit
open Gt (jn lf)

theorem one_app (x : UInt8) (s : ByteArray) : ((⟨#[x]⟩ : ByteArray) ++ s).size = s.size + 1 := by rw [ByteArray.size_append, show (⟨#[x]⟩ : ByteArray).size = 1 from rfl]; omega

set_option maxHeartbeats 1000000 in
theorem leaf_any (s : ByteArray) (w : World) (hs : s.size ≤ 1048576) : Calls Try.prog 117 #[.string s] w fun e w' => e = .returned (.string (lf s)) ∧ Below w.heap.size w w' := by
  have h1 := one_app 0 s
  have HS : Hid (∀ w0, Calls Try.prog 132 #[.string ((⟨#[0]⟩ : ByteArray) ++ s)] w0 fun e w' => e = .returned (.string (lf s)) ∧ Below w0.heap.size w0 w') := fun w0 => sum_wide _ w0 (by omega)
  have hb1 : (⟨#[0]⟩ : ByteArray).size = 1 := rfl
  go_enter Try.func117, Try.ntmps117
  go_wp2_with fail
  refine (HS.out _).mono ?_
  rintro e w1 ⟨rfl, b1⟩
  go_wp2
  go_ret
  exact ⟨rfl, b1⟩
set_option maxHeartbeats 1000000 in
theorem join_any (a b : ByteArray) (w : World) (ha : a.size ≤ 1048576) (hb : b.size ≤ 1048576) : Calls Try.prog 140 #[.string a, .string b] w fun e w' => e = .returned (.string (jn a b)) ∧ Below w.heap.size w w' := by
  have h1 := one_app 1 a
  have h2 : ((⟨#[1]⟩ : ByteArray) ++ a ++ b).size = a.size + 1 + b.size := by rw [ByteArray.size_append, h1]
  have HS : Hid (∀ w0, Calls Try.prog 132 #[.string ((⟨#[1]⟩ : ByteArray) ++ a ++ b)] w0 fun e w' => e = .returned (.string (jn a b)) ∧ Below w0.heap.size w0 w') := fun w0 => sum_wide _ w0 (by omega)
  have hb1 : (⟨#[1]⟩ : ByteArray).size = 1 := rfl
  go_enter Try.func140, Try.ntmps140
  go_wp2_with fail
  refine (HS.out _).mono ?_
  rintro e w1 ⟨rfl, b1⟩
  go_wp2
  go_ret
  exact ⟨rfl, b1⟩

set_option maxHeartbeats 1000000 in
theorem sleaf_any (s : ByteArray) (w : World) (hs : s.size ≤ 1048576) : Calls Try.prog 100 #[.string s] w fun e w' => e = .returned (.string (lf s)) ∧ Below w.heap.size w w' := by
  have h1 := one_app 0 s
  have HS : Hid (∀ w0, Calls Try.prog 125 #[.string ((⟨#[0]⟩ : ByteArray) ++ s)] w0 fun e w' => e = .returned (.string (lf s)) ∧ Below w0.heap.size w0 w') := fun w0 => sSum_wide _ w0 (by omega)
  have hb1 : (⟨#[0]⟩ : ByteArray).size = 1 := rfl
  go_enter Try.func100, Try.ntmps100
  go_wp2_with fail
  refine (HS.out _).mono ?_
  rintro e w1 ⟨rfl, b1⟩
  go_wp2
  go_ret
  exact ⟨rfl, b1⟩
set_option maxHeartbeats 1000000 in
theorem sjoin_any (a b : ByteArray) (w : World) (ha : a.size ≤ 1048576) (hb : b.size ≤ 1048576) : Calls Try.prog 124 #[.string a, .string b] w fun e w' => e = .returned (.string (jn a b)) ∧ Below w.heap.size w w' := by
  have h1 := one_app 1 a
  have h2 : ((⟨#[1]⟩ : ByteArray) ++ a ++ b).size = a.size + 1 + b.size := by rw [ByteArray.size_append, h1]
  have HS : Hid (∀ w0, Calls Try.prog 125 #[.string ((⟨#[1]⟩ : ByteArray) ++ a ++ b)] w0 fun e w' => e = .returned (.string (jn a b)) ∧ Below w0.heap.size w0 w') := fun w0 => sSum_wide _ w0 (by omega)
  have hb1 : (⟨#[1]⟩ : ByteArray).size = 1 := rfl
  go_enter Try.func124, Try.ntmps124
  go_wp2_with fail
  refine (HS.out _).mono ?_
  rintro e w1 ⟨rfl, b1⟩
  go_wp2
  go_ret
  exact ⟨rfl, b1⟩

end Go.Proofs.Ytcnigfejpfcfaaa

/- The leaf of a piece's body, in the program and in its model: what each answers. Condition: a body of at most 2^20 bytes. -/
namespace Go.Proofs.Ytcnigfejpfcfaaa
set_option maxRecDepth 2000
open Go.ChangeShapes Go.WideShapes Go.ChangeAt Go.RowKit
open Gt (lf)

set_option maxHeartbeats 1000000 in
theorem leaf_wide (s : ByteArray) (w : World) (hs : s.size ≤ 2097152) : Calls Try.prog 117 #[.string s] w fun e w' => e = .returned (.string (lf s)) ∧ Below w.heap.size w w' := by
  have h1 := one_app 0 s
  have HS : Hid (∀ w0, Calls Try.prog 132 #[.string ((⟨#[0]⟩ : ByteArray) ++ s)] w0 fun e w' => e = .returned (.string (lf s)) ∧ Below w0.heap.size w0 w') := fun w0 => sum_wide _ w0 (by omega)
  have hb1 : (⟨#[0]⟩ : ByteArray).size = 1 := rfl
  go_enter Try.func117, Try.ntmps117
  go_wp2_with fail
  refine (HS.out _).mono ?_
  rintro e w1 ⟨rfl, b1⟩
  go_wp2
  go_ret
  exact ⟨rfl, b1⟩
set_option maxHeartbeats 1000000 in
theorem sleaf_wide (s : ByteArray) (w : World) (hs : s.size ≤ 2097152) : Calls Try.prog 100 #[.string s] w fun e w' => e = .returned (.string (lf s)) ∧ Below w.heap.size w w' := by
  have h1 := one_app 0 s
  have HS : Hid (∀ w0, Calls Try.prog 125 #[.string ((⟨#[0]⟩ : ByteArray) ++ s)] w0 fun e w' => e = .returned (.string (lf s)) ∧ Below w0.heap.size w0 w') := fun w0 => sSum_wide _ w0 (by omega)
  have hb1 : (⟨#[0]⟩ : ByteArray).size = 1 := rfl
  go_enter Try.func100, Try.ntmps100
  go_wp2_with fail
  refine (HS.out _).mono ?_
  rintro e w1 ⟨rfl, b1⟩
  go_wp2
  go_ret
  exact ⟨rfl, b1⟩

/-- The four bytes ahead of a body, and the body. -/
def pHd (k n i : Nat) (s : ByteArray) : ByteArray := strOfNums [(k : Int), (n : Int), (i : Int), ((s.size % 256 : Nat) : Int)] ++ s
noncomputable def plf (k n i : Int) (s : ByteArray) : ByteArray := if isB k = true ∧ isB n = true ∧ isB i = true then lf (pHd k.toNat n.toNat i.toNat s) else ⟨#[]⟩
theorem plf_yes {k n i : Nat} (s : ByteArray) (hk : k < 256) (hn : n < 256) (hi : i < 256) : plf (k : Int) (n : Int) (i : Int) s = lf (pHd k n i s) := by
  unfold plf
  rw [if_pos ⟨isB_ofNat hk, isB_ofNat hn, isB_ofNat hi⟩]
  simp
theorem plf_no {k n i : Int} (s : ByteArray) (h : isB k = false ∨ isB n = false ∨ isB i = false) : plf k n i s = ⟨#[]⟩ := by
  unfold plf
  rw [if_neg]
  rintro ⟨h1, h2, h3⟩
  rcases h with h | h | h
  · rw [h] at h1; cases h1
  · rw [h] at h2; cases h2
  · rw [h] at h3; cases h3
theorem pHd_size (k n i : Nat) (s : ByteArray) : (pHd k n i s).size = 4 + s.size := by unfold pHd; rw [ByteArray.size_append, strOfNums_size]; rfl
theorem plf_le (k n i : Int) (s : ByteArray) : (plf k n i s).size ≤ 16 := by
  unfold plf
  split
  · rw [Gt.lf_size]; omega
  · decide
theorem four_cells {w : World} {ty : TypeId} {a b c d : Int} : ∀ i, i < 4 → (w.alloc (.cells #[.int .u8 a, .int .u8 b, .int .u8 c, .int .u8 d] ty)).cell? ⟨w.heap.size, 0 + i, none⟩ = some (.int .u8 ([a, b, c, d].getD i 0)) := by
  intro i hi
  rw [Nat.zero_add, cell_of_row _ _ _ _ ty _ (heap_alloc_new w _)]
  match i, hi with
  | 0, _ => rfl
  | 1, _ => rfl
  | 2, _ => rfl
  | 3, _ => rfl

set_option maxHeartbeats 1000000 in
theorem pieceLeaf_any (k n i : Int) (s : ByteArray) (w : World) (hs : s.size ≤ 1048576) :
    Calls Try.prog 94 #[.int .i64 k, .int .i64 n, .int .i64 i, .string s] w fun e w' => e = .returned (.string (plf k n i s)) ∧ Below w.heap.size w w' := by
  have KB : Hid (∀ (a : Int) (W : World), Calls Try.prog 116 #[.int .i64 a] W fun e w' => e = .returned (.bool (isB a)) ∧ w' = W) := fun a W => isByte_any a W
  cases h1 : isB k with
  | false =>
    rw [plf_no s (.inl h1)]
    go_enter Try.func94, Try.ntmps94
    go_wp2_with (go_at_call 116; refine (KB.out _ _).mono ?_; rintro e w' ⟨rfl, hw⟩; obtain rfl := hw.symm)
    go_ret
    exact ⟨rfl, Below.refl _ _⟩
  | true =>
    cases h2 : isB n with
    | false =>
      rw [plf_no s (.inr (.inl h2))]
      go_enter Try.func94, Try.ntmps94
      go_wp2_with (go_at_call 116; refine (KB.out _ _).mono ?_; rintro e w' ⟨rfl, hw⟩; obtain rfl := hw.symm)
      go_ret
      exact ⟨rfl, Below.refl _ _⟩
    | true =>
      cases h3 : isB i with
      | false =>
        rw [plf_no s (.inr (.inr h3))]
        go_enter Try.func94, Try.ntmps94
        go_wp2_with (go_at_call 116; refine (KB.out _ _).mono ?_; rintro e w' ⟨rfl, hw⟩; obtain rfl := hw.symm)
        go_ret
        exact ⟨rfl, Below.refl _ _⟩
      | true =>
        obtain ⟨k', hk, rfl⟩ := isB_nat h1
        obtain ⟨n', hn, rfl⟩ := isB_nat h2
        obtain ⟨i', hi, rfl⟩ := isB_nat h3
        have e1 : IntKind.u8.wrap (k' : Int) = (k' : Int) := by rw [IntKind.wrap_u8]; omega
        have e2 : IntKind.u8.wrap (n' : Int) = (n' : Int) := by rw [IntKind.wrap_u8]; omega
        have e3 : IntKind.u8.wrap (i' : Int) = (i' : Int) := by rw [IntKind.wrap_u8]; omega
        obtain ⟨sz, hsz⟩ : ∃ sz, s.size = sz := ⟨_, rfl⟩
        obtain ⟨c, hc⟩ : ∃ c, sz % 256 = c := ⟨_, rfl⟩
        have e4 : IntKind.u8.wrap (sz : Int) = (c : Int) := by rw [IntKind.wrap_u8]; omega
        have HP : Hid (plf (k' : Int) (n' : Int) (i' : Int) s = lf (strOfNums [(k' : Int), (n' : Int), (i' : Int), (c : Int)] ++ s)) := by show _ = _; rw [plf_yes s hk hn hi, pHd, hsz, hc]
        rw [HP.out]
        have hcv := run_convert_bytes_arg (P := Try.prog) (w.alloc (.cells #[.int .u8 (k' : Int), .int .u8 (n' : Int), .int .u8 (i' : Int), .int .u8 (c : Int)] 5)) 103 5 Try.underlying103 Try.underlying5 w.heap.size 0 4 4 [(k' : Int), (n' : Int), (i' : Int), (c : Int)] rfl four_cells 9 Try.underlying9
        obtain ⟨hd, HH⟩ : ∃ hd, Hid (strOfNums [(k' : Int), (n' : Int), (i' : Int), (c : Int)] = hd) := ⟨_, rfl⟩
        have hhs : hd.size = 4 := by rw [← HH.out, strOfNums_size]; rfl
        rw [HH.out] at hcv ⊢
        have hss : (hd ++ s).size = 4 + sz := by rw [ByteArray.size_append, hhs, hsz]
        have HL : Hid (∀ W, Calls Try.prog 117 #[.string (hd ++ s)] W fun e w' => e = .returned (.string (lf (hd ++ s))) ∧ Below W.heap.size W w') := fun W => leaf_wide _ W (by omega)
        have hb0 : Below w.heap.size w (w.alloc (.cells #[.int .u8 (k' : Int), .int .u8 (n' : Int), .int .u8 (i' : Int), .int .u8 (c : Int)] 5)) := (Below.refl _ _).alloc (Nat.le_refl _) _
        have HB0 : Hid _ := hb0
        clear hb0 hss hc HP
        go_enter Try.func94, Try.ntmps94
        go_wp2_with (go_at_call 116; refine (KB.out _ _).mono ?_; rintro e w' ⟨rfl, hw⟩; obtain rfl := hw.symm)
        refine (HL.out _).mono ?_
        rintro e w1 ⟨rfl, b1⟩
        go_wp2
        go_ret
        exact ⟨rfl, below2 HB0.out b1⟩

set_option maxHeartbeats 1000000 in
theorem sPieceLeaf_any (k n i : Int) (s : ByteArray) (w : World) (hs : s.size ≤ 1048576) :
    Calls Try.prog 80 #[.int .i64 k, .int .i64 n, .int .i64 i, .string s] w fun e w' => e = .returned (.string (plf k n i s)) ∧ Below w.heap.size w w' := by
  have KB : Hid (∀ (a : Int) (W : World), Calls Try.prog 99 #[.int .i64 a] W fun e w' => e = .returned (.bool (isB a)) ∧ w' = W) := fun a W => sIs_any a W
  cases h1 : isB k with
  | false =>
    rw [plf_no s (.inl h1)]
    go_enter Try.func80, Try.ntmps80
    go_wp2_with (go_at_call 99; refine (KB.out _ _).mono ?_; rintro e w' ⟨rfl, hw⟩; obtain rfl := hw.symm)
    go_ret
    exact ⟨rfl, Below.refl _ _⟩
  | true =>
    cases h2 : isB n with
    | false =>
      rw [plf_no s (.inr (.inl h2))]
      go_enter Try.func80, Try.ntmps80
      go_wp2_with (go_at_call 99; refine (KB.out _ _).mono ?_; rintro e w' ⟨rfl, hw⟩; obtain rfl := hw.symm)
      go_ret
      exact ⟨rfl, Below.refl _ _⟩
    | true =>
      cases h3 : isB i with
      | false =>
        rw [plf_no s (.inr (.inr h3))]
        go_enter Try.func80, Try.ntmps80
        go_wp2_with (go_at_call 99; refine (KB.out _ _).mono ?_; rintro e w' ⟨rfl, hw⟩; obtain rfl := hw.symm)
        go_ret
        exact ⟨rfl, Below.refl _ _⟩
      | true =>
        obtain ⟨k', hk, rfl⟩ := isB_nat h1
        obtain ⟨n', hn, rfl⟩ := isB_nat h2
        obtain ⟨i', hi, rfl⟩ := isB_nat h3
        have e1 : IntKind.u8.wrap (k' : Int) = (k' : Int) := by rw [IntKind.wrap_u8]; omega
        have e2 : IntKind.u8.wrap (n' : Int) = (n' : Int) := by rw [IntKind.wrap_u8]; omega
        have e3 : IntKind.u8.wrap (i' : Int) = (i' : Int) := by rw [IntKind.wrap_u8]; omega
        obtain ⟨sz, hsz⟩ : ∃ sz, s.size = sz := ⟨_, rfl⟩
        obtain ⟨c, hc⟩ : ∃ c, sz % 256 = c := ⟨_, rfl⟩
        have e5 : (sz : Int).tmod 256 = (c : Int) := by rw [Int.tmod_eq_emod_of_nonneg (by omega)]; omega
        have e4 : IntKind.u8.wrap (c : Int) = (c : Int) := by rw [IntKind.wrap_u8]; omega
        have HP : Hid (plf (k' : Int) (n' : Int) (i' : Int) s = lf (strOfNums [(k' : Int), (n' : Int), (i' : Int), (c : Int)] ++ s)) := by show _ = _; rw [plf_yes s hk hn hi, pHd, hsz, hc]
        rw [HP.out]
        have hcv := run_convert_bytes_arg (P := Try.prog) (w.alloc (.cells #[.int .u8 (k' : Int), .int .u8 (n' : Int), .int .u8 (i' : Int), .int .u8 (c : Int)] 5)) 103 5 Try.underlying103 Try.underlying5 w.heap.size 0 4 4 [(k' : Int), (n' : Int), (i' : Int), (c : Int)] rfl four_cells 9 Try.underlying9
        obtain ⟨hd, HH⟩ : ∃ hd, Hid (strOfNums [(k' : Int), (n' : Int), (i' : Int), (c : Int)] = hd) := ⟨_, rfl⟩
        have hhs : hd.size = 4 := by rw [← HH.out, strOfNums_size]; rfl
        rw [HH.out] at hcv ⊢
        have hss : (hd ++ s).size = 4 + sz := by rw [ByteArray.size_append, hhs, hsz]
        have HL : Hid (∀ W, Calls Try.prog 100 #[.string (hd ++ s)] W fun e w' => e = .returned (.string (lf (hd ++ s))) ∧ Below W.heap.size W w') := fun W => sleaf_wide _ W (by omega)
        have hb0 : Below w.heap.size w (w.alloc (.cells #[.int .u8 (k' : Int), .int .u8 (n' : Int), .int .u8 (i' : Int), .int .u8 (c : Int)] 5)) := (Below.refl _ _).alloc (Nat.le_refl _) _
        have HB0 : Hid _ := hb0
        clear hb0 hss hc HP
        go_enter Try.func80, Try.ntmps80
        go_wp2_with (go_at_call 99; refine (KB.out _ _).mono ?_; rintro e w' ⟨rfl, hw⟩; obtain rfl := hw.symm)
        refine (HL.out _).mono ?_
        rintro e w1 ⟨rfl, b1⟩
        go_wp2
        go_ret
        exact ⟨rfl, below2 HB0.out b1⟩
end Go.Proofs.Ytcnigfejpfcfaaa
