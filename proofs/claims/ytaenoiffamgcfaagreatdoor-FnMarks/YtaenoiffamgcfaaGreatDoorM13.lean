import Derived.Test.YtaenoiffamgcfaaGreatDoorM7
import Derived.Test.YtaenoiffamgcfaaGreatDoorM9
set_option maxHeartbeats 8000000
set_option maxRecDepth 2000
open Go.ChangeShapes Go.WideShapes Go.ChangeAt Go.RowKit
namespace Go.Proofs.YtaenoiffamgcfaaGreatDoor
open Gs (U rolI V4 mx inn key all4 fin)
theorem long_any (s : ByteArray) (w : World) (hs : s.size ≤ 8) :
  Calls Tryz.prog 99 #[.string s] w fun e w' => e = .returned (.int .u64 ((Gs.le (tat s) 0 s.size : Nat) : Int)) ∧ w' = w := by
 obtain ⟨n, hn⟩ : ∃ n, s.size = n := ⟨_, rfl⟩
 go_enter Tryz.func99, Tryz.ntmps99
 go_wp2
 go_loop [3, 4] (fun x i => ∃ j : Nat, j ≤ n ∧ i = .int .i64 ((n : Int) - 1 - j) ∧ x = .int .u64 ((Gs.le (tat s) (n - j) j : Nat) : Int)) (fun _ i => (intOf i + 1).toNat)
 case atStart => exact ⟨0, Nat.zero_le _, by simp, rfl⟩
 case round =>
  obtain ⟨j, hj, rfl, rfl⟩ := hrel
  by_cases hlt : j < n
  ·obtain ⟨o, HO⟩ : ∃ o : Nat, Hid (n = o + j + 1) := ⟨n - j - 1, by show _ = _; omega⟩
   have eo : (n : Int) - 1 - (j : Int) = (o : Int) := by have := HO.out; omega
   have hos : o < s.size := by have := HO.out; omega
   have HX : Hid (s[o].toNat = tat s o) := (tat_in s o hos).symm
   have hl1 := Gs.le_lt64 (tat_lt s) o (j + 1) (by omega)
   have HF : Hid (Gs.le (tat s) o (j + 1) = Gs.le (tat s) (o + 1) j * 256 + s[o].toNat) := by show _ = _; rw [HX.out, Gs.le_first]
   rw [show n - j = o + 1 by have := HO.out; omega, eo]
   rw [HF.out] at hl1
   generalize Gs.le (tat s) (o + 1) j = X at hl1 HF ⊢
   have hnj : n - (j + 1) = o := by have := HO.out; omega
   have HN : Hid (n - (j + 1) = o) := hnj
   clear hnj
   go_wp2
   refine ⟨⟨j + 1, by omega, ?_, ?_⟩, ?_⟩
   ·have := HO.out
    congr 1
    omega
   ·rw [HN.out, HF.out]
    simp
   ·simp [intOf]
  ·obtain rfl : j = n := by omega
   go_wp2
   go_ret
   exact ⟨rfl, rfl⟩
theorem in_any (v : V4) (x : BitVec 64) (w : World) : Calls Tryz.prog 98 #[A4 v, .int .u64 (U x)] w fun e w' => e = .returned (A4 (inn v x)) ∧ Below w.heap.size w w' := by
 obtain ⟨a, b, c, d⟩ := v
 have hxor := Gs.U_xor
 obtain ⟨B, HB⟩ : ∃ B, Hid (B = w.heap.size) := ⟨_, rfl⟩
 obtain ⟨w1, HW1⟩ : ∃ w1, Hid (w1 = (w.alloc (.cells (C4 ⟨a, b, c, d ^^^ x⟩) 124)).alloc (.cells #[.int .u64 0, .int .u64 0, .int .u64 0, .int .u64 0] 124)) := ⟨_, rfl⟩
 have K1 : Hid (Own4 w w1 B ⟨a, b, c, d ^^^ x⟩) := by
  show Own4 _ _ _ _
  rw [HW1.out, HB.out]
  refine ⟨(Row.new w _ _).alloc _, ⟨⟨0, 0, 0, 0⟩, ?_⟩, ((Below.refl _ _).alloc (Nat.le_refl _) _).alloc (by simp) _⟩
  have := Row.new (w.alloc (.cells (C4 ⟨a, b, c, d ^^^ x⟩) 124)) #[.int .u64 0, .int .u64 0, .int .u64 0, .int .u64 0] 124
  rw [show (w.alloc (.cells (C4 ⟨a, b, c, d ^^^ x⟩) 124)).heap.size = w.heap.size + 1 by simp] at this
  exact this
 have hs1 : w1.heap.size = B + 2 := by rw [HW1.out, HB.out]; simp
 have R1 : Hid _ := K1.out.row
 go_enter Tryz.func98, Tryz.ntmps98
 go_wp2_with (rw [← HW1.out, ← HB.out]; refine wpList_load_row (by rfl) 124 _ (by rfl) B (by rfl) 124 _ (0, 0) _ R1.out Tryz.underlying124 (by rfl) Tryz.info4 ?_)
 refine (sMix_any _ _).mono ?_
 rintro e w2 ⟨rfl, hb2⟩
 go_wp2_with fail
 refine (sMix_any _ _).mono ?_
 rintro e w3 ⟨rfl, hb3⟩
 have HI : Hid (inn ⟨a, b, c, d⟩ x = ⟨(mx (mx ⟨a, b, c, d ^^^ x⟩)).a ^^^ x, (mx (mx ⟨a, b, c, d ^^^ x⟩)).b, (mx (mx ⟨a, b, c, d ^^^ x⟩)).c, (mx (mx ⟨a, b, c, d ^^^ x⟩)).d⟩) := rfl
 generalize mx (mx ⟨a, b, c, d ^^^ x⟩) = m at HI ⊢
 obtain ⟨p, q, s, t⟩ := m
 have hb13 : Below w1.heap.size w1 w3 := below2 hb2 hb3
 obtain ⟨z, hz⟩ := K1.out.res
 have R3 : Hid (Row w3 B 124 (C4 ⟨a, b, c, d ^^^ x⟩)) := Row.below R1.out hb13 (by omega)
 have Z3 : Hid (Row w3 (B + 1) 124 (C4 z)) := hz.below hb13 (by omega)
 have B3 : Hid (Below B w w3) := K1.out.bel.trans (hb13.mono (by omega))
 clear hz hb13 hb2 hb3
 have c0 := R3.out.cell 0
 have c1 := R3.out.cell 1
 have c2 := R3.out.cell 2
 have c3 := R3.out.cell 3
 have f0 := R3.out.free 0
 have f1 := R3.out.free 1
 have f2 := R3.out.free 2
 have f3 := R3.out.free 3
 simp at c0 c1 c2 c3
 obtain ⟨w4, HW4⟩ : ∃ x', Hid (x' = ((((w3.setCell ⟨B, 0, none⟩ (.int .u64 (U p))).setCell ⟨B, 1, none⟩ (.int .u64 (U q))).setCell ⟨B, 2, none⟩ (.int .u64 (U s))).setCell ⟨B, 3, none⟩ (.int .u64 (U t))).setCell ⟨B, 0, none⟩ (.int .u64 (U (p ^^^ x)))) := ⟨_, rfl⟩
 have R4 : Hid (Row w4 B 124 (C4 ⟨p ^^^ x, q, s, t⟩)) := by
  show Row _ _ _ _
  rw [HW4.out]
  exact ((((R3.out.set 0 _).set 1 _).set 2 _).set 3 _).set 0 _
 have Z4 : Hid (Row w4 (B + 1) 124 (C4 z)) := by
  show Row _ _ _ _
  rw [HW4.out]
  exact ((((Z3.out.other 0 _ (by omega)).other 1 _ (by omega)).other 2 _ (by omega)).other 3 _ (by omega)).other 0 _ (by omega)
 have B4 : Hid (Below B w w4) := by
  show Below _ _ _
  rw [HW4.out]
  exact Below.setCell (Below.setCell (Below.setCell (Below.setCell (Below.setCell B3.out (by simp) _) (by simp) _) (by simp) _) (by simp) _) (by simp) _
 have ZR : Hid (Row ((((w4.setCell ⟨B + 1, 0, none⟩ (.int .u64 (U (p ^^^ x)))).setCell ⟨B + 1, 1, none⟩ (.int .u64 (U q))).setCell ⟨B + 1, 2, none⟩ (.int .u64 (U s))).setCell ⟨B + 1, 3, none⟩ (.int .u64 (U t))) (B + 1) 124 (C4 (inn ⟨a, b, c, d⟩ x))) := by
  show Row _ _ _ _
  rw [HI.out]
  exact (((Z4.out.set 0 _).set 1 _).set 2 _).set 3 _
 have q0 := Z4.out.cell 0
 have q1 := Z4.out.cell 1
 have q2 := Z4.out.cell 2
 have q3 := Z4.out.cell 3
 have g0 := Z4.out.free 0
 have g1 := Z4.out.free 1
 have g2 := Z4.out.free 2
 have g3 := Z4.out.free 3
 simp at q0 q1 q2 q3
 go_wp2_with (rw [← HW4.out]; refine wpList_load_row (by rfl) 124 _ (by rfl) B (by rfl) 124 _ (0, 0) _ R4.out Tryz.underlying124 (by rfl) Tryz.info4 ?_; clear c0 c1 c2 c3 f0 f1 f2 f3)
 clear q0 q1 q2 q3 g0 g1 g2 g3
 refine bodyPost_ret (v := A4 (inn ⟨a, b, c, d⟩ x)) (results_cell_row Tryz.results98 _ _ (B + 1) 124 _ (0, 0) _ (by simp) ZR.out Tryz.underlying124 (by rfl) Tryz.info4) rfl ⟨rfl, ?_⟩
 rw [← HB.out]
 exact Below.setCell (Below.setCell (Below.setCell (Below.setCell B4.out (by simp) _) (by simp) _) (by simp) _) (by simp) _
theorem tat_cut (u : ByteArray) (a b j : Nat) (hb : b ≤ u.size) (hj : a + j < b) : tat (u.extract a b) j = tat u (a + j) := by
 have hs : (u.extract a b).size = b - a := by simp [ByteArray.size_extract]; omega
 rw [tat_in _ j (by omega), tat_in _ (a + j) (by omega)]
 congr 1
 simp [ByteArray.getElem_extract]
def strLen : Value → Nat
 | .string s => s.size
 | _ => 0
theorem sSip_wide (a b : BitVec 64) (s : ByteArray) (w : World) (hs : s.size ≤ 4194304) :
  Calls Tryz.prog 67 #[.int .u64 (U a), .int .u64 (U b), .string s] w fun e w' => e = .returned (.int .u64 (U (Gs.sip (tat s) a b s.size))) ∧ Below w.heap.size w w' := by
 obtain ⟨n, hn⟩ : ∃ n, s.size = n := ⟨_, rfl⟩
 have hxor := Gs.U_xor
 have h255 : ∀ x : BitVec 64, bits .xor .u64 (U x) 255 = U (x ^^^ 255#64) := fun x => Gs.U_xor x 255#64
 have h1 : bits .xor .u64 (U a) 8317987319222330741 = U (a ^^^ 8317987319222330741#64) := Gs.U_xor a 8317987319222330741#64
 have h2 : bits .xor .u64 (U b) 7237128888997146477 = U (b ^^^ 7237128888997146477#64) := Gs.U_xor b 7237128888997146477#64
 have h3 : bits .xor .u64 (U a) 7816392313619706465 = U (a ^^^ 7816392313619706465#64) := Gs.U_xor a 7816392313619706465#64
 have h4 : bits .xor .u64 (U b) 8387220255154660723 = U (b ^^^ 8387220255154660723#64) := Gs.U_xor b 8387220255154660723#64
 obtain ⟨g, HG⟩ : ∃ g, Hid (g = w.heap.size) := ⟨_, rfl⟩
 obtain ⟨w1, HW1⟩ : ∃ x, Hid (x = w.alloc (.cells #[.int .u64 (U (a ^^^ 8317987319222330741#64)), .int .u64 (U (b ^^^ 7237128888997146477#64)), .int .u64 (U (a ^^^ 7816392313619706465#64)), .int .u64 (U (b ^^^ 8387220255154660723#64))] 124)) := ⟨_, rfl⟩
 have r1 : Row w1 g 124 (C4 (key a b)) := by rw [HW1.out, HG.out]; exact Row.new w _ _
 have b1 : Below g w w1 := by rw [HW1.out, HG.out]; exact (Below.refl _ _).alloc (Nat.le_refl _) _
 have hsz : IntKind.u64.wrap ((n : Int) % 256) = ((n % 256 : Nat) : Int) := by rw [IntKind.wrap_u64]; omega
 go_enter Tryz.func67, Tryz.ntmps67
 go_wp2
 rw [← HW1.out, ← HG.out]
 clear h1 h2 h3 h4
 go_loopw [2] (fun sv wr => ∃ (q : Nat) (u : ByteArray), sv = .string u ∧ u.size + 8 * q = n ∧ (∀ j, j < u.size → tat u j = tat s (8 * q + j)) ∧ Row wr g 124 (C4 (Gs.blk (tat s) (key a b) q)) ∧ Below g w wr) (fun sv _ => strLen sv)
 case atStart => exact ⟨0, s, rfl, by omega, fun j _ => by rw [Nat.mul_zero, Nat.zero_add], r1, b1⟩
 case round =>
  obtain ⟨q, u, rfl, hu, hT, hrow, hb⟩ := hrel
  clear r1 b1
  obtain ⟨p0, p1, p2, p3, HV⟩ : ∃ a' b' c' d', Hid (Gs.blk (tat s) (key a b) q = ⟨a', b', c', d'⟩) := ⟨_, _, _, _, rfl⟩
  rw [HV.out] at hrow
  have KT : Hid (∀ j, j < u.size → tat u j = tat s (8 * q + j)) := hT
  have K : Hid (Row wr g 124 (C4 ⟨p0, p1, p2, p3⟩)) := hrow
  clear hT hrow
  have c0 := K.out.cell 0
  have c1 := K.out.cell 1
  have c2 := K.out.cell 2
  have c3 := K.out.cell 3
  simp at c0 c1 c2 c3
  by_cases h8 : 8 ≤ u.size
  ·have h8i : (8 : Int) ≤ (u.size : Int) := by omega
   have hz8 : (u.extract 0 8).size = 8 := by simp [ByteArray.size_extract]; omega
   have HL : Hid (Gs.le (tat (u.extract 0 8)) 0 (u.extract 0 8).size = Gs.le (tat s) (8 * q) 8) := by
    show _ = _
    rw [hz8]
    refine Gs.le_congr 8 (fun j hj => ?_)
    rw [Nat.zero_add, tat_cut u 0 8 j h8 (by omega), Nat.zero_add, KT.out j (by omega)]
   have KL : Hid _ := fun w0 => long_any (u.extract 0 8) w0 (by omega)
   rw [HL.out] at KL
   clear hz8
   go_wp2_with fail
   go_still_tail 4, Tryz.mixed
   still_call (KL.out _)
   refine wpStill_nil ?_
   rw [fold_drew]
   obtain ⟨w2, HW2⟩ : ∃ x, Hid (x = wr.drew) := ⟨_, rfl⟩
   rw [← HW2.out]
   have K2 : Hid (Row w2 g 124 (C4 ⟨p0, p1, p2, p3⟩)) := by show Row _ _ _ _; rw [HW2.out]; exact K.out.drew
   have B2 : Hid (Below g w w2) := by show Below _ _ _; rw [HW2.out]; exact hb.drew
   clear c0 c1 c2 c3
   have KU : Hid _ := Gs.U_nat (Gs.le_lt64 (tat_lt s) (8 * q) 8 (by omega))
   go_wp2_with fail
   rw [KU.out]
   refine (in_any ⟨p0, p1, p2, p3⟩ _ _).mono ?_
   rintro e w3 ⟨rfl, hb3⟩
   have HS : Hid (Gs.blk (tat s) (key a b) (q + 1) = inn ⟨p0, p1, p2, p3⟩ (BitVec.ofNat 64 (Gs.le (tat s) (8 * q) 8))) := by show _ = _; rw [Gs.blk, HV.out]
   generalize inn ⟨p0, p1, p2, p3⟩ (BitVec.ofNat 64 (Gs.le (tat s) (8 * q) 8)) = m at HS ⊢
   obtain ⟨m0, m1, m2, m3⟩ := m
   have hgl := K2.out.lt
   have K3 : Hid (Row w3 g 124 (C4 ⟨p0, p1, p2, p3⟩)) := K2.out.below hb3 hgl
   have B3 : Hid (Below g w w3) := B2.out.trans (hb3.mono (by omega))
   have c0 := K3.out.cell 0
   have c1 := K3.out.cell 1
   have c2 := K3.out.cell 2
   have c3 := K3.out.cell 3
   have f0 := K3.out.free 0
   have f1 := K3.out.free 1
   have f2 := K3.out.free 2
   have f3 := K3.out.free 3
   simp at c0 c1 c2 c3
   have KN : Hid (Row ((((w3.setCell ⟨g, 0, none⟩ (.int .u64 (U m0))).setCell ⟨g, 1, none⟩ (.int .u64 (U m1))).setCell ⟨g, 2, none⟩ (.int .u64 (U m2))).setCell ⟨g, 3, none⟩ (.int .u64 (U m3))) g 124 (C4 (Gs.blk (tat s) (key a b) (q + 1)))) := by
    show Row _ _ _ _
    rw [HS.out]
    exact (((K3.out.set 0 _).set 1 _).set 2 _).set 3 _
   have BN : Hid (Below g w ((((w3.setCell ⟨g, 0, none⟩ (.int .u64 (U m0))).setCell ⟨g, 1, none⟩ (.int .u64 (U m1))).setCell ⟨g, 2, none⟩ (.int .u64 (U m2))).setCell ⟨g, 3, none⟩ (.int .u64 (U m3)))) := Below.setCell (Below.setCell (Below.setCell (Below.setCell B3.out (by simp) _) (by simp) _) (by simp) _) (by simp) _
   have hz : (u.extract 8 u.size).size = u.size - 8 := by simp [ByteArray.size_extract]
   have HZ : Hid ((u.extract 8 u.size).size = u.size - 8) := hz
   have HT : Hid (∀ j, j < (u.extract 8 u.size).size → tat (u.extract 8 u.size) j = tat s (8 * (q + 1) + j)) := by
    intro j hj
    rw [hz] at hj
    rw [tat_cut u 8 u.size j (Nat.le_refl _) (by omega), KT.out (8 + j) (by omega)]
    congr 1
    omega
   clear hz
   go_wp2
   go_roundw
   case rel => exact ⟨q + 1, _, rfl, by have := HZ.out; omega, HT.out, KN.out, BN.out⟩
   case measure => have := HZ.out; simp only [strLen]; omega
  ·have h8i : ¬ (8 : Int) ≤ (u.size : Int) := by omega
   have eq8 : n / 8 = q := by omega
   have em8 : n % 8 = u.size := by omega
   have HL : Hid (Gs.le (tat u) 0 u.size = Gs.le (tat s) (8 * (n / 8)) (n % 8)) := by
    show _ = _
    rw [eq8, em8]
    refine Gs.le_congr u.size (fun j hj => ?_)
    rw [Nat.zero_add, KT.out j hj]
   have KL : Hid _ := fun w0 => long_any u w0 (by omega)
   rw [HL.out] at KL
   have hLl := Gs.le_lt64 (tat_lt s) (8 * (n / 8)) (n % 8) (by omega)
   have hor : bits .or .u64 ((Gs.le (tat s) (8 * (n / 8)) (n % 8) : Nat) : Int) (IntKind.u64.wrap ((n : Int) % 256 * 72057594037927936)) = U (Gs.lst (tat s) n) := by
    rw [show (n : Int) % 256 = ((n % 256 : Nat) : Int) by omega, Gs.U_nat (n := n % 256) (by omega), show (72057594037927936 : Int) = 2 ^ 56 by decide, Gs.U_shl, Gs.U_nat hLl, Gs.U_or]
    rfl
   have HV2 : Hid (Gs.sip (tat s) a b s.size = all4 (fin (inn ⟨p0, p1, p2, p3⟩ (Gs.lst (tat s) n)))) := by
    show _ = _
    rw [← HV.out, hn, ← eq8]
    rfl
   clear hLl eq8 em8
   generalize Gs.le (tat s) (8 * (n / 8)) (n % 8) = X at KL hor
   generalize Gs.lst (tat s) n = Y at hor HV2
   go_wp2_with fail
   go_still_tail 6, Tryz.mixed
   still_call (KL.out _)
   repeat still_step
   refine wpStill_nil ?_
   rw [fold_drew]
   obtain ⟨w2, HW2⟩ : ∃ x, Hid (x = wr.drew) := ⟨_, rfl⟩
   rw [← HW2.out]
   have K2 : Hid (Row w2 g 124 (C4 ⟨p0, p1, p2, p3⟩)) := by show Row _ _ _ _; rw [HW2.out]; exact K.out.drew
   have B2 : Hid (Below g w w2) := by show Below _ _ _; rw [HW2.out]; exact hb.drew
   clear c0 c1 c2 c3
   go_wp2_with fail
   refine (in_any ⟨p0, p1, p2, p3⟩ Y _).mono ?_
   rintro e w3 ⟨rfl, hb3⟩
   generalize inn ⟨p0, p1, p2, p3⟩ Y = m at HV2 ⊢
   obtain ⟨m0, m1, m2, m3⟩ := m
   have hgl := K2.out.lt
   have K3 : Hid (Row w3 g 124 (C4 ⟨p0, p1, p2, p3⟩)) := K2.out.below hb3 hgl
   have B3 : Hid (Below g w w3) := B2.out.trans (hb3.mono (by omega))
   have c0 := K3.out.cell 0
   have c1 := K3.out.cell 1
   have c2 := K3.out.cell 2
   have c3 := K3.out.cell 3
   have f0 := K3.out.free 0
   have f1 := K3.out.free 1
   have f2 := K3.out.free 2
   have f3 := K3.out.free 3
   simp at c0 c1 c2 c3
   obtain ⟨w4, HW4⟩ : ∃ x, Hid (x = ((((w3.setCell ⟨g, 0, none⟩ (.int .u64 (U m0))).setCell ⟨g, 1, none⟩ (.int .u64 (U m1))).setCell ⟨g, 2, none⟩ (.int .u64 (U m2))).setCell ⟨g, 3, none⟩ (.int .u64 (U m3))).setCell ⟨g, 2, none⟩ (.int .u64 (U (m2 ^^^ 255#64)))) := ⟨_, rfl⟩
   have K4 : Hid (Row w4 g 124 (C4 ⟨m0, m1, m2 ^^^ 255#64, m3⟩)) := by
    show Row _ _ _ _
    rw [HW4.out]
    exact ((((K3.out.set 0 _).set 1 _).set 2 _).set 3 _).set 2 _
   have B4 : Hid (Below g w w4) := by
    show Below _ _ _
    rw [HW4.out]
    exact Below.setCell (Below.setCell (Below.setCell (Below.setCell (Below.setCell B3.out (by simp) _) (by simp) _) (by simp) _) (by simp) _) (by simp) _
   go_wp2_with (rw [← HW4.out]; refine wpList_load_row (by rfl) 124 _ (by rfl) g (by rfl) 124 _ (0, 0) _ K4.out Tryz.underlying124 (by rfl) Tryz.info4 ?_; clear c0 c1 c2 c3 f0 f1 f2 f3)
   refine (sMix_any _ _).mono ?_
   rintro e w5 ⟨rfl, hb5⟩
   go_wp2_with fail
   refine (sMix_any _ _).mono ?_
   rintro e w6 ⟨rfl, hb6⟩
   go_wp2_with fail
   refine (sMix_any _ _).mono ?_
   rintro e w7 ⟨rfl, hb7⟩
   go_wp2_with fail
   refine (sMix_any _ _).mono ?_
   rintro e w8 ⟨rfl, hb8⟩
   have hb48 : Below w4.heap.size w4 w8 := below2 (below2 hb5 hb6) (below2 hb7 hb8)
   have hgl4 := K4.out.lt
   have K8 : Hid (Row w8 g 124 (C4 ⟨m0, m1, m2 ^^^ 255#64, m3⟩)) := K4.out.below hb48 hgl4
   have B8 : Hid (Below g w w8) := B4.out.trans (hb48.mono (by omega))
   clear hb5 hb6 hb7 hb8 hb48 hb3
   have HF : Hid (Gs.sip (tat s) a b s.size = all4 (mx (mx (mx (mx ⟨m0, m1, m2 ^^^ 255#64, m3⟩))))) := HV2.out
   generalize mx (mx (mx (mx ⟨m0, m1, m2 ^^^ 255#64, m3⟩))) = f at HF ⊢
   obtain ⟨k0, k1, k2, k3⟩ := f
   have c0 := K8.out.cell 0
   have c1 := K8.out.cell 1
   have c2 := K8.out.cell 2
   have c3 := K8.out.cell 3
   have f0 := K8.out.free 0
   have f1 := K8.out.free 1
   have f2 := K8.out.free 2
   have f3 := K8.out.free 3
   simp at c0 c1 c2 c3
   go_wp2
   go_ret
   refine ⟨?_, ?_⟩
   ·rw [← hn, HF.out]; rfl
   ·rw [← HG.out]; exact Below.setCell (Below.setCell (Below.setCell (Below.setCell B8.out (by simp) _) (by simp) _) (by simp) _) (by simp) _
end Go.Proofs.YtaenoiffamgcfaaGreatDoor
