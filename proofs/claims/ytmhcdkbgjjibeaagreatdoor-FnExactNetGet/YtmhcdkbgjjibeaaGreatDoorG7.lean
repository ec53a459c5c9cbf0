import Derived.Test.YtmhcdkbgjjibeaaGreatDoorG5
import Derived.Test.YtmhcdkbgjjibeaaGreatDoorG2
import Derived.Deep.Matrix
import Derived.Shelf.Abstract
set_option maxHeartbeats 8000000
set_option maxRecDepth 2000
open Go.ChangeShapes Go.WideShapes Go.ChangeAt Go.RowKit
namespace Go.Proofs.YtmhcdkbgjjibeaaGreatDoor
end Go.Proofs.YtmhcdkbgjjibeaaGreatDoor
namespace Go.Proofs.YtmhcdkbgjjibeaaGreatDoor
open Gs (U rolI V4 mx inn key all4 fin)
theorem long_any (s : ByteArray) (w : World) (hs : s.size ≤ 8) :
  Calls Tryz.prog 194 #[.string s] w fun e w' => e = .returned (.int .u64 ((Gs.le (tat s) 0 s.size : Nat) : Int)) ∧ w' = w := by
 obtain ⟨n, hn⟩ : ∃ n, s.size = n := ⟨_, rfl⟩
 go_enter Tryz.func194, Tryz.ntmps194
 go_wp2
 go_loop [3, 4] (fun x i => ∃ j : Nat, j ≤ n ∧ i = .int .i64 ((n : Int) - 1 - j) ∧ x = .int .u64 ((Gs.le (tat s) (n - j) j : Nat) : Int)) (fun _ i => (intOf i + 1).toNat)
 case atStart => exact ⟨0, Nat.zero_le _, by simp, rfl⟩
 case round =>
  obtain ⟨j, hj, rfl, rfl⟩ := hrel
  by_cases hlt : j < n
  ·obtain ⟨o, HO⟩ : ∃ o : Nat, Hid (n = o + j + 1) := ⟨n - j - 1, by show _ = _; omega⟩
   have eo : (n : Int) - 1 - (j : Int) = (o : Int) := by have := HO.out; omega
   have hos : o < s.size := by have := HO.out; omega
   have HX : Hid (s[o].toNat = tat s o) := (tat_in s o hos).symm
   have hl1 := Gs.le_lt64 (tat_lt s) o (j + 1) (by omega)
   have HF : Hid (Gs.le (tat s) o (j + 1) = Gs.le (tat s) (o + 1) j * 256 + s[o].toNat) := by show _ = _; rw [HX.out, Gs.le_first]
   rw [show n - j = o + 1 by have := HO.out; omega, eo]
   rw [HF.out] at hl1
   generalize Gs.le (tat s) (o + 1) j = X at hl1 HF ⊢
   have hnj : n - (j + 1) = o := by have := HO.out; omega
   have HN : Hid (n - (j + 1) = o) := hnj
   clear hnj
   go_wp2
   refine ⟨⟨j + 1, by omega, ?_, ?_⟩, ?_⟩
   ·have := HO.out
    congr 1
    omega
   ·rw [HN.out, HF.out]
    simp
   ·simp [intOf]
  ·obtain rfl : j = n := by omega
   go_wp2
   go_ret
   exact ⟨rfl, rfl⟩
theorem in_any (v : V4) (x : BitVec 64) (w : World) : Calls Tryz.prog 193 #[A4 v, .int .u64 (U x)] w fun e w' => e = .returned (A4 (inn v x)) ∧ Below w.heap.size w w' := by
 obtain ⟨a, b, c, d⟩ := v
 have hxor := Gs.U_xor
 obtain ⟨B, HB⟩ : ∃ B, Hid (B = w.heap.size) := ⟨_, rfl⟩
 obtain ⟨w1, HW1⟩ : ∃ w1, Hid (w1 = (w.alloc (.cells (C4 ⟨a, b, c, d ^^^ x⟩) 259)).alloc (.cells #[.int .u64 0, .int .u64 0, .int .u64 0, .int .u64 0] 259)) := ⟨_, rfl⟩
 have K1 : Hid (Own4 w w1 B ⟨a, b, c, d ^^^ x⟩) := by
  show Own4 _ _ _ _
  rw [HW1.out, HB.out]
  refine ⟨(Row.new w _ _).alloc _, ⟨⟨0, 0, 0, 0⟩, ?_⟩, ((Below.refl _ _).alloc (Nat.le_refl _) _).alloc (by simp) _⟩
  have := Row.new (w.alloc (.cells (C4 ⟨a, b, c, d ^^^ x⟩) 259)) #[.int .u64 0, .int .u64 0, .int .u64 0, .int .u64 0] 259
  rw [show (w.alloc (.cells (C4 ⟨a, b, c, d ^^^ x⟩) 259)).heap.size = w.heap.size + 1 by simp] at this
  exact this
 have hs1 : w1.heap.size = B + 2 := by rw [HW1.out, HB.out]; simp
 have R1 : Hid _ := K1.out.row
 go_enter Tryz.func193, Tryz.ntmps193
 go_wp2_with (rw [← HW1.out, ← HB.out]; refine wpList_load_row (by rfl) 259 _ (by rfl) B (by rfl) 259 _ (0, 0) _ R1.out Tryz.underlying259 (by rfl) Tryz.info4 ?_)
 refine (sMix_any _ _).mono ?_
 rintro e w2 ⟨rfl, hb2⟩
 go_wp2_with fail
 refine (sMix_any _ _).mono ?_
 rintro e w3 ⟨rfl, hb3⟩
 have HI : Hid (inn ⟨a, b, c, d⟩ x = ⟨(mx (mx ⟨a, b, c, d ^^^ x⟩)).a ^^^ x, (mx (mx ⟨a, b, c, d ^^^ x⟩)).b, (mx (mx ⟨a, b, c, d ^^^ x⟩)).c, (mx (mx ⟨a, b, c, d ^^^ x⟩)).d⟩) := rfl
 generalize mx (mx ⟨a, b, c, d ^^^ x⟩) = m at HI ⊢
 obtain ⟨p, q, s, t⟩ := m
 have hb13 : Below w1.heap.size w1 w3 := below2 hb2 hb3
 obtain ⟨z, hz⟩ := K1.out.res
 have R3 : Hid (Row w3 B 259 (C4 ⟨a, b, c, d ^^^ x⟩)) := Row.below R1.out hb13 (by omega)
 have Z3 : Hid (Row w3 (B + 1) 259 (C4 z)) := hz.below hb13 (by omega)
 have B3 : Hid (Below B w w3) := K1.out.bel.trans (hb13.mono (by omega))
 clear hz hb13 hb2 hb3
 have c0 := R3.out.cell 0
 have c1 := R3.out.cell 1
 have c2 := R3.out.cell 2
 have c3 := R3.out.cell 3
 have f0 := R3.out.free 0
 have f1 := R3.out.free 1
 have f2 := R3.out.free 2
 have f3 := R3.out.free 3
 simp at c0 c1 c2 c3
 obtain ⟨w4, HW4⟩ : ∃ x', Hid (x' = ((((w3.setCell ⟨B, 0, none⟩ (.int .u64 (U p))).setCell ⟨B, 1, none⟩ (.int .u64 (U q))).setCell ⟨B, 2, none⟩ (.int .u64 (U s))).setCell ⟨B, 3, none⟩ (.int .u64 (U t))).setCell ⟨B, 0, none⟩ (.int .u64 (U (p ^^^ x)))) := ⟨_, rfl⟩
 have R4 : Hid (Row w4 B 259 (C4 ⟨p ^^^ x, q, s, t⟩)) := by
  show Row _ _ _ _
  rw [HW4.out]
  exact ((((R3.out.set 0 _).set 1 _).set 2 _).set 3 _).set 0 _
 have Z4 : Hid (Row w4 (B + 1) 259 (C4 z)) := by
  show Row _ _ _ _
  rw [HW4.out]
  exact ((((Z3.out.other 0 _ (by omega)).other 1 _ (by omega)).other 2 _ (by omega)).other 3 _ (by omega)).other 0 _ (by omega)
 have B4 : Hid (Below B w w4) := by
  show Below _ _ _
  rw [HW4.out]
  exact Below.setCell (Below.setCell (Below.setCell (Below.setCell (Below.setCell B3.out (by simp) _) (by simp) _) (by simp) _) (by simp) _) (by simp) _
 have ZR : Hid (Row ((((w4.setCell ⟨B + 1, 0, none⟩ (.int .u64 (U (p ^^^ x)))).setCell ⟨B + 1, 1, none⟩ (.int .u64 (U q))).setCell ⟨B + 1, 2, none⟩ (.int .u64 (U s))).setCell ⟨B + 1, 3, none⟩ (.int .u64 (U t))) (B + 1) 259 (C4 (inn ⟨a, b, c, d⟩ x))) := by
  show Row _ _ _ _
  rw [HI.out]
  exact (((Z4.out.set 0 _).set 1 _).set 2 _).set 3 _
 have q0 := Z4.out.cell 0
 have q1 := Z4.out.cell 1
 have q2 := Z4.out.cell 2
 have q3 := Z4.out.cell 3
 have g0 := Z4.out.free 0
 have g1 := Z4.out.free 1
 have g2 := Z4.out.free 2
 have g3 := Z4.out.free 3
 simp at q0 q1 q2 q3
 go_wp2_with (rw [← HW4.out]; refine wpList_load_row (by rfl) 259 _ (by rfl) B (by rfl) 259 _ (0, 0) _ R4.out Tryz.underlying259 (by rfl) Tryz.info4 ?_; clear c0 c1 c2 c3 f0 f1 f2 f3)
 clear q0 q1 q2 q3 g0 g1 g2 g3
 refine bodyPost_ret (v := A4 (inn ⟨a, b, c, d⟩ x)) (results_cell_row Tryz.results193 _ _ (B + 1) 259 _ (0, 0) _ (by simp) ZR.out Tryz.underlying259 (by rfl) Tryz.info4) rfl ⟨rfl, ?_⟩
 rw [← HB.out]
 exact Below.setCell (Below.setCell (Below.setCell (Below.setCell B4.out (by simp) _) (by simp) _) (by simp) _) (by simp) _
theorem tat_cut (u : ByteArray) (a b j : Nat) (hb : b ≤ u.size) (hj : a + j < b) : tat (u.extract a b) j = tat u (a + j) := by
 have hs : (u.extract a b).size = b - a := by simp [ByteArray.size_extract]; omega
 rw [tat_in _ j (by omega), tat_in _ (a + j) (by omega)]
 congr 1
 simp [ByteArray.getElem_extract]
def strLen : Value → Nat
 | .string s => s.size
 | _ => 0
theorem sSip_wide (a b : BitVec 64) (s : ByteArray) (w : World) (hs : s.size ≤ 4194304) :
  Calls Tryz.prog 183 #[.int .u64 (U a), .int .u64 (U b), .string s] w fun e w' => e = .returned (.int .u64 (U (Gs.sip (tat s) a b s.size))) ∧ Below w.heap.size w w' := by
 obtain ⟨n, hn⟩ : ∃ n, s.size = n := ⟨_, rfl⟩
 have hxor := Gs.U_xor
 have h255 : ∀ x : BitVec 64, bits .xor .u64 (U x) 255 = U (x ^^^ 255#64) := fun x => Gs.U_xor x 255#64
 have h1 : bits .xor .u64 (U a) 8317987319222330741 = U (a ^^^ 8317987319222330741#64) := Gs.U_xor a 8317987319222330741#64
 have h2 : bits .xor .u64 (U b) 7237128888997146477 = U (b ^^^ 7237128888997146477#64) := Gs.U_xor b 7237128888997146477#64
 have h3 : bits .xor .u64 (U a) 7816392313619706465 = U (a ^^^ 7816392313619706465#64) := Gs.U_xor a 7816392313619706465#64
 have h4 : bits .xor .u64 (U b) 8387220255154660723 = U (b ^^^ 8387220255154660723#64) := Gs.U_xor b 8387220255154660723#64
 obtain ⟨g, HG⟩ : ∃ g, Hid (g = w.heap.size) := ⟨_, rfl⟩
 obtain ⟨w1, HW1⟩ : ∃ x, Hid (x = w.alloc (.cells #[.int .u64 (U (a ^^^ 8317987319222330741#64)), .int .u64 (U (b ^^^ 7237128888997146477#64)), .int .u64 (U (a ^^^ 7816392313619706465#64)), .int .u64 (U (b ^^^ 8387220255154660723#64))] 259)) := ⟨_, rfl⟩
 have r1 : Row w1 g 259 (C4 (key a b)) := by rw [HW1.out, HG.out]; exact Row.new w _ _
 have b1 : Below g w w1 := by rw [HW1.out, HG.out]; exact (Below.refl _ _).alloc (Nat.le_refl _) _
 have hsz : IntKind.u64.wrap ((n : Int) % 256) = ((n % 256 : Nat) : Int) := by rw [IntKind.wrap_u64]; omega
 go_enter Tryz.func183, Tryz.ntmps183
 go_wp2
 rw [← HW1.out, ← HG.out]
 clear h1 h2 h3 h4
 go_loopw [2] (fun sv wr => ∃ (q : Nat) (u : ByteArray), sv = .string u ∧ u.size + 8 * q = n ∧ (∀ j, j < u.size → tat u j = tat s (8 * q + j)) ∧ Row wr g 259 (C4 (Gs.blk (tat s) (key a b) q)) ∧ Below g w wr) (fun sv _ => strLen sv)
 case atStart => exact ⟨0, s, rfl, by omega, fun j _ => by rw [Nat.mul_zero, Nat.zero_add], r1, b1⟩
 case round =>
  obtain ⟨q, u, rfl, hu, hT, hrow, hb⟩ := hrel
  clear r1 b1
  obtain ⟨p0, p1, p2, p3, HV⟩ : ∃ a' b' c' d', Hid (Gs.blk (tat s) (key a b) q = ⟨a', b', c', d'⟩) := ⟨_, _, _, _, rfl⟩
  rw [HV.out] at hrow
  have KT : Hid (∀ j, j < u.size → tat u j = tat s (8 * q + j)) := hT
  have K : Hid (Row wr g 259 (C4 ⟨p0, p1, p2, p3⟩)) := hrow
  clear hT hrow
  have c0 := K.out.cell 0
  have c1 := K.out.cell 1
  have c2 := K.out.cell 2
  have c3 := K.out.cell 3
  simp at c0 c1 c2 c3
  by_cases h8 : 8 ≤ u.size
  ·have h8i : (8 : Int) ≤ (u.size : Int) := by omega
   have hz8 : (u.extract 0 8).size = 8 := by simp [ByteArray.size_extract]; omega
   have HL : Hid (Gs.le (tat (u.extract 0 8)) 0 (u.extract 0 8).size = Gs.le (tat s) (8 * q) 8) := by
    show _ = _
    rw [hz8]
    refine Gs.le_congr 8 (fun j hj => ?_)
    rw [Nat.zero_add, tat_cut u 0 8 j h8 (by omega), Nat.zero_add, KT.out j (by omega)]
   have KL : Hid _ := fun w0 => long_any (u.extract 0 8) w0 (by omega)
   rw [HL.out] at KL
   clear hz8
   go_wp2_with fail
   go_still_tail 4, Tryz.mixed
   still_call (KL.out _)
   refine wpStill_nil ?_
   rw [fold_drew]
   obtain ⟨w2, HW2⟩ : ∃ x, Hid (x = wr.drew) := ⟨_, rfl⟩
   rw [← HW2.out]
   have K2 : Hid (Row w2 g 259 (C4 ⟨p0, p1, p2, p3⟩)) := by show Row _ _ _ _; rw [HW2.out]; exact K.out.drew
   have B2 : Hid (Below g w w2) := by show Below _ _ _; rw [HW2.out]; exact hb.drew
   clear c0 c1 c2 c3
   have KU : Hid _ := Gs.U_nat (Gs.le_lt64 (tat_lt s) (8 * q) 8 (by omega))
   go_wp2_with fail
   rw [KU.out]
   refine (in_any ⟨p0, p1, p2, p3⟩ _ _).mono ?_
   rintro e w3 ⟨rfl, hb3⟩
   have HS : Hid (Gs.blk (tat s) (key a b) (q + 1) = inn ⟨p0, p1, p2, p3⟩ (BitVec.ofNat 64 (Gs.le (tat s) (8 * q) 8))) := by show _ = _; rw [Gs.blk, HV.out]
   generalize inn ⟨p0, p1, p2, p3⟩ (BitVec.ofNat 64 (Gs.le (tat s) (8 * q) 8)) = m at HS ⊢
   obtain ⟨m0, m1, m2, m3⟩ := m
   have hgl := K2.out.lt
   have K3 : Hid (Row w3 g 259 (C4 ⟨p0, p1, p2, p3⟩)) := K2.out.below hb3 hgl
   have B3 : Hid (Below g w w3) := B2.out.trans (hb3.mono (by omega))
   have c0 := K3.out.cell 0
   have c1 := K3.out.cell 1
   have c2 := K3.out.cell 2
   have c3 := K3.out.cell 3
   have f0 := K3.out.free 0
   have f1 := K3.out.free 1
   have f2 := K3.out.free 2
   have f3 := K3.out.free 3
   simp at c0 c1 c2 c3
   have KN : Hid (Row ((((w3.setCell ⟨g, 0, none⟩ (.int .u64 (U m0))).setCell ⟨g, 1, none⟩ (.int .u64 (U m1))).setCell ⟨g, 2, none⟩ (.int .u64 (U m2))).setCell ⟨g, 3, none⟩ (.int .u64 (U m3))) g 259 (C4 (Gs.blk (tat s) (key a b) (q + 1)))) := by
    show Row _ _ _ _
    rw [HS.out]
    exact (((K3.out.set 0 _).set 1 _).set 2 _).set 3 _
   have BN : Hid (Below g w ((((w3.setCell ⟨g, 0, none⟩ (.int .u64 (U m0))).setCell ⟨g, 1, none⟩ (.int .u64 (U m1))).setCell ⟨g, 2, none⟩ (.int .u64 (U m2))).setCell ⟨g, 3, none⟩ (.int .u64 (U m3)))) := Below.setCell (Below.setCell (Below.setCell (Below.setCell B3.out (by simp) _) (by simp) _) (by simp) _) (by simp) _
   have hz : (u.extract 8 u.size).size = u.size - 8 := by simp [ByteArray.size_extract]
   have HZ : Hid ((u.extract 8 u.size).size = u.size - 8) := hz
   have HT : Hid (∀ j, j < (u.extract 8 u.size).size → tat (u.extract 8 u.size) j = tat s (8 * (q + 1) + j)) := by
    intro j hj
    rw [hz] at hj
    rw [tat_cut u 8 u.size j (Nat.le_refl _) (by omega), KT.out (8 + j) (by omega)]
    congr 1
    omega
   clear hz
   go_wp2
   go_roundw
   case rel => exact ⟨q + 1, _, rfl, by have := HZ.out; omega, HT.out, KN.out, BN.out⟩
   case measure => have := HZ.out; simp only [strLen]; omega
  ·have h8i : ¬ (8 : Int) ≤ (u.size : Int) := by omega
   have eq8 : n / 8 = q := by omega
   have em8 : n % 8 = u.size := by omega
   have HL : Hid (Gs.le (tat u) 0 u.size = Gs.le (tat s) (8 * (n / 8)) (n % 8)) := by
    show _ = _
    rw [eq8, em8]
    refine Gs.le_congr u.size (fun j hj => ?_)
    rw [Nat.zero_add, KT.out j hj]
   have KL : Hid _ := fun w0 => long_any u w0 (by omega)
   rw [HL.out] at KL
   have hLl := Gs.le_lt64 (tat_lt s) (8 * (n / 8)) (n % 8) (by omega)
   have hor : bits .or .u64 ((Gs.le (tat s) (8 * (n / 8)) (n % 8) : Nat) : Int) (IntKind.u64.wrap ((n : Int) % 256 * 72057594037927936)) = U (Gs.lst (tat s) n) := by
    rw [show (n : Int) % 256 = ((n % 256 : Nat) : Int) by omega, Gs.U_nat (n := n % 256) (by omega), show (72057594037927936 : Int) = 2 ^ 56 by decide, Gs.U_shl, Gs.U_nat hLl, Gs.U_or]
    rfl
   have HV2 : Hid (Gs.sip (tat s) a b s.size = all4 (fin (inn ⟨p0, p1, p2, p3⟩ (Gs.lst (tat s) n)))) := by
    show _ = _
    rw [← HV.out, hn, ← eq8]
    rfl
   clear hLl eq8 em8
   generalize Gs.le (tat s) (8 * (n / 8)) (n % 8) = X at KL hor
   generalize Gs.lst (tat s) n = Y at hor HV2
   go_wp2_with fail
   go_still_tail 6, Tryz.mixed
   still_call (KL.out _)
   repeat still_step
   refine wpStill_nil ?_
   rw [fold_drew]
   obtain ⟨w2, HW2⟩ : ∃ x, Hid (x = wr.drew) := ⟨_, rfl⟩
   rw [← HW2.out]
   have K2 : Hid (Row w2 g 259 (C4 ⟨p0, p1, p2, p3⟩)) := by show Row _ _ _ _; rw [HW2.out]; exact K.out.drew
   have B2 : Hid (Below g w w2) := by show Below _ _ _; rw [HW2.out]; exact hb.drew
   clear c0 c1 c2 c3
   go_wp2_with fail
   refine (in_any ⟨p0, p1, p2, p3⟩ Y _).mono ?_
   rintro e w3 ⟨rfl, hb3⟩
   generalize inn ⟨p0, p1, p2, p3⟩ Y = m at HV2 ⊢
   obtain ⟨m0, m1, m2, m3⟩ := m
   have hgl := K2.out.lt
   have K3 : Hid (Row w3 g 259 (C4 ⟨p0, p1, p2, p3⟩)) := K2.out.below hb3 hgl
   have B3 : Hid (Below g w w3) := B2.out.trans (hb3.mono (by omega))
   have c0 := K3.out.cell 0
   have c1 := K3.out.cell 1
   have c2 := K3.out.cell 2
   have c3 := K3.out.cell 3
   have f0 := K3.out.free 0
   have f1 := K3.out.free 1
   have f2 := K3.out.free 2
   have f3 := K3.out.free 3
   simp at c0 c1 c2 c3
   obtain ⟨w4, HW4⟩ : ∃ x, Hid (x = ((((w3.setCell ⟨g, 0, none⟩ (.int .u64 (U m0))).setCell ⟨g, 1, none⟩ (.int .u64 (U m1))).setCell ⟨g, 2, none⟩ (.int .u64 (U m2))).setCell ⟨g, 3, none⟩ (.int .u64 (U m3))).setCell ⟨g, 2, none⟩ (.int .u64 (U (m2 ^^^ 255#64)))) := ⟨_, rfl⟩
   have K4 : Hid (Row w4 g 259 (C4 ⟨m0, m1, m2 ^^^ 255#64, m3⟩)) := by
    show Row _ _ _ _
    rw [HW4.out]
    exact ((((K3.out.set 0 _).set 1 _).set 2 _).set 3 _).set 2 _
   have B4 : Hid (Below g w w4) := by
    show Below _ _ _
    rw [HW4.out]
    exact Below.setCell (Below.setCell (Below.setCell (Below.setCell (Below.setCell B3.out (by simp) _) (by simp) _) (by simp) _) (by simp) _) (by simp) _
   go_wp2_with (rw [← HW4.out]; refine wpList_load_row (by rfl) 259 _ (by rfl) g (by rfl) 259 _ (0, 0) _ K4.out Tryz.underlying259 (by rfl) Tryz.info4 ?_; clear c0 c1 c2 c3 f0 f1 f2 f3)
   refine (sMix_any _ _).mono ?_
   rintro e w5 ⟨rfl, hb5⟩
   go_wp2_with fail
   refine (sMix_any _ _).mono ?_
   rintro e w6 ⟨rfl, hb6⟩
   go_wp2_with fail
   refine (sMix_any _ _).mono ?_
   rintro e w7 ⟨rfl, hb7⟩
   go_wp2_with fail
   refine (sMix_any _ _).mono ?_
   rintro e w8 ⟨rfl, hb8⟩
   have hb48 : Below w4.heap.size w4 w8 := below2 (below2 hb5 hb6) (below2 hb7 hb8)
   have hgl4 := K4.out.lt
   have K8 : Hid (Row w8 g 259 (C4 ⟨m0, m1, m2 ^^^ 255#64, m3⟩)) := K4.out.below hb48 hgl4
   have B8 : Hid (Below g w w8) := B4.out.trans (hb48.mono (by omega))
   clear hb5 hb6 hb7 hb8 hb48 hb3
   have HF : Hid (Gs.sip (tat s) a b s.size = all4 (mx (mx (mx (mx ⟨m0, m1, m2 ^^^ 255#64, m3⟩))))) := HV2.out
   generalize mx (mx (mx (mx ⟨m0, m1, m2 ^^^ 255#64, m3⟩))) = f at HF ⊢
   obtain ⟨k0, k1, k2, k3⟩ := f
   have c0 := K8.out.cell 0
   have c1 := K8.out.cell 1
   have c2 := K8.out.cell 2
   have c3 := K8.out.cell 3
   have f0 := K8.out.free 0
   have f1 := K8.out.free 1
   have f2 := K8.out.free 2
   have f3 := K8.out.free 3
   simp at c0 c1 c2 c3
   go_wp2
   go_ret
   refine ⟨?_, ?_⟩
   ·rw [← hn, HF.out]; rfl
   ·rw [← HG.out]; exact Below.setCell (Below.setCell (Below.setCell (Below.setCell B8.out (by simp) _) (by simp) _) (by simp) _) (by simp) _
end Go.Proofs.YtmhcdkbgjjibeaaGreatDoor
namespace Go.Proofs.YtmhcdkbgjjibeaaGreatDoor
def marks (k n : Nat) : List Int := eI (fun i => k + i) n
theorem owns_cap {w : World} {B E g n cap : Nat} {xs : List Value} (h : w.ownsRow B E 1 (.slice (some ⟨g, 0, none⟩) n cap) n xs) : n ≤ cap := by
 rcases h.2 with h' | ⟨g', cap', cur, e, _, _, hn, _⟩
 ·cases h'.1
 ·cases e; exact hn
def pf (F : Nat → Nat → Nat) (N : Nat → Nat) : Nat → (Nat → Nat) × Nat
 | 0 => (Gp.one, 1)
 | i + 1 => (Gp.cv (pf F N i).1 (F i) (pf F N i).2, Gp.tl (Gp.cv (pf F N i).1 (F i) (pf F N i).2) ((pf F N i).2 + N i))
def OwnR (w : World) (B g n cap : Nat) (f : Nat → Nat) : Prop := w.ownsRow B 3 1 (.slice (some ⟨g, 0, none⟩) n cap) n ((eI f n).map (Value.int .i64))
theorem OwnR.lt {w : World} {B g n cap : Nat} {f : Nat → Nat} (h : OwnR w B g n cap f) : B ≤ g ∧ g < w.heap.size := World.ownsRow.lt h g rfl
theorem eI_snoc (f : Nat → Nat) (k : Nat) : eI f (k + 1) = eI f k ++ [((f k : Nat) : Int)] := by
 unfold eI
 rw [List.range_succ, List.map_append]
 rfl
theorem OwnR.snoc {w : World} {B g k cap : Nat} {f : Nat → Nat} (h : w.ownsRow B 3 1 (.slice (some ⟨g, 0, none⟩) (k + 1) cap) (k + 1) ((eI f k).map (Value.int .i64) ++ [.int .i64 ((f k : Nat) : Int)])) : OwnR w B g (k + 1) cap f := by
 unfold OwnR
 rw [eI_snoc, List.map_append]
 exact h
theorem sBytes_any (a : Option Addr) (n cap : Nat) (zs : List Int) (w : World) (h : IntsAt w a n zs) (hn : n ≤ 1048576) :
  Calls Tryz.prog 167 #[.slice a n cap] w fun e w' => e = .returned (.bool (zs.all isB)) ∧ w' = w := by
 have HL : Hid (zs.length = n) := h.1
 go_enter Tryz.func167, Tryz.ntmps167
 go_wp2
 go_loop [3] (fun p => ∃ k : Nat, k ≤ n ∧ p = .int .i64 k ∧ Hid (∀ j : Nat, j < k → isB (zs.getD j 0) = true)) (fun p => n - (intOf p).toNat)
 case atStart => exact ⟨0, by omega, rfl, fun j hj => absurd hj (by omega)⟩
 case round =>
  obtain ⟨k, hk, rfl, HB⟩ := hrel
  by_cases hlt : k < n
  ·obtain ⟨b, off, rfl, hc⟩ := h.2 k hlt
   have hltI : (k : Int) < (n : Int) := by omega
   clear h
   obtain ⟨x, HX⟩ : ∃ x, Hid (x = zs.getD k 0) := ⟨_, rfl⟩
   rw [← HX.out] at hc
   by_cases hx : isB x = true
   ·go_wp2_with (go_at_call 121; refine (sIs_any _ _).mono ?_; rintro e w' ⟨rfl, rfl⟩)
    go_round
    case rel => exact ⟨k + 1, by omega, by go_num, fun j hj => by
     by_cases e : j = k
     ·subst e; rw [← HX.out]; exact hx
     ·exact HB.out j (by omega)⟩
    case measure => simp [intOf] <;> omega
   ·have hx' : isB x = false := by simpa using hx
    have HR : Hid (zs.all isB = false) := by
     show _ = _
     rw [List.all_eq_false]
     refine ⟨x, ?_, hx⟩
     rw [HX.out]
     have := HL.out
     have hl : k < zs.length := by omega
     simp [List.getD, hl]
    go_wp2_with (go_at_call 121; refine (sIs_any _ _).mono ?_; rintro e w' ⟨rfl, rfl⟩)
    go_ret
    exact ⟨ret_bool HR.out.symm, rfl⟩
  ·have HR : Hid (zs.all isB = true) := by
    show _ = _
    rw [List.all_eq_true]
    intro x hx
    obtain ⟨i, hi, rfl⟩ := List.mem_iff_getElem.1 hx
    have := HL.out
    have h2 := HB.out i (by omega)
    simpa [List.getD, hi] using h2
   clear h
   go_wp2
   go_ret
   exact ⟨ret_bool HR.out.symm, rfl⟩
theorem lit0 (w : World) (f : Nat → Nat) : OwnR (w.alloc (.cells #[] 3)) w.heap.size w.heap.size 0 0 f :=
 World.ownsRow_lit w #[] 0 (Nat.le_refl _) (by unfold maxLen; omega) rfl
def zI (z : Nat → Int) (n : Nat) : List Int := (List.range n).map z
theorem zI_len (z : Nat → Int) (n : Nat) : (zI z n).length = n := by simp [zI]
theorem zI_get (z : Nat → Int) (n i : Nat) (h : i < n) : (zI z n)[i]? = some (z i) := by simp [zI, h]
theorem zI_getD (z : Nat → Int) (n i : Nat) (h : i < n) : (zI z n).getD i 0 = z i := by simp [List.getD, zI_get z n i h]
theorem zI_congr {f g : Nat → Int} {n : Nat} (h : ∀ i, i < n → f i = g i) : zI f n = zI g n := by
 unfold zI
 apply List.map_congr_left
 intro i hi
 rw [h i (List.mem_range.1 hi)]
theorem zI_set (z : Nat → Int) (n k : Nat) (v : Int) (d : IntKind) (h : k < n) : ((zI z n).map (Value.int d)).set k (.int d v) = (zI (fun i => if i = k then v else z i) n).map (Value.int d) := by
 apply List.ext_getElem?
 intro i
 rw [List.getElem?_set]
 by_cases hi : i < n
 ·by_cases e : k = i
  ·subst e
   simp [zI, h]
  ·simp [zI, hi, e, Ne.symm e]
 ·by_cases e : k = i
  ·omega
  ·rw [if_neg e, List.getElem?_eq_none (by simp [zI_len]; omega), List.getElem?_eq_none (by simp [zI_len]; omega)]
theorem eI_zI (f : Nat → Nat) (n : Nat) : eI f n = zI (fun i => ((f i : Nat) : Int)) n := rfl
theorem zI_const {z : Nat → Int} (n : Nat) (v : Int) (h : ∀ i, i < n → z i = v) : zI z n = List.replicate n v := by
 apply List.ext_getElem?
 intro i
 by_cases hi : i < n
 ·rw [zI_get z n i hi, h i hi]
  simp [hi]
 ·rw [List.getElem?_eq_none (by rw [zI_len]; omega), List.getElem?_eq_none (by simp; omega)]
def hds (A : Nat → Option Addr) (L C : Nat → Nat) (n : Nat) : List Value := (List.range n).map fun i => Value.slice (A i) (L i) (C i)
theorem hds_len (A : Nat → Option Addr) (L C : Nat → Nat) (n : Nat) : (hds A L C n).length = n := by simp [hds]
theorem hds_get (A : Nat → Option Addr) (L C : Nat → Nat) (n i : Nat) (h : i < n) : (hds A L C n)[i]? = some (Value.slice (A i) (L i) (C i)) := by simp [hds, h]
theorem hds_set (A : Nat → Option Addr) (L C : Nat → Nat) (n k : Nat) (x : Option Addr) (l c : Nat) : (hds A L C n).set k (.slice x l c) = hds (fun i => if i = k then x else A i) (fun i => if i = k then l else L i) (fun i => if i = k then c else C i) n := by
 apply List.ext_getElem?
 intro i
 rw [List.getElem?_set]
 by_cases hi : i < n
 ·rw [hds_get (fun i => if i = k then x else A i) _ _ _ _ hi]
  by_cases e : k = i
  ·subst e
   rw [if_pos rfl, if_pos (by rw [hds_len]; exact hi)]
   simp
  ·rw [if_neg e, hds_get _ _ _ _ _ hi]
   simp [Ne.symm e]
 ·rw [List.getElem?_eq_none (l := hds (fun i => if i = k then x else A i) _ _ _) (by rw [hds_len]; omega)]
  by_cases e : k = i
  ·subst e
   rw [if_pos rfl, if_neg (by rw [hds_len]; omega)]
  ·rw [if_neg e, List.getElem?_eq_none (by rw [hds_len]; omega)]
theorem hds_congr {A A' : Nat → Option Addr} {L L' C C' : Nat → Nat} {n : Nat} (h : ∀ i, i < n → A i = A' i ∧ L i = L' i ∧ C i = C' i) : hds A L C n = hds A' L' C' n := by
 unfold hds
 apply List.map_congr_left
 intro i hi
 obtain ⟨h1, h2, h3⟩ := h i (List.mem_range.1 hi)
 rw [h1, h2, h3]
theorem hds_snoc (A : Nat → Option Addr) (L C : Nat → Nat) (n : Nat) : hds A L C (n + 1) = hds A L C n ++ [Value.slice (A n) (L n) (C n)] := by
 unfold hds
 rw [List.range_succ, List.map_append]
 rfl
structure MatZ (k : IntKind) (T TT : Nat) (w : World) (B E : Nat) (a : Option Addr) (n cap : Nat) (A : Nat → Option Addr) (L C : Nat → Nat) (Z : Nat → Nat → Int) : Prop where
 out : w.ownsRow B TT 1 (.slice a n cap) n (hds A L C n)
 oE : ∀ x, a = some x → x.block < E
 row : ∀ i, i < n → w.ownsRow B T 1 (.slice (A i) (L i) (C i)) (L i) ((zI (Z i) (L i)).map (Value.int k))
 rE : ∀ i, i < n → ∀ x, A i = some x → x.block < E
 apart : ∀ i j, i < n → j < n → i ≠ j → ∀ x y, A i = some x → A j = some y → x.block ≠ y.block
section
variable {k : IntKind} {T TT : Nat} {w w' : World} {B E : Nat} {a : Option Addr} {n cap : Nat} {A : Nat → Option Addr} {L C : Nat → Nat} {Z : Nat → Nat → Int}
theorem MatZ.addr (h : MatZ k T TT w B E a n cap A L C Z) (hn : 0 < n) : ∃ G, a = some ⟨G, 0, none⟩ := by
 rcases own_shape h.out with ⟨_, h0, _⟩ | ⟨g, _, e, _⟩
 ·omega
 ·exact ⟨g, e⟩
theorem MatZ.hdr {G i : Nat} (h : MatZ k T TT w B E (some ⟨G, 0, none⟩) n cap A L C Z) (hi : i < n) : w.cell? ⟨G, i, none⟩ = some (.slice (A i) (L i) (C i)) := by
 rw [h.out.cellAt i (by omega), hds_get _ _ _ _ _ hi]
theorem MatZ.elt {g i j : Nat} (h : MatZ k T TT w B E a n cap A L C Z) (hi : i < n) (hA : A i = some ⟨g, 0, none⟩) (hj : j < L i) : w.cell? ⟨g, j, none⟩ = some (.int k (Z i j)) := by
 have hr := h.row i hi
 rw [hA] at hr
 rw [hr.cellAt j (by omega)]
 simp [zI, hj]
theorem MatZ.free {g i : Nat} (h : MatZ k T TT w B E a n cap A L C Z) (hi : i < n) (hA : A i = some ⟨g, 0, none⟩) (j : Nat) : w.frozen? ⟨g, j, none⟩ = false := by
 have hr := h.row i hi
 rw [hA] at hr
 exact hr.frozenAt j
theorem MatZ.ofree {G : Nat} (h : MatZ k T TT w B E (some ⟨G, 0, none⟩) n cap A L C Z) (j : Nat) : w.frozen? ⟨G, j, none⟩ = false := h.out.frozenAt j
theorem MatZ.olt {G : Nat} (h : MatZ k T TT w B E (some ⟨G, 0, none⟩) n cap A L C Z) : B ≤ G ∧ G < w.heap.size := h.out.lt G rfl
theorem MatZ.glt {g i : Nat} (h : MatZ k T TT w B E a n cap A L C Z) (hi : i < n) (hA : A i = some ⟨g, 0, none⟩) : B ≤ g ∧ g < w.heap.size := by
 have hr := h.row i hi
 rw [hA] at hr
 exact hr.lt g rfl
theorem MatZ.off (hT : T ≠ TT) {g G i : Nat} (h : MatZ k T TT w B E (some ⟨G, 0, none⟩) n cap A L C Z) (hi : i < n) (hA : A i = some ⟨g, 0, none⟩) : g ≠ G := by
 intro e
 subst e
 have hr := h.row i hi
 rw [hA] at hr
 rcases own_shape hr with ⟨h', _⟩ | ⟨g1, c1, e1, _, hg1, _⟩
 ·cases h'
 ·rcases own_shape h.out with ⟨h', _⟩ | ⟨g2, c2, e2, _, hg2, _⟩
  ·cases h'
  ·cases e1
   cases e2
   rw [hg1] at hg2
   cases hg2
   exact hT rfl
theorem MatZ.below (h : MatZ k T TT w B E a n cap A L C Z) (hb : Below w.heap.size w w') : MatZ k T TT w' B E a n cap A L C Z :=
 ⟨ownsRow_below h.out hb, h.oE, fun i hi => ownsRow_below (h.row i hi) hb, h.rE, h.apart⟩
theorem MatZ.wide {E' : Nat} (h : MatZ k T TT w B E a n cap A L C Z) (hE : E ≤ E') : MatZ k T TT w B E' a n cap A L C Z :=
 ⟨h.out, fun x e => Nat.lt_of_lt_of_le (h.oE x e) hE, h.row, fun i hi x e => Nat.lt_of_lt_of_le (h.rE i hi x e) hE, h.apart⟩
theorem MatZ.tight (h : MatZ k T TT w B E a n cap A L C Z) : MatZ k T TT w B w.heap.size a n cap A L C Z := by
 refine ⟨h.out, fun x e => ?_, h.row, fun i hi x e => ?_, h.apart⟩
 ·subst e; exact (h.out.lt x.block rfl).2
 ·have hr := h.row i hi
  rw [e] at hr
  exact (hr.lt x.block rfl).2
theorem MatZ.congr {A' : Nat → Option Addr} {L' C' : Nat → Nat} {Z' : Nat → Nat → Int} (h : MatZ k T TT w B E a n cap A L C Z) (e : ∀ i, i < n → A i = A' i ∧ L i = L' i ∧ C i = C' i ∧ ∀ j, j < L i → Z i j = Z' i j) : MatZ k T TT w B E a n cap A' L' C' Z' := by
 refine ⟨?_, h.oE, fun i hi => ?_, fun i hi x ex => ?_, fun i j hi hj hij x y ex ey => ?_⟩
 ·rw [← hds_congr (fun i hi => ⟨(e i hi).1, (e i hi).2.1, (e i hi).2.2.1⟩)]; exact h.out
 ·obtain ⟨e1, e2, e3, e4⟩ := e i hi
  have hr := h.row i hi
  rw [zI_congr e4, e1, e2, e3] at hr
  exact hr
 ·exact h.rE i hi x ((e i hi).1.trans ex)
 ·exact h.apart i j hi hj hij x y ((e i hi).1.trans ex) ((e j hj).1.trans ey)
theorem MatZ.kept {b : Nat} (h : MatZ k T TT w B E a n cap A L C Z) (hg : w.grownBy w' (some b)) (ho : ∀ x, a = some x → x.block ≠ b) (hr : ∀ i, i < n → ∀ x, A i = some x → x.block ≠ b) : MatZ k T TT w' B E a n cap A L C Z :=
 ⟨own_kept h.out hg ho, h.oE, fun i hi => own_kept (h.row i hi) hg (hr i hi), h.rE, h.apart⟩
theorem MatZ.keptE {b : Nat} (h : MatZ k T TT w B E a n cap A L C Z) (hg : w.grownBy w' (some b)) (hb : E ≤ b) : MatZ k T TT w' B E a n cap A L C Z :=
 h.kept hg (fun x e => by have := h.oE x e; omega) (fun i hi x e => by have := h.rE i hi x e; omega)
theorem MatZ.setElt (hT : T ≠ TT) {g i j : Nat} (h : MatZ k T TT w B E a n cap A L C Z) (hi : i < n) (hA : A i = some ⟨g, 0, none⟩) (hj : j < L i) (v : Int) :
  MatZ k T TT (w.setCell ⟨g, j, none⟩ (.int k v)) B E a n cap A L C (fun p q => if p = i ∧ q = j then v else Z p q) ∧ w.grownBy (w.setCell ⟨g, j, none⟩ (.int k v)) (some g) := by
 have hg := grown_set w g j (.int k v)
 obtain ⟨G, rfl⟩ := h.addr (by omega)
 refine ⟨⟨own_kept h.out hg (fun x e => by cases e; exact (h.off hT hi hA).symm), h.oE, fun p hp => ?_, h.rE, h.apart⟩, hg⟩
 by_cases e : p = i
 ·subst e
  have hr := h.row p hp
  rw [hA] at hr ⊢
  have h1 := (hr.stored j (.int k v)).1
  rw [zI_set _ _ _ _ _ hj] at h1
  rw [zI_congr (g := fun q => if q = j then v else Z p q) (fun q _ => by simp)]
  exact h1
 ·have hr := own_kept (h.row p hp) hg (fun x ex => h.apart p i hp hi e x _ ex hA)
  rw [zI_congr (f := fun q => if p = i ∧ q = j then v else Z p q) (g := Z p) (fun q _ => by simp [e])]
  exact hr
theorem MatZ.setRow (hT : T ≠ TT) {G g i l c : Nat} {z : Nat → Int} (h : MatZ k T TT w B E (some ⟨G, 0, none⟩) n cap A L C Z) (hi : i < n)
  (hrow : w.ownsRow B T 1 (.slice (some ⟨g, 0, none⟩) l c) l ((zI z l).map (Value.int k))) (hE : g < E) (hap : ∀ j, j < n → j ≠ i → ∀ x, A j = some x → x.block ≠ g) :
  MatZ k T TT (w.setCell ⟨G, i, none⟩ (.slice (some ⟨g, 0, none⟩) l c)) B E (some ⟨G, 0, none⟩) n cap (fun j => if j = i then some ⟨g, 0, none⟩ else A j) (fun j => if j = i then l else L j) (fun j => if j = i then c else C j) (fun j => if j = i then z else Z j) ∧ w.grownBy (w.setCell ⟨G, i, none⟩ (.slice (some ⟨g, 0, none⟩) l c)) (some G) := by
 have hg := grown_set w G i (.slice (some ⟨g, 0, none⟩) l c)
 have hgG : g ≠ G := by
  intro e
  subst e
  rcases own_shape hrow with ⟨h', _⟩ | ⟨g1, c1, e1, _, hg1, _⟩
  ·cases h'
  ·rcases own_shape h.out with ⟨h', _⟩ | ⟨g2, c2, e2, _, hg2, _⟩
   ·cases h'
   ·cases e1
    cases e2
    rw [hg1] at hg2
    cases hg2
    exact hT rfl
 refine ⟨⟨?_, h.oE, fun p hp => ?_, fun p hp x ex => ?_, fun p q hp hq hpq x y ex ey => ?_⟩, hg⟩
 ·have h1 := (h.out.stored i (.slice (some ⟨g, 0, none⟩) l c)).1
  rw [hds_set] at h1
  exact h1
 ·by_cases e : p = i
  ·subst e
   simp only [if_pos]
   exact own_kept hrow hg (fun x ex => by cases ex; exact hgG)
  ·simp only [if_neg e]
   refine own_kept (h.row p hp) hg (fun x ex => ?_)
   have hr := h.row p hp
   rw [ex] at hr
   rcases own_shape hr with ⟨h', _⟩ | ⟨g1, c1, e1, _⟩
   ·cases h'
   ·cases e1
    exact h.off hT hp ex
 ·by_cases e : p = i
  ·simp only [if_pos e] at ex; cases ex; exact hE
  ·simp only [if_neg e] at ex; exact h.rE p hp x ex
 ·by_cases e : p = i
  ·simp only [if_pos e] at ex
   cases ex
   simp only [if_neg (show q ≠ i by omega)] at ey
   exact (hap q hq (by omega) y ey).symm
  ·simp only [if_neg e] at ex
   by_cases e2 : q = i
   ·simp only [if_pos e2] at ey
    cases ey
    exact hap p hp e x ex
   ·simp only [if_neg e2] at ey
    exact h.apart p q hp hq hpq x y ex ey
theorem MatZ.push (hT : T ≠ TT) {E' : Nat} {a' : Option Addr} {cap' l c : Nat} {x : Option Addr} {z : Nat → Int} (h : MatZ k T TT w B E a n cap A L C Z)
  (hg : w.grownBy w' (Value.slice a n cap).ownBlock) (hout : w'.ownsRow B TT 1 (.slice a' (n + 1) cap') (n + 1) (hds A L C n ++ [Value.slice x l c])) (hsz : w'.heap.size ≤ E') (hE : E ≤ E')
  (hrow : w.ownsRow B T 1 (.slice x l c) l ((zI z l).map (Value.int k))) (hap : ∀ j, j < n → ∀ y u, A j = some y → x = some u → y.block ≠ u.block) :
  MatZ k T TT w' B E' a' (n + 1) cap' (fun j => if j = n then x else A j) (fun j => if j = n then l else L j) (fun j => if j = n then c else C j) (fun j => if j = n then z else Z j) := by
 have hrk : ∀ (u : Option Addr) (l c : Nat) (xs : List Value), w.ownsRow B T 1 (.slice u l c) l xs → w'.ownsRow B T 1 (.slice u l c) l xs := by
  intro u l c xs hr
  refine World.ownsRow.kept hr hg ?_
  rcases own_shape hr with ⟨rfl, _⟩ | ⟨g1, c1, rfl, _, hg1, _⟩
  ·exact .inl rfl
  ·right
   rcases own_shape h.out with ⟨rfl, _⟩ | ⟨g2, c2, rfl, _, hg2, _⟩
   ·simp [Value.ownBlock]
   ·simp only [Value.ownBlock, ne_eq, Option.some.injEq]
    intro e
    subst e
    rw [hg1] at hg2
    cases hg2
    exact hT rfl
 refine ⟨?_, fun y e => ?_, fun i hi => ?_, fun i hi y e => ?_, fun i j hi hj hij y u e1 e2 => ?_⟩
 ·rw [hds_snoc]
  simp only [if_pos]
  rw [← hds_congr (A := A) (L := L) (C := C) (fun i hi => by simp [show i ≠ n by omega])]
  exact hout
 ·subst e; exact Nat.lt_of_lt_of_le (hout.lt y.block rfl).2 hsz
 ·by_cases e : i = n
  ·subst e; simp only [if_pos]; exact hrk _ _ _ _ hrow
  ·simp only [if_neg e]; exact hrk _ _ _ _ (h.row i (by omega))
 ·by_cases e' : i = n
  ·subst e'
   simp only [if_pos] at e
   subst e
   exact Nat.lt_of_lt_of_le (Nat.lt_of_lt_of_le (hrow.lt y.block rfl).2 hg.size) hsz
  ·simp only [if_neg e'] at e
   exact Nat.lt_of_lt_of_le (h.rE i (by omega) y e) hE
 ·by_cases e : i = n
  ·subst e
   simp only [if_pos] at e1
   simp only [if_neg (show j ≠ i by omega)] at e2
   exact (hap j (by omega) u y e2 e1).symm
  ·simp only [if_neg e] at e1
   by_cases e' : j = n
   ·subst e'
    simp only [if_pos] at e2
    exact hap i (by omega) y u e1 e2
   ·simp only [if_neg e'] at e2
    exact h.apart i j (by omega) (by omega) hij y u e1 e2
theorem MatZ.nil (k : IntKind) (T TT : Nat) (w : World) (B E : Nat) (A : Nat → Option Addr) (L C : Nat → Nat) (Z : Nat → Nat → Int) : MatZ k T TT w B E none 0 0 A L C Z :=
 ⟨World.ownsRow_nil w B _ _, fun x e => (by cases e), fun i hi => by omega, fun i hi => by omega, fun i j hi => by omega⟩
theorem MatZ.zero {G c : Nat} (k : IntKind) (T TT : Nat) (w : World) (B E : Nat) (A : Nat → Option Addr) (L C : Nat → Nat) (Z : Nat → Nat → Int) (h : w.ownsRow B TT 1 (.slice (some ⟨G, 0, none⟩) 0 c) 0 []) (hE : G < E) : MatZ k T TT w B E (some ⟨G, 0, none⟩) 0 c A L C Z :=
 ⟨h, fun x e => by cases e; exact hE, fun i hi => by omega, fun i hi => by omega, fun i j hi => by omega⟩
theorem MatZ.made {G : Nat} (h : w.ownsRow B TT 1 (.slice (some ⟨G, 0, none⟩) n n) n (List.replicate n (Value.slice none 0 0))) (hE : G < E) (Z : Nat → Nat → Int) : MatZ k T TT w B E (some ⟨G, 0, none⟩) n n (fun _ => none) (fun _ => 0) (fun _ => 0) Z := by
 refine ⟨?_, fun x e => by cases e; exact hE, fun i _ => World.ownsRow_nil w B _ _, fun i _ x e => (by cases e), fun i j _ _ _ x y e => (by cases e)⟩
 have e : hds (fun _ => none) (fun _ => 0) (fun _ => 0) n = List.replicate n (Value.slice none 0 0) := by
  apply List.ext_getElem?
  intro i
  by_cases hi : i < n
  ·rw [hds_get _ _ _ _ _ hi]; simp [hi]
  ·rw [List.getElem?_eq_none (by rw [hds_len]; omega), List.getElem?_eq_none (by simp; omega)]
 rw [e]
 exact h
end
def MatAt (w : World) (a : Option Addr) (n : Nat) (L : Nat → Nat) (Z : Nat → Nat → Int) : Prop :=
 ∀ i, i < n → ∃ b off ai ci, a = some ⟨b, off, none⟩ ∧ w.cell? ⟨b, off + i, none⟩ = some (.slice ai (L i) ci) ∧ IntsAt w ai (L i) (zI (Z i) (L i))
theorem MatAt.below {w w' : World} {a : Option Addr} {n : Nat} {L : Nat → Nat} {Z : Nat → Nat → Int} (h : MatAt w a n L Z) (hb : Below w.heap.size w w') : MatAt w' a n L Z := fun i hi => by
 obtain ⟨b, off, ai, ci, e, hc, hr⟩ := h i hi
 exact ⟨b, off, ai, ci, e, (hb.cell (p := ⟨b, off + i, none⟩) (block_lt_of_cell hc)).trans hc, hr.below hb⟩
theorem own_ints {w : World} {B T n c : Nat} {a : Option Addr} {z : Nat → Int} (h : w.ownsRow B T 1 (.slice a n c) n ((zI z n).map (Value.int .i64))) : IntsAt w a n (zI z n) := by
 rcases own_shape h with ⟨rfl, rfl, rfl⟩ | ⟨g, cur, rfl, _⟩
 ·exact ⟨zI_len _ _, fun i hi => by omega⟩
 ·exact ownsRow.ints h
theorem MatZ.at {T TT : Nat} {w : World} {B E : Nat} {a : Option Addr} {n cap : Nat} {A : Nat → Option Addr} {L C : Nat → Nat} {Z : Nat → Nat → Int} (h : MatZ .i64 T TT w B E a n cap A L C Z) : MatAt w a n L Z := by
 intro i hi
 obtain ⟨G, rfl⟩ := h.addr (by omega)
 exact ⟨G, 0, A i, C i, rfl, by rw [Nat.zero_add]; exact h.hdr hi, own_ints (h.row i hi)⟩
end Go.Proofs.YtmhcdkbgjjibeaaGreatDoor
namespace Go.Proofs.YtmhcdkbgjjibeaaGreatDoor
open Go.Proofs.YtmhcdkbgjjibeaaGreatDoor.Gp (m m_lt m_comm m_assoc m_xor xor_m m_zero zero_m m_one one_m m_nat m_ne xor_self xor_left xor_can xor_eq xor_lt)
def txt (f : Nat → Nat) (l : Nat) : ByteArray := strOfNums (eI f l)
theorem txt_size (f : Nat → Nat) (l : Nat) : (txt f l).size = l := by unfold txt; rw [strOfNums_size, eI_len]
theorem tat_txt {f : Nat → Nat} {l k : Nat} (hk : k < l) (hf : f k < 256) : tat (txt f l) k = f k := by
 unfold txt
 rw [tat_str, eI_getD _ _ _ hk, Int.toNat_natCast, Nat.mod_eq_of_lt hf]
theorem txt_congr {f g : Nat → Nat} {l : Nat} (h : ∀ i, i < l → f i = g i) : txt f l = txt g l := by unfold txt; rw [eI_congr h]
theorem txt_of (s : ByteArray) : txt (tat s) s.size = s := by
 refine str_ext (txt_size _ _) fun k => ?_
 by_cases hk : k < s.size
 ·exact tat_txt hk (tat_lt s k)
 ·rw [tat_out s k hk, tat_out _ k (by rw [txt_size]; exact hk)]
theorem txt_is {s : ByteArray} {f : Nat → Nat} {l : Nat} (hs : s.size = l) (h : ∀ k, k < l → tat s k = f k) : s = txt f l := by
 rw [← txt_of s, hs]
 exact txt_congr h
def blen (s k : Nat) : Nat := (s + 2 + k - 1) / k
theorem blen_ge {s k : Nat} (hk : 1 ≤ k) : s + 2 ≤ k * blen s k := by
 unfold blen
 have := Nat.div_add_mod (s + 2 + k - 1) k
 have h2 := Nat.mod_lt (s + 2 + k - 1) (show k > 0 by omega)
 omega
theorem blen_pos {s k : Nat} (hk : 1 ≤ k) : 1 ≤ blen s k := by
 have := blen_ge (s := s) hk
 rcases Nat.eq_zero_or_pos (blen s k) with h | h
 ·rw [h] at this; omega
 ·exact h
theorem blen_le {s k : Nat} (hk : 1 ≤ k) : blen s k ≤ s + 2 := by
 unfold blen
 rw [Nat.div_le_iff_le_mul_add_pred (by omega)]
 have : s + 2 ≤ k * (s + 2) := Nat.le_mul_of_pos_left _ (by omega)
 omega
def frm (s : ByteArray) (q : Nat) : Nat := if q = 0 then s.size / 256 else if q = 1 then s.size % 256 else tat s (q - 2)
theorem frm_lt {s : ByteArray} (hs : s.size < 65536) (q : Nat) : frm s q < 256 := by
 unfold frm
 split
 ·omega
 ·split
  ·omega
  ·exact tat_lt _ _
theorem frm_out {s : ByteArray} {q : Nat} (h : s.size + 2 ≤ q) : frm s q = 0 := by
 unfold frm
 rw [if_neg (by omega), if_neg (by omega), tat_out _ _ (by omega)]
def pcs (W : Nat → Nat) (l i p : Nat) : Nat := W (i * l + p)
def whl (T : Nat → Nat → Nat) (l q : Nat) : Nat := T (q / l) (q % l)
theorem whl_at {T : Nat → Nat → Nat} {l i p : Nat} (hp : p < l) : whl T l (i * l + p) = T i p := by
 unfold whl
 have h1 : (i * l + p) / l = i := by rw [Nat.mul_comm, Nat.mul_add_div (by omega), Nat.div_eq_of_lt hp, Nat.add_zero]
 have h2 : (i * l + p) % l = p := by rw [Nat.mul_comm, Nat.mul_add_mod, Nat.mod_eq_of_lt hp]
 rw [h1, h2]
theorem whl_byt {T : Nat → Nat → Nat} (h : Gm.Byt T) (l q : Nat) : whl T l q < 256 := h _ _
def bod (k : Nat) (F T : Nat → Nat → Nat) (l i : Nat) : ByteArray := txt (Gm.mp k F T i) l
theorem bod_size (k : Nat) (F T : Nat → Nat → Nat) (l i : Nat) : (bod k F T l i).size = l := txt_size _ _
theorem tat_bod {k : Nat} {F T : Nat → Nat → Nat} {l i p : Nat} (hp : p < l) : tat (bod k F T l i) p = Gm.mp k F T i p := tat_txt hp (Gm.mp_byt _ _ _ _ _)
theorem bod_congr {k : Nat} {F F' T T' : Nat → Nat → Nat} {l i : Nat} (h1 : ∀ t, t < k → F i t = F' i t) (h2 : ∀ t p, t < k → p < l → T t p = T' t p) : bod k F T l i = bod k F' T' l i :=
 txt_congr (fun p hp => Gm.mp_congr h1 (fun t ht => h2 t p ht hp))
def enc (s : ByteArray) (k i p : Nat) : Nat := pcs (frm s) (blen s.size k) i p
theorem bod_first {k : Nat} {T : Nat → Nat → Nat} (hT : Gm.Byt T) {i p : Nat} (hi : i < k) : Gm.mp k (Gm.sprd k) T i p = T i p :=
 Gm.mp_row hi (hT i p) (fun t _ => by unfold Gm.sprd; rw [if_pos hi])
theorem iv_dl {n i j : Nat} {A : Nat → Nat → Nat} (hA : Gm.Byt A) (h : ∀ i j, i < n → j < n → A i j = Gm.dl i j) (hr : Gm.rk A n n = n) (hi : i < n) (hj : j < n) : Gm.iv A n i j = Gm.dl i j := by
 have h1 := (Gm.iv_both hA hr i j hi hj).1
 rw [Gm.mp_congr (A' := Gm.dl) (B' := Gm.iv A n) (fun t ht => h i t hi ht) (fun _ _ => rfl), Gm.mp_dl hi (Gm.iv_byt hA n i j)] at h1
 exact h1
def tells (W : Nat → Nat) (N k : Nat) : Prop := 2 ≤ N ∧ W 0 * 256 + W 1 ≤ 2000 ∧ N = k * blen (W 0 * 256 + W 1) k ∧ ∀ q, W 0 * 256 + W 1 + 2 ≤ q → q < N → W q = 0
def told (W : Nat → Nat) : ByteArray := txt (fun q => W (q + 2)) (W 0 * 256 + W 1)
theorem frm_told {W : Nat → Nat} {N k : Nat} (hW : ∀ q, W q < 256) (h : tells W N k) {q : Nat} (hq : q < N) : frm (told W) q = W q := by
 obtain ⟨_, h2, h3, h4⟩ := h
 have hs : (told W).size = W 0 * 256 + W 1 := txt_size _ _
 have hw0 := hW 0
 have hw1 := hW 1
 unfold frm
 by_cases e0 : q = 0
 ·subst e0
  rw [if_pos rfl, hs]
  omega
 ·rw [if_neg e0]
  by_cases e1 : q = 1
  ·subst e1
   rw [if_pos rfl, hs]
   omega
  ·rw [if_neg e1]
   by_cases e2 : q < W 0 * 256 + W 1 + 2
   ·unfold told
    rw [tat_txt (f := fun q => W (q + 2)) (by omega) (hW _)]
    show W (q - 2 + 2) = W q
    rw [show q - 2 + 2 = q by omega]
   ·have hno : ¬ q - 2 < W 0 * 256 + W 1 := by clear h3 h4 hs; omega
    have hge : W 0 * 256 + W 1 + 2 ≤ q := Nat.le_of_not_lt e2
    rw [tat_out (told W) (q - 2) (by rw [hs]; exact hno), h4 q hge hq]
theorem tells_iff {W : Nat → Nat} {l k : Nat} (hW : ∀ q, W q < 256) (hk : 1 ≤ k) (h0 : 2 ≤ k * l) (h1 : W 0 * 256 + W 1 ≤ 2000) :
  tells W (k * l) k ↔ (blen (W 0 * 256 + W 1) k = l ∧ ∀ q, q < k * l → frm (told W) q = W q) := by
 constructor
 ·intro h
  refine ⟨?_, fun q hq => frm_told hW h hq⟩
  have := h.2.2.1
  exact (Nat.eq_of_mul_eq_mul_left (by omega) this).symm
 ·rintro ⟨h3, h4⟩
  refine ⟨h0, h1, by rw [h3], fun q hq hq2 => ?_⟩
  rw [← h4 q hq2]
  exact frm_out (by unfold told; rw [txt_size]; omega)
end Go.Proofs.YtmhcdkbgjjibeaaGreatDoor
namespace Go.Proofs.YtmhcdkbgjjibeaaGreatDoor
theorem Tryz.infoInts : (Tryz.prog.info? 23).map (fun i => (i.zero, i.size, i.bytes)) = some (some (.slice none 0 0), 1, 24) := by kernel_rfl
abbrev MatI (w : World) (B E : Nat) (a : Option Addr) (n cap : Nat) (A : Nat → Option Addr) (L C : Nat → Nat) (Z : Nat → Nat → Int) : Prop := MatZ .i64 3 23 w B E a n cap A L C Z
theorem tiNe : (3 : Nat) ≠ 23 := by decide
theorem Tryz.infoElems : (Tryz.prog.info? 220).map (fun i => (i.zero, i.size, i.bytes)) = some (some (.slice none 0 0), 1, 24) := by kernel_rfl
abbrev MatU (w : World) (B E : Nat) (a : Option Addr) (n cap : Nat) (A : Nat → Option Addr) (L C : Nat → Nat) (Z : Nat → Nat → Int) : Prop := MatZ .u8 174 220 w B E a n cap A L C Z
theorem teNe : (174 : Nat) ≠ 220 := by decide
def side (n : Int) : Bool := decide (1 ≤ n ∧ n ≤ 16)
theorem side_nat (n : Nat) : side (n : Int) = decide (1 ≤ n ∧ n ≤ 16) := by
 unfold side
 congr 1
 simp only [eq_iff_iff]
 omega
theorem isSide_any (n : Int) (w : World) : Calls Tryz.prog 152 #[.int .i64 n] w fun e w' => e = .returned (.bool (side n)) ∧ w' = w := by
 go_enter Tryz.func152, Tryz.ntmps152
 go_wp2
 ·go_ret
  exact ⟨ret_bool (by simp [side, *]), rfl⟩
 ·go_ret
  exact ⟨ret_bool (by simp [side]; omega), rfl⟩
theorem unitAt_any (i j : Nat) (w : World) : Calls Tryz.prog 154 #[.int .i64 (i : Int), .int .i64 (j : Int)] w fun e w' => e = .returned (.int .u8 ((Gm.dl i j : Nat) : Int)) ∧ w' = w := by
 by_cases h : i = j
 ·subst h
  rw [Gm.dl_self]
  go_enter Tryz.func154, Tryz.ntmps154
  go_wp2
  go_ret
  exact ⟨rfl, rfl⟩
 ·have h' : ((i : Int) == (j : Int)) = false := by simp; omega
  rw [Gm.dl_ne h]
  go_enter Tryz.func154, Tryz.ntmps154
  go_wp2
  go_ret
  exact ⟨rfl, rfl⟩
def FillBy (g : Nat) (lb : Array Value) (r c : Nat) (F : Nat → Nat → Nat) (w : World) : Prop :=
 ∀ (W : World) (i j : Nat), Below w.heap.size w W → i < r → j < c → Calls Tryz.prog g (#[.int .i64 (i : Int), .int .i64 (j : Int)] ++ lb) W fun e w' => e = .returned (.int .u8 ((F i j : Nat) : Int)) ∧ Below W.heap.size W w'
theorem filled_any (g : Nat) (lb : Array Value) (eg : ∀ args w, (callFunc g args).run Tryz.prog w = .ok (.enter g args) w) (r c : Nat) (F : Nat → Nat → Nat) (w : World) (hp : FillBy g lb r c F w) (hF : ∀ i j, F i j < 256) (hr : r ≤ 1048576) (hc : c ≤ 1048576) :
  Calls Tryz.prog 148 #[.int .i64 (r : Int), .int .i64 (c : Int), .func (.func g) #[] lb] w fun e w' => e = .returned (.slice (some ⟨w.heap.size, 0, none⟩) r r) ∧ (∃ A, MatI w' w.heap.size w'.heap.size (some ⟨w.heap.size, 0, none⟩) r r A (fun _ => c) (fun _ => c) (fun i j => ((F i j : Nat) : Int))) ∧ Below w.heap.size w w' := by
 obtain ⟨i0, hi, hz0, hz1, hz2⟩ := info_parts Tryz.infoInts
 obtain ⟨j0, hj, hy0, hy1, hy2⟩ := info_parts Tryz.infoInt
 go_enter Tryz.func148, Tryz.ntmps148
 go_wp2_with (at_make; refine wpList_make_full _ rfl _ _ 126 rfl w.heap.size 23 i0 (.slice none 0 0) 1 Tryz.underlying126 hi hz0 hz1 .i64 .i64 _ _ r rfl rfl rfl rfl (by rw [hz2]; omega) (by unfold maxLen; omega) (Nat.le_refl _) ?_; intro w1 hown hgrow)
 have hb1 : Below w.heap.size w w1 := (Below.refl _ _).grown hgrow (Nat.le_refl _) (by simp)
 have hlt1 := (World.ownsRow.lt hown _ rfl).2
 have ho1 : MatI w1 w.heap.size w1.heap.size (some ⟨w.heap.size, 0, none⟩) r r (fun _ => none) (fun i => if i < 0 then c else 0) (fun i => if i < 0 then c else 0) (fun i j => ((F i j : Nat) : Int)) :=
  (MatZ.made (by simpa [Value.cells, toList_madeCells_one] using hown) hlt1 _).congr (fun i _ => ⟨rfl, by simp, by simp, fun j hj => rfl⟩)
 have KO : Hid _ := ho1
 have KB : Hid (Below w.heap.size w w1) := hb1
 clear hown hgrow hlt1 ho1 hb1 hi hz0 hz1 hz2
 go_loopw [14] (fun i wr => ∃ k A, k ≤ r ∧ i = .int .i64 ((k : Nat) : Int) ∧ MatI wr w.heap.size wr.heap.size (some ⟨w.heap.size, 0, none⟩) r r A (fun i => if i < k then c else 0) (fun i => if i < k then c else 0) (fun i j => ((F i j : Nat) : Int)) ∧ (∀ i, k ≤ i → A i = none) ∧ Below w.heap.size w wr) (fun i _ => r - (intOf i).toNat)
 case atStart => exact ⟨0, _, Nat.zero_le _, rfl, KO.out, fun _ _ => rfl, KB.out⟩
 case round =>
  obtain ⟨k, A, hk, rfl, hown, hAn, hbel⟩ := hrel
  clear KO KB
  by_cases hlt : k < r
  ·have hlti : (k : Int) < (r : Int) := by omega
   have KA : Hid _ := hAn
   have KM : Hid (MatI wr w.heap.size wr.heap.size (some ⟨w.heap.size, 0, none⟩) r r A (fun i => if i < k then c else 0) (fun i => if i < k then c else 0) (fun i j => ((F i j : Nat) : Int))) := hown
   have KB : Hid (Below w.heap.size w wr) := hbel
   have hsz := hbel.size
   have hGlt := hown.olt.2
   have hold0 := hown.hdr hlt
   have hfr0 := hown.ofree k
   simp only [Nat.lt_irrefl, if_false] at hold0
   clear hAn hown hbel
   go_wp2_with (at_make; refine wpList_make_full _ rfl _ _ 23 rfl wr.heap.size 3 j0 (.int .i64 0) 1 Tryz.underlying23 hj hy0 hy1 .i64 .i64 _ _ c rfl rfl rfl rfl (by rw [hy2]; omega) (by unfold maxLen; omega) (Nat.le_refl _) ?_; intro w2 hown2 hgrow2; have hb2 : Below wr.heap.size wr w2 := (Below.refl _ _).grown hgrow2 (Nat.le_refl _) (by simp); have hold2 := (hb2.cell (p := ⟨w.heap.size, k, none⟩) hGlt).trans hold0; have hfr2 := (World.frozen?_of_block (a := ⟨w.heap.size, k, none⟩) (hb2.block _ hGlt)).trans hfr0)
   have ho2 : w2.ownsRow wr.heap.size 3 1 (.slice (some ⟨wr.heap.size, 0, none⟩) c c) c ((zI (fun _ => 0) c).map (Value.int .i64)) := by
    rw [zI_const c 0 (fun _ _ => rfl)]
    simpa [Value.cells, toList_madeCells_one] using hown2
   have hSR := ((KM.out.below hb2).wide hb2.size).setRow tiNe hlt (own_base ho2 hsz) (World.ownsRow.lt ho2 _ rfl).2 (fun j hj _ x ex => by have := KM.out.rE j hj x ex; exact Nat.ne_of_lt this)
   obtain ⟨A', KA'⟩ : ∃ A', Hid (A' = fun i => if i = k then some ⟨wr.heap.size, 0, none⟩ else A i) := ⟨_, rfl⟩
   obtain ⟨g1, hg1⟩ : ∃ g1, wr.heap.size = g1 := ⟨_, rfl⟩
   rw [hg1] at hSR KA' ⊢
   obtain ⟨w3, hw3⟩ : ∃ w3, w2.setCell ⟨w.heap.size, k, none⟩ (.slice (some ⟨g1, 0, none⟩) c c) = w3 := ⟨_, rfl⟩
   rw [hw3] at hSR ⊢
   have hA'k : A' k = some ⟨g1, 0, none⟩ := by rw [KA'.out]; simp
   have KS : Hid (MatI w3 w.heap.size w3.heap.size (some ⟨w.heap.size, 0, none⟩) r r A' (fun i => if i < k + 1 then c else 0) (fun i => if i < k + 1 then c else 0) (fun i j => if i = k ∧ 0 ≤ j then 0 else ((F i j : Nat) : Int))) :=
    (hSR.1.wide hSR.2.size).congr (fun i _ => by
     rw [KA'.out]
     by_cases e : i = k
     ·subst e; simp
     ·by_cases e2 : i < k
      ·simp [e, e2, show i < k + 1 by omega]
      ·simp [e, e2, show ¬ i < k + 1 by omega])
   have KB2 : Hid (Below w.heap.size w w3) := by
    rw [← hw3]
    exact (below2 KB.out hb2).setCell (Nat.le_refl _) _
   clear hSR hw3 ho2 hown2 hgrow2 hb2 hold2 hfr2 hold0 hfr0 KM KB hGlt
   go_loopw [27] (fun j wr => ∃ q : Nat, q ≤ c ∧ j = .int .i64 (q : Int) ∧ MatI wr w.heap.size wr.heap.size (some ⟨w.heap.size, 0, none⟩) r r A' (fun i => if i < k + 1 then c else 0) (fun i => if i < k + 1 then c else 0) (fun i j => if i = k ∧ q ≤ j then 0 else ((F i j : Nat) : Int)) ∧ Below w.heap.size w wr) (fun j _ => c - (intOf j).toNat)
   case atStart => exact ⟨0, Nat.zero_le _, rfl, KS.out, KB2.out⟩
   case round =>
    obtain ⟨q, hq, rfl, hM, hbel⟩ := hrel
    clear KS KB2
    by_cases hqc : q < c
    ·have hqci : (q : Int) < (c : Int) := by omega
     have hhd := hM.hdr hlt
     rw [hA'k] at hhd
     simp only [Nat.lt_succ_self, if_true] at hhd
     have hel := hM.elt (j := q) hlt hA'k (by simp only [Nat.lt_succ_self, if_true]; exact hqc)
     simp only [Nat.le_refl, and_self, if_true] at hel
     have hcall := hp wr.drew k q ⟨hbel.os, hbel.tape, hbel.output, hbel.size, hbel.block⟩ hlt hqc
     have hFkq := hF k q
     have hGl := hM.olt.2
     have hgl := (hM.glt hlt hA'k).2
     have KM : Hid (MatI wr w.heap.size wr.heap.size (some ⟨w.heap.size, 0, none⟩) r r A' (fun i => if i < k + 1 then c else 0) (fun i => if i < k + 1 then c else 0) (fun i j => if i = k ∧ q ≤ j then 0 else ((F i j : Nat) : Int))) := hM
     have KP : Hid (FillBy g lb r c F w) := hp
     have KF : Hid (∀ i j, F i j < 256) := hF
     have KB : Hid (Below w.heap.size w wr) := hbel
     have hfr := hM.free hlt hA'k q
     clear hM hp hF hbel
     generalize hX : F k q = X at hcall hFkq
     have KX : Hid (F k q = X) := hX
     clear hX
     go_wp2_with fail
     go_region_with ((go_at_fn g; refine Calls.mono hcall ?_; rintro e w5 ⟨rfl, hb5'⟩; have hb5 := below_of_drew hb5'; clear hb5'; have hhd5 := (hb5.cell (p := ⟨w.heap.size, k, none⟩) hGl).trans hhd; have hel5 := (hb5.cell (p := ⟨g1, q, none⟩) hgl).trans hel; have hfr5 := (World.frozen?_of_block (a := ⟨g1, q, none⟩) (hb5.block _ hgl)).trans hfr))
     all_goals
      have hwx : IntKind.i64.wrap (X : Int) = (X : Int) := by rw [IntKind.wrap_i64]; omega
      rw [hwx]
      have hSE := ((KM.out.below hb5).wide hb5.size).setElt tiNe (j := q) hlt hA'k (by simp only [Nat.lt_succ_self, if_true]; exact hqc) (X : Int)
      have HS : Hid (MatI (w5.setCell ⟨g1, q, none⟩ (.int .i64 (X : Int))) w.heap.size (w5.setCell ⟨g1, q, none⟩ (.int .i64 (X : Int))).heap.size (some ⟨w.heap.size, 0, none⟩) r r A' (fun i => if i < k + 1 then c else 0) (fun i => if i < k + 1 then c else 0) (fun i j => if i = k ∧ q + 1 ≤ j then 0 else ((F i j : Nat) : Int))) :=
       (hSE.1.wide hSE.2.size).congr (fun i _ => ⟨rfl, rfl, rfl, fun j _ => by
        by_cases e : i = k
        ·subst e
         by_cases e2 : j = q
         ·subst e2
          rw [if_pos ⟨rfl, rfl⟩, if_neg (by omega), KX.out]
         ·rw [if_neg (by omega)]
          by_cases e3 : q ≤ j
          ·rw [if_pos ⟨rfl, e3⟩, if_pos ⟨rfl, by omega⟩]
          ·rw [if_neg (by omega), if_neg (by omega)]
        ·rw [if_neg (by omega), if_neg (by omega), if_neg (by omega)]⟩)
      have HB : Hid (Below w.heap.size w (w5.setCell ⟨g1, q, none⟩ (.int .i64 (X : Int)))) := (below2 KB.out hb5).setCell (show w.heap.size ≤ g1 by omega) _
      clear hSE hcall
      go_wp2
      go_roundw
      case rel => exact ⟨q + 1, by omega, by go_num, HS.out, HB.out⟩
      case measure => simp [intOf] <;> omega
    ·obtain rfl : q = c := by omega
     have KM : Hid (MatI wr w.heap.size wr.heap.size (some ⟨w.heap.size, 0, none⟩) r r A' (fun i => if i < k + 1 then q else 0) (fun i => if i < k + 1 then q else 0) (fun i j => if i = k ∧ q ≤ j then 0 else ((F i j : Nat) : Int))) := hM
     have KP : Hid (FillBy g lb r q F w) := hp
     clear hM hp
     go_wp2
     go_roundw
     case rel => exact ⟨k + 1, A', by omega, by go_num, KM.out.congr (fun i hi => ⟨rfl, rfl, rfl, fun j hj => by
      rw [if_neg]
      intro h
      by_cases e : i < k + 1
      ·rw [if_pos e] at hj; omega
      ·omega⟩), fun i hi => by rw [KA'.out]; simp [show i ≠ k by omega, KA.out i (by omega)], hbel⟩
     case measure => simp [intOf] <;> omega
  ·obtain rfl : k = r := by omega
   have KM : Hid _ := hown
   clear hown hAn hp
   go_wp2
   go_ret
   exact ⟨rfl, ⟨A, KM.out.congr (fun i hi => ⟨rfl, if_pos hi, if_pos hi, fun j _ => rfl⟩)⟩, hbel⟩
def OkM (n : Nat) (L : Nat → Nat) (Z : Nat → Nat → Int) : Prop := 1 ≤ n ∧ n ≤ 16 ∧ 1 ≤ L 0 ∧ L 0 ≤ 16 ∧ ∀ i, i < n → L i = L 0 ∧ ∀ j, j < L 0 → isB (Z i j) = true
def cZ (Z : Nat → Nat → Int) (i j : Nat) : Nat := (Z i j).toNat
theorem readE_z (z : Nat → Int) (n : Nat) {w : World} {B g : Nat} (h : OwnU w B g n n (coP (zI z n))) : w.ownsRow B 174 1 (.slice (some ⟨g, 0, none⟩) n n) n ((zI (fun j => (((z j).toNat : Nat) : Int)) n).map (Value.int .u8)) := by
 unfold OwnU at h
 rw [eI_zI, zI_congr (g := fun j => (((z j).toNat : Nat) : Int)) (fun j hj => by unfold coP; rw [zI_getD z n j hj])] at h
 exact h
theorem readM_yes (a : Option Addr) (n cap : Nat) (L : Nat → Nat) (Z : Nat → Nat → Int) (w : World) (h : MatAt w a n L Z) (ok : OkM n L Z) :
  Calls Tryz.prog 147 #[.slice a n cap] w fun e w' => e = .returned (.tuple #[.slice (some ⟨w.heap.size, 0, none⟩) n n, .bool true]) ∧ (∃ g : Nat → Nat, MatU w' w.heap.size w'.heap.size (some ⟨w.heap.size, 0, none⟩) n n (fun i => some ⟨g i, 0, none⟩) (fun _ => L 0) (fun _ => L 0) (fun i j => ((cZ Z i j : Nat) : Int))) ∧ Below w.heap.size w w' := by
 obtain ⟨i0, hi, hz0, hz1, hz2⟩ := info_parts Tryz.infoElems
 obtain ⟨hn1, hn2, hl1, hl2, hall⟩ := ok
 obtain ⟨b0, off0, ai0, ci0, e0, hc0, _⟩ := h 0 (by omega)
 subst e0
 rw [Nat.add_zero] at hc0
 obtain ⟨l, hl⟩ : ∃ l, L 0 = l := ⟨_, rfl⟩
 rw [hl] at hc0 hl1 hl2 hall ⊢
 have hs1 : side (n : Int) = true := by rw [side_nat]; simp; omega
 have hs2 : side (l : Int) = true := by rw [side_nat]; simp; omega
 have hn1' : (1 : Int) ≤ (n : Int) := by omega
 have hb0 := block_lt_of_cell hc0
 have KH : Hid (MatAt w (some ⟨b0, off0, none⟩) n L Z) := h
 have KA : Hid _ := hall
 clear h hall hl
 go_enter Tryz.func147, Tryz.ntmps147
 go_wp2_with (first | (go_at_call 152; refine (isSide_any _ _).mono ?_; rintro e w' ⟨rfl, hw⟩; obtain rfl := hw.symm) | (at_make; refine wpList_make_full _ rfl _ _ 217 rfl w.heap.size 220 i0 (.slice none 0 0) 1 Tryz.underlying217 hi hz0 hz1 .i64 .i64 _ _ n rfl rfl rfl rfl (by rw [hz2]; omega) (by unfold maxLen; omega) (Nat.le_refl _) ?_; intro w1 hown hgrow))
 have hb1 : Below w.heap.size w w1 := (Below.refl _ _).grown hgrow (Nat.le_refl _) (by simp)
 have hlt1 := (World.ownsRow.lt hown _ rfl).2
 have KO : Hid (MatU w1 w.heap.size w1.heap.size (some ⟨w.heap.size, 0, none⟩) n n (fun i => if i < 0 then some ⟨0, 0, none⟩ else none) (fun i => if i < 0 then l else 0) (fun i => if i < 0 then l else 0) (fun i j => ((cZ Z i j : Nat) : Int))) :=
  (MatZ.made (by simpa [Value.cells, toList_madeCells_one] using hown) hlt1 _).congr (fun i _ => ⟨by simp, by simp, by simp, fun j hj => rfl⟩)
 have KB : Hid (Below w.heap.size w w1) := hb1
 clear hown hgrow hlt1 hb1 hi hz0 hz1 hz2
 go_loopw [26] (fun i wr => ∃ (k : Nat) (g : Nat → Nat), k ≤ n ∧ i = .int .i64 ((k : Nat) : Int) ∧ MatU wr w.heap.size wr.heap.size (some ⟨w.heap.size, 0, none⟩) n n (fun i => if i < k then some ⟨g i, 0, none⟩ else none) (fun i => if i < k then l else 0) (fun i => if i < k then l else 0) (fun i j => ((cZ Z i j : Nat) : Int)) ∧ Below w.heap.size w wr) (fun i _ => n - (intOf i).toNat)
 case atStart => exact ⟨0, fun _ => 0, Nat.zero_le _, rfl, KO.out, KB.out⟩
 case round =>
  obtain ⟨k, g, hk, rfl, hown, hbel⟩ := hrel
  clear KO KB
  by_cases hlt : k < n
  ·have hlti : (k : Int) < (n : Int) := by omega
   obtain ⟨b, off, ai, ci, eb, hc, hr⟩ := KH.out.below hbel k hlt
   cases eb
   have hLk := (KA.out k hlt).1
   have hBk := (KA.out k hlt).2
   rw [hLk] at hc hr
   have hc0' := (hbel.cell (p := ⟨b0, off0, none⟩) hb0).trans hc0
   have hrd := readE_yes ai l ci (zI (Z k) l) wr hr (by omega) (fun i hi => by rw [zI_getD _ _ _ hi]; exact hBk i hi)
   have KM : Hid (MatU wr w.heap.size wr.heap.size (some ⟨w.heap.size, 0, none⟩) n n (fun i => if i < k then some ⟨g i, 0, none⟩ else none) (fun i => if i < k then l else 0) (fun i => if i < k then l else 0) (fun i j => ((cZ Z i j : Nat) : Int))) := hown
   have KR : Hid _ := hrd
   have KB : Hid (Below w.heap.size w wr) := hbel
   clear hown hrd hBk hr hLk hc0
   go_wp2_with fail
   refine Calls.mono KR.out ?_
   rintro e w2 ⟨rfl, ho2, hb2⟩
   have hM := (KM.out.below hb2).wide hb2.size
   have hold := hM.hdr hlt
   have hfr := hM.ofree k
   simp only [Nat.lt_irrefl, if_false] at hold
   have hsz := hbel.size
   have hSR := hM.setRow teNe hlt (own_base (readE_z (Z k) l ho2) hsz) (OwnU.lt ho2).2 (fun j hj _ x ex => by have := KM.out.rE j hj x ex; exact Nat.ne_of_lt this)
   have HS : Hid (MatU (w2.setCell ⟨w.heap.size, k, none⟩ (.slice (some ⟨wr.heap.size, 0, none⟩) l l)) w.heap.size (w2.setCell ⟨w.heap.size, k, none⟩ (.slice (some ⟨wr.heap.size, 0, none⟩) l l)).heap.size (some ⟨w.heap.size, 0, none⟩) n n (fun i => if i < k + 1 then some ⟨(fun i => if i = k then wr.heap.size else g i) i, 0, none⟩ else none) (fun i => if i < k + 1 then l else 0) (fun i => if i < k + 1 then l else 0) (fun i j => ((cZ Z i j : Nat) : Int))) :=
    (hSR.1.wide hSR.2.size).congr (fun i _ => by
     by_cases e : i = k
     ·subst e; simp [cZ]
     ·by_cases e2 : i < k
      ·simp [e, e2, show i < k + 1 by omega]
      ·simp [e, e2, show ¬ i < k + 1 by omega])
   have HB : Hid (Below w.heap.size w (w2.setCell ⟨w.heap.size, k, none⟩ (.slice (some ⟨wr.heap.size, 0, none⟩) l l))) := (below2 KB.out hb2).setCell (Nat.le_refl _) _
   clear hM ho2 hb2 hbel hSR KM KR
   go_wp2
   go_roundw
   case rel => exact ⟨k + 1, _, by omega, by go_num, HS.out, HB.out⟩
   case measure => simp [intOf] <;> omega
  ·obtain rfl : k = n := by omega
   have KM : Hid (MatU wr w.heap.size wr.heap.size (some ⟨w.heap.size, 0, none⟩) k k (fun i => if i < k then some ⟨g i, 0, none⟩ else none) (fun i => if i < k then l else 0) (fun i => if i < k then l else 0) (fun i j => ((cZ Z i j : Nat) : Int))) := hown
   clear hown
   go_wp2
   go_ret2
   exact ⟨rfl, ⟨g, KM.out.congr (fun i hi => ⟨if_pos hi, if_pos hi, if_pos hi, fun j _ => rfl⟩)⟩, hbel⟩
theorem OkM.not {n : Nat} {L : Nat → Nat} {Z : Nat → Nat → Int} (h : ¬ OkM n L Z) (h1 : 1 ≤ n) (h2 : n ≤ 16) (h3 : 1 ≤ L 0) (h4 : L 0 ≤ 16) : ∃ q, q < n ∧ ¬ (L q = L 0 ∧ ∀ j, j < L 0 → isB (Z q j) = true) := by
 refine Classical.byContradiction fun hno => h ⟨h1, h2, h3, h4, fun i hi => ?_⟩
 exact Classical.byContradiction fun hc => hno ⟨i, hi, hc⟩
theorem readM_no (a : Option Addr) (n cap : Nat) (L : Nat → Nat) (Z : Nat → Nat → Int) (w : World) (h : MatAt w a n L Z) (hL : ∀ i, i < n → L i ≤ 1048576) (ok : ¬ OkM n L Z) :
  Calls Tryz.prog 147 #[.slice a n cap] w fun e w' => e = .returned (.tuple #[.slice none 0 0, .bool false]) ∧ Below w.heap.size w w' := by
 obtain ⟨i0, hi, hz0, hz1, hz2⟩ := info_parts Tryz.infoElems
 by_cases hn : 1 ≤ n ∧ n ≤ 16
 ·obtain ⟨hn1, hn2⟩ := hn
  obtain ⟨b0, off0, ai0, ci0, e0, hc0, _⟩ := h 0 (by omega)
  subst e0
  rw [Nat.add_zero] at hc0
  have hs1 : side (n : Int) = true := by rw [side_nat]; simp; omega
  have hn1' : (1 : Int) ≤ (n : Int) := by omega
  have hb0 := block_lt_of_cell hc0
  by_cases hl : 1 ≤ L 0 ∧ L 0 ≤ 16
  ·obtain ⟨hl1, hl2⟩ := hl
   obtain ⟨q, hq, hbad⟩ := OkM.not ok hn1 hn2 hl1 hl2
   obtain ⟨l, hl⟩ : ∃ l, L 0 = l := ⟨_, rfl⟩
   rw [hl] at hc0 hl1 hl2 hbad
   have hs2 : side (l : Int) = true := by rw [side_nat]; simp; omega
   have KH : Hid (MatAt w (some ⟨b0, off0, none⟩) n L Z) := h
   have KL : Hid _ := hL
   have KB : Hid _ := hbad
   clear h hl hL hbad ok
   go_enter Tryz.func147, Tryz.ntmps147
   go_wp2_with (first | (go_at_call 152; refine (isSide_any _ _).mono ?_; rintro e w' ⟨rfl, hw⟩; obtain rfl := hw.symm) | (at_make; refine wpList_make_full _ rfl _ _ 217 rfl w.heap.size 220 i0 (.slice none 0 0) 1 Tryz.underlying217 hi hz0 hz1 .i64 .i64 _ _ n rfl rfl rfl rfl (by rw [hz2]; omega) (by unfold maxLen; omega) (Nat.le_refl _) ?_; intro w1 hown hgrow))
   have hb1 : Below w.heap.size w w1 := (Below.refl _ _).grown hgrow (Nat.le_refl _) (by simp)
   clear hgrow hi hz0 hz1 hz2
   go_loopw [26] (fun i wr => ∃ (k : Nat) (vs : List Value), k ≤ q ∧ i = .int .i64 ((k : Nat) : Int) ∧ wr.ownsRow w.heap.size 220 1 (.slice (some ⟨w.heap.size, 0, none⟩) n n) n vs ∧ Below w.heap.size w wr) (fun i _ => n - (intOf i).toNat)
   case atStart => exact ⟨0, _, Nat.zero_le _, rfl, hown, hb1⟩
   case round =>
    obtain ⟨k, vs, hk, rfl, hown', hbel⟩ := hrel
    clear hown hb1
    have hlt : k < n := by omega
    have hlti : (k : Int) < (n : Int) := by omega
    obtain ⟨b, off, ai, ci, eb, hc, hr⟩ := KH.out.below hbel k hlt
    cases eb
    have hc0' := (hbel.cell (p := ⟨b0, off0, none⟩) hb0).trans hc0
    have hLk := KL.out k hlt
    clear hc0
    by_cases hkl : L k = l
    ·rw [hkl] at hc hr
     by_cases hB : ∀ j, j < l → isB (Z k j) = true
     ·have hkq : k ≠ q := fun e => KB.out (by rw [← e]; exact ⟨hkl, hB⟩)
      have hrd := readE_yes ai l ci (zI (Z k) l) wr hr (by omega) (fun i hi => by rw [zI_getD _ _ _ hi]; exact hB i hi)
      obtain ⟨old, hold⟩ : ∃ v, wr.cell? ⟨w.heap.size, k, none⟩ = some v := by
       rw [hown'.cellAt k (by omega)]
       exact ⟨_, List.getElem?_eq_getElem (by rw [hown'.1]; omega)⟩
      have hfr := hown'.frozenAt k
      have hGlt := (hown'.lt _ rfl).2
      have KR : Hid _ := hrd
      have KW : Hid _ := hown'
      have KE : Hid (Below w.heap.size w wr) := hbel
      clear hrd hB hr hown' hbel
      go_wp2_with fail
      refine Calls.mono KR.out ?_
      rintro e w2 ⟨rfl, _, hb2⟩
      have hold2 := (hb2.cell (p := ⟨w.heap.size, k, none⟩) hGlt).trans hold
      have hfr2 := (World.frozen?_of_block (a := ⟨w.heap.size, k, none⟩) (hb2.block _ hGlt)).trans hfr
      have HS : Hid _ := ((ownsRow_below KW.out hb2).stored k (.slice (some ⟨wr.heap.size, 0, none⟩) l l)).1
      have HB : Hid (Below w.heap.size w (w2.setCell ⟨w.heap.size, k, none⟩ (.slice (some ⟨wr.heap.size, 0, none⟩) l l))) := (below2 KE.out hb2).setCell (Nat.le_refl _) _
      clear hb2 hold hfr KR KW
      go_wp2
      go_roundw
      case rel => exact ⟨k + 1, _, by omega, by go_num, HS.out, HB.out⟩
      case measure => simp [intOf] <;> omega
     ·have hrd := readE_no ai l ci (zI (Z k) l) wr hr (by omega) (by
       refine Classical.byContradiction fun hno => hB fun j hj => ?_
       refine Classical.byContradiction fun hc => hno ⟨j, hj, ?_⟩
       rw [zI_getD _ _ _ hj]
       simpa using hc)
      have KR : Hid _ := hrd
      have KE : Hid (Below w.heap.size w wr) := hbel
      clear hrd hB hr hown' hbel
      go_wp2_with fail
      refine Calls.mono KR.out ?_
      rintro e w2 ⟨rfl, hb2⟩
      go_wp2
      go_ret2
      exact ⟨rfl, below2 KE.out hb2⟩
    ·have hne : ((L k : Int) != (l : Int)) = true := by simp; omega
     generalize L k = lk at hc hne
     clear hown' hr
     go_wp2
     go_ret2
     exact ⟨rfl, hbel⟩
  ·have hs2 : side (L 0 : Int) = false := by rw [side_nat]; simp; omega
   clear h hL ok hl
   generalize L 0 = l at hc0 hs2
   go_enter Tryz.func147, Tryz.ntmps147
   go_wp2_with (go_at_call 152; refine (isSide_any _ _).mono ?_; rintro e w' ⟨rfl, hw⟩; obtain rfl := hw.symm)
   go_ret2
   exact ⟨rfl, Below.refl _ _⟩
 ·have hs1 : side (n : Int) = false := by rw [side_nat]; simp; omega
  clear h hL ok
  go_enter Tryz.func147, Tryz.ntmps147
  go_wp2_with (go_at_call 152; refine (isSide_any _ _).mono ?_; rintro e w' ⟨rfl, hw⟩; obtain rfl := hw.symm)
  go_ret2
  exact ⟨rfl, Below.refl _ _⟩
noncomputable def okM (n : Nat) (L : Nat → Nat) (Z : Nat → Nat → Int) : Bool := @decide (OkM n L Z) (Classical.propDecidable _)
theorem okM_yes {n : Nat} {L : Nat → Nat} {Z : Nat → Nat → Int} (h : OkM n L Z) : okM n L Z = true := by unfold okM; exact @decide_eq_true _ (Classical.propDecidable _) h
theorem okM_no {n : Nat} {L : Nat → Nat} {Z : Nat → Nat → Int} (h : ¬ OkM n L Z) : okM n L Z = false := by unfold okM; exact @decide_eq_false _ (Classical.propDecidable _) h
def ResM (w w' : World) (v : Value) (r c : Nat) (F : Nat → Nat → Nat) : Prop := ∃ a cap A C, v = .slice a r cap ∧ MatI w' w.heap.size w'.heap.size a r cap A (fun _ => c) C (fun i j => ((F i j : Nat) : Int))
theorem ResM.none (w w' : World) (c : Nat) (F : Nat → Nat → Nat) : ResM w w' (.slice none 0 0) 0 c F := ⟨_, _, fun _ => .none, fun _ => 0, rfl, MatZ.nil _ _ _ _ _ _ _ _ _ _⟩
theorem ResM.mk {w w' : World} {a : Option Addr} {r cap c : Nat} {A : Nat → Option Addr} {C : Nat → Nat} {F : Nat → Nat → Nat} {B : Nat} (h : MatI w' B w'.heap.size a r cap A (fun _ => c) C (fun i j => ((F i j : Nat) : Int))) (hB : w.heap.size ≤ B) : ResM w w' (.slice a r cap) r c F :=
 ⟨a, cap, A, C, rfl, ⟨own_base h.out hB, h.oE, fun i hi => own_base (h.row i hi) hB, h.rE, h.apart⟩⟩
theorem spread1_any (kb k i j : Nat) (w : World) (hk : w.cell? ⟨kb, 0, none⟩ = some (.int .i64 (k : Int))) (hi : i < 256) (hj : j < 256) :
  Calls Tryz.prog 153 #[.int .i64 (i : Int), .int .i64 (j : Int), .pointer (some ⟨kb, 0, none⟩)] w fun e w' => e = .returned (.int .u8 ((Gm.sprd k i j : Nat) : Int)) ∧ Below w.heap.size w w' := by
 by_cases h : i < k
 ·have h' : (i : Int) < (k : Int) := by omega
  have HS : Hid (Gm.sprd k i j = Gm.dl i j) := by show _ = _; unfold Gm.sprd; rw [if_pos h]
  go_enter Tryz.func153, Tryz.ntmps153
  go_wp2_with (go_at_call 154; refine (unitAt_any i j _).mono ?_; rintro e w' ⟨rfl, hw⟩; obtain rfl := hw.symm)
  go_ret
  exact ⟨by rw [HS.out] <;> rfl, Below.refl _ _⟩
 ·have h' : ¬ (i : Int) < (k : Int) := by omega
  have HS : Hid (Gm.sprd k i j = Gf.inv (i ^^^ j)) := by show _ = _; unfold Gm.sprd; rw [if_neg h]
  have hx := Gf.xor_lt hi hj
  go_enter Tryz.func153, Tryz.ntmps153
  go_wp2_with (first | (go_at_call 110; refine (plus_any i j _ hi hj).mono ?_; rintro e w' ⟨rfl, hw⟩; obtain rfl := hw.symm) | (go_at_call 155; refine (inverse_any (i ^^^ j) _ hx).mono ?_; rintro e w2 ⟨rfl, hb2⟩))
  go_ret
  exact ⟨by rw [HS.out] <;> rfl, hb2⟩
theorem spreadEnter : ∀ args w, (callFunc 153 args).run Tryz.prog w = .ok (.enter 153 args) w := enters_of Tryz.func153 (by kernel_rfl) rfl
theorem spreadFill (kb k r c : Nat) (w : World) (hk : w.cell? ⟨kb, 0, none⟩ = some (.int .i64 (k : Int))) (hr : r ≤ 256) (hc : c ≤ 256) : FillBy 153 #[.pointer (some ⟨kb, 0, none⟩)] r c (Gm.sprd k) w := fun W i j hb hi hj =>
 spread1_any kb k i j W ((hb.cell (p := ⟨kb, 0, none⟩) (block_lt_of_cell hk)).trans hk) (by omega) (by omega)
theorem boxed (w : World) (v : Value) (t : TypeId) : (w.alloc (.cells #[v] t)).cell? ⟨w.heap.size, 0, none⟩ = some v := cell_of_one (heap_alloc_new w _)
def sprOk (k n : Int) : Bool := side n && decide (1 ≤ k ∧ k ≤ n)
def sprR (k n : Int) : Nat := if sprOk k n = true then n.toNat else 0
theorem spread_any (k n : Int) (w : World) : Calls Tryz.prog 106 #[.int .i64 k, .int .i64 n] w fun e w' => ∃ v, e = .returned (.tuple #[v, .bool (sprOk k n)]) ∧ ResM w w' v (sprR k n) k.toNat (Gm.sprd k.toNat) ∧ Below w.heap.size w w' := by
 have hbx := boxed w (.int .i64 k) 3
 have hb1 : Below w.heap.size w (w.alloc (.cells #[.int .i64 k] 3)) := (Below.refl _ _).alloc (Nat.le_refl _) _
 have hsz : (w.alloc (.cells #[.int .i64 k] 3)).heap.size = w.heap.size + 1 := by simp
 by_cases h1 : side n = true
 ·by_cases h2 : 1 ≤ k
  ·by_cases h3 : k ≤ n
   ·have hr : 1 ≤ n ∧ n ≤ 16 := by simpa [side] using h1
    have hok : sprOk k n = true := by unfold sprOk; rw [h1]; simp; omega
    obtain ⟨N, rfl⟩ : ∃ N : Nat, n = (N : Int) := ⟨n.toNat, by omega⟩
    obtain ⟨K, rfl⟩ : ∃ K : Nat, k = (K : Int) := ⟨k.toNat, by omega⟩
    have hN : sprR (K : Int) (N : Int) = N := by unfold sprR; rw [if_pos hok]; simp
    rw [hN, hok, Int.toNat_natCast]
    have KF : Hid _ := filled_any 153 #[.pointer (some ⟨w.heap.size, 0, none⟩)] spreadEnter N K (Gm.sprd K) _ (spreadFill w.heap.size K N K _ hbx (by omega) (by omega)) (Gm.sprd_byt K) (by omega) (by omega)
    have h2' : ¬ (K : Int) < 1 := by omega
    have h3' : ¬ (K : Int) > (N : Int) := by omega
    obtain ⟨w1, hw1⟩ : ∃ w1, w.alloc (.cells #[.int .i64 (K : Int)] 3) = w1 := ⟨_, rfl⟩
    have KW : Hid (w.alloc (.cells #[.int .i64 (K : Int)] 3) = w1) := hw1
    rw [hw1] at KF hb1 hbx
    clear hw1 hN hok hsz
    go_enter Tryz.func106, Tryz.ntmps106
    go_wp2_with fail
    rw [KW.out]
    refine (isSide_any _ _).mono ?_
    rintro e w' ⟨rfl, hw⟩
    obtain rfl := hw.symm
    go_wp2_with fail
    refine Calls.mono KF.out ?_
    rintro e w2 ⟨rfl, ⟨A, hM⟩, hb2⟩
    have KM : Hid _ := hM
    clear hM
    go_wp2
    go_ret2
    exact ⟨_, rfl, ResM.mk KM.out hb1.size, below2 hb1 hb2⟩
   ·have hok : sprOk k n = false := by unfold sprOk; simp [h3]
    have hN : sprR k n = 0 := by unfold sprR; rw [if_neg (by rw [hok]; simp)]
    rw [hN, hok]
    have h2' : ¬ k < 1 := by omega
    have h3' : k > n := by omega
    clear hok hN
    go_enter Tryz.func106, Tryz.ntmps106
    go_wp2_with fail
    refine (isSide_any _ _).mono ?_
    rintro e w' ⟨rfl, hw⟩
    obtain rfl := hw.symm
    go_wp2
    go_ret2
    exact ⟨_, rfl, ResM.none _ _ _ _, hb1⟩
  ·have hok : sprOk k n = false := by unfold sprOk; simp [h2]
   have hN : sprR k n = 0 := by unfold sprR; rw [if_neg (by rw [hok]; simp)]
   rw [hN, hok]
   have h2' : k < 1 := by omega
   clear hok hN
   go_enter Tryz.func106, Tryz.ntmps106
   go_wp2_with fail
   refine (isSide_any _ _).mono ?_
   rintro e w' ⟨rfl, hw⟩
   obtain rfl := hw.symm
   go_wp2
   go_ret2
   exact ⟨_, rfl, ResM.none _ _ _ _, hb1⟩
 ·have h1' : side n = false := by simpa using h1
  have hok : sprOk k n = false := by unfold sprOk; simp [h1']
  have hN : sprR k n = 0 := by unfold sprR; rw [if_neg (by rw [hok]; simp)]
  rw [hN, hok]
  clear hok hN
  go_enter Tryz.func106, Tryz.ntmps106
  go_wp2_with fail
  refine (isSide_any _ _).mono ?_
  rintro e w' ⟨rfl, hw⟩
  obtain rfl := hw.symm
  go_wp2
  go_ret2
  exact ⟨_, rfl, ResM.none _ _ _ _, hb1⟩
def RdU (w : World) (pb r c : Nat) (F : Nat → Nat → Nat) : Prop :=
 ∃ G cap, w.cell? ⟨pb, 0, none⟩ = some (.slice (some ⟨G, 0, none⟩) r cap) ∧ ∀ i, i < r → ∃ g cc, w.cell? ⟨G, i, none⟩ = some (.slice (some ⟨g, 0, none⟩) c cc) ∧ ∀ j, j < c → w.cell? ⟨g, j, none⟩ = some (.int .u8 ((F i j : Nat) : Int))
theorem RdU.below {w w' : World} {pb r c : Nat} {F : Nat → Nat → Nat} (h : RdU w pb r c F) (hb : Below w.heap.size w w') : RdU w' pb r c F := by
 obtain ⟨G, cap, hp, hr⟩ := h
 refine ⟨G, cap, (hb.cell (p := ⟨pb, 0, none⟩) (block_lt_of_cell hp)).trans hp, fun i hi => ?_⟩
 obtain ⟨g, cc, hc, he⟩ := hr i hi
 exact ⟨g, cc, (hb.cell (p := ⟨G, i, none⟩) (block_lt_of_cell hc)).trans hc, fun j hj => (hb.cell (p := ⟨g, j, none⟩) (block_lt_of_cell (he j hj))).trans (he j hj)⟩
theorem MatU.rd {w w' : World} {B E G r cap c pb : Nat} {g : Nat → Nat} {C : Nat → Nat} {F : Nat → Nat → Nat} (h : MatU w B E (some ⟨G, 0, none⟩) r cap (fun i => some ⟨g i, 0, none⟩) (fun _ => c) C (fun i j => ((F i j : Nat) : Int))) (hb : Below w.heap.size w w') (hp : w'.cell? ⟨pb, 0, none⟩ = some (.slice (some ⟨G, 0, none⟩) r cap)) : RdU w' pb r c F := by
 have h' := h.below hb
 exact ⟨G, cap, hp, fun i hi => ⟨g i, C i, h'.hdr hi, fun j hj => h'.elt hi rfl hj⟩⟩
theorem cZ_byt {n : Nat} {L : Nat → Nat} {Z : Nat → Nat → Int} (ok : OkM n L Z) : ∀ i j, i < n → j < L 0 → cZ Z i j < 256 := fun i j hi hj => by
 obtain ⟨X, hX, e⟩ := isB_nat ((ok.2.2.2.2 i hi).2 j hj)
 unfold cZ
 rw [e]
 simpa using hX
def bZ (n : Nat) (L : Nat → Nat) (Z : Nat → Nat → Int) (i j : Nat) : Nat := if i < n ∧ j < L 0 then cZ Z i j % 256 else 0
theorem bZ_byt (n : Nat) (L : Nat → Nat) (Z : Nat → Nat → Int) : Gm.Byt (bZ n L Z) := fun i j => by unfold bZ; split <;> omega
theorem bZ_eq {n : Nat} {L : Nat → Nat} {Z : Nat → Nat → Int} (ok : OkM n L Z) {i j : Nat} (hi : i < n) (hj : j < L 0) : bZ n L Z i j = cZ Z i j := by
 unfold bZ
 rw [if_pos ⟨hi, hj⟩, Nat.mod_eq_of_lt (cZ_byt ok i j hi hj)]
theorem readM_b (a : Option Addr) (n cap : Nat) (L : Nat → Nat) (Z : Nat → Nat → Int) (w : World) (h : MatAt w a n L Z) (ok : OkM n L Z) :
  Calls Tryz.prog 147 #[.slice a n cap] w fun e w' => e = .returned (.tuple #[.slice (some ⟨w.heap.size, 0, none⟩) n n, .bool true]) ∧ (∃ g : Nat → Nat, MatU w' w.heap.size w'.heap.size (some ⟨w.heap.size, 0, none⟩) n n (fun i => some ⟨g i, 0, none⟩) (fun _ => L 0) (fun _ => L 0) (fun i j => ((bZ n L Z i j : Nat) : Int))) ∧ Below w.heap.size w w' := by
 refine Calls.mono (readM_yes a n cap L Z w h ok) ?_
 rintro e w' ⟨rfl, ⟨g, hM⟩, hb⟩
 exact ⟨rfl, ⟨g, hM.congr (fun i hi => ⟨rfl, rfl, rfl, fun j hj => by rw [bZ_eq ok hi hj]⟩)⟩, hb⟩
theorem mul1_any (pa pb r n c i j : Nat) (F H : Nat → Nat → Nat) (w : World) (ha : RdU w pa r n F) (hb : RdU w pb n c H) (hF : Gm.Byt F) (hH : Gm.Byt H) (hi : i < r) (hj : j < c) (hn : n ≤ 1048576) :
  Calls Tryz.prog 149 #[.int .i64 (i : Int), .int .i64 (j : Int), .pointer (some ⟨pa, 0, none⟩), .pointer (some ⟨pb, 0, none⟩)] w fun e w' => e = .returned (.int .u8 ((Gm.mp n F H i j : Nat) : Int)) ∧ Below w.heap.size w w' := by
 obtain ⟨Ga, ca, hpa, hra⟩ := ha
 obtain ⟨ga, cca, hca, hea⟩ := hra i hi
 have hi' : (i : Int) < (r : Int) := by omega
 have hj' : (j : Int) < (c : Int) := by omega
 have KB : Hid (RdU w pb n c H) := hb
 have KE : Hid _ := hea
 clear hra hea hb
 go_enter Tryz.func149, Tryz.ntmps149
 go_wp2
 go_loopw [7, 15] (fun s p wr => ∃ k V : Nat, k ≤ n ∧ V < 256 ∧ s = .int .u8 (V : Int) ∧ p = .int .i64 (k : Int) ∧ Hid (V = Gm.sm (fun t => Gp.m (F i t) (H t j)) k) ∧ Below w.heap.size w wr) (fun _ p _ => n - (intOf p).toNat)
 case atStart => exact ⟨0, 0, Nat.zero_le _, by omega, rfl, rfl, rfl, Below.refl _ _⟩
 case round =>
  obtain ⟨k, V, hk, hV, rfl, rfl, HV, hbel⟩ := hrel
  by_cases hlt : k < n
  ·have hki : (k : Int) < (n : Int) := by omega
   have hx0 := KE.out k hlt
   have hx := (hbel.cell (p := ⟨ga, k, none⟩) (block_lt_of_cell hx0)).trans hx0
   obtain ⟨Gb, cb, hpb, hrb⟩ := KB.out.below hbel
   obtain ⟨gb, ccb, hcb, heb⟩ := hrb k hlt
   have hy := heb j hj
   clear hx0 heb hrb hca hpa
   have hf := hF i k
   have hh := hH k j
   have HV2 : Hid (V ^^^ Gf.mul (F i k) (H k j) = Gm.sm (fun t => Gp.m (F i t) (H t j)) (k + 1)) := by
    show _ = _
    rw [Gm.sm_s, HV.out, Gp.m_nat hf hh]
   have hml := Gf.mul_lt hf hh
   have hxl : Hid (V ^^^ Gf.mul (F i k) (H k j) < 256) := Gf.xor_lt hV hml
   generalize F i k = x at hx hf HV2 hml hxl
   generalize H k j = y at hy hh HV2 hml hxl
   go_wp2_with (first | (go_at_call 111; refine (times_any x y _ hf hh).mono ?_; rintro e w5 ⟨rfl, hb5⟩) | (go_at_call 110; refine (plus_any V (Gf.mul x y) _ hV hml).mono ?_; rintro e w6 ⟨rfl, hw6⟩; obtain rfl := hw6.symm))
   go_roundw
   case rel => exact ⟨k + 1, _, by omega, hxl.out, rfl, by go_num, HV2.out, below2 hbel hb5⟩
   case measure => simp [intOf] <;> omega
  ·obtain rfl : k = n := by omega
   go_wp2
   go_ret
   exact ⟨by rw [HV.out] <;> rfl, hbel⟩
theorem mulEnter : ∀ args w, (callFunc 149 args).run Tryz.prog w = .ok (.enter 149 args) w := enters_of Tryz.func149 (by kernel_rfl) rfl
theorem mulFill {pa pb r n c : Nat} {F H : Nat → Nat → Nat} {w : World} (ha : RdU w pa r n F) (hb : RdU w pb n c H) (hF : Gm.Byt F) (hH : Gm.Byt H) (hn : n ≤ 1048576) :
  FillBy 149 #[.pointer (some ⟨pa, 0, none⟩), .pointer (some ⟨pb, 0, none⟩)] r c (Gm.mp n F H) w := fun W i j hW hi hj => mul1_any pa pb r n c i j F H W (ha.below hW) (hb.below hW) hF hH hi hj hn
def MulOk (n : Nat) (L : Nat → Nat) (Z : Nat → Nat → Int) (n' : Nat) (L' : Nat → Nat) (Z' : Nat → Nat → Int) : Prop := OkM n L Z ∧ OkM n' L' Z' ∧ L 0 = n'
noncomputable def muOk (n : Nat) (L : Nat → Nat) (Z : Nat → Nat → Int) (n' : Nat) (L' : Nat → Nat) (Z' : Nat → Nat → Int) : Bool := @decide (MulOk n L Z n' L' Z') (Classical.propDecidable _)
theorem muOk_yes {n : Nat} {L : Nat → Nat} {Z : Nat → Nat → Int} {n' : Nat} {L' : Nat → Nat} {Z' : Nat → Nat → Int} (h : MulOk n L Z n' L' Z') : muOk n L Z n' L' Z' = true := by unfold muOk; exact @decide_eq_true _ (Classical.propDecidable _) h
theorem muOk_no {n : Nat} {L : Nat → Nat} {Z : Nat → Nat → Int} {n' : Nat} {L' : Nat → Nat} {Z' : Nat → Nat → Int} (h : ¬ MulOk n L Z n' L' Z') : muOk n L Z n' L' Z' = false := by unfold muOk; exact @decide_eq_false _ (Classical.propDecidable _) h
noncomputable def muR (n : Nat) (L : Nat → Nat) (Z : Nat → Nat → Int) (n' : Nat) (L' : Nat → Nat) (Z' : Nat → Nat → Int) : Nat := if muOk n L Z n' L' Z' = true then n else 0
theorem mulM_any (a : Option Addr) (n cap : Nat) (L : Nat → Nat) (Z : Nat → Nat → Int) (a' : Option Addr) (n' cap' : Nat) (L' : Nat → Nat) (Z' : Nat → Nat → Int) (w : World) (h : MatAt w a n L Z) (h' : MatAt w a' n' L' Z') (hL : ∀ i, i < n → L i ≤ 1048576) (hL' : ∀ i, i < n' → L' i ≤ 1048576) :
  Calls Tryz.prog 103 #[.slice a n cap, .slice a' n' cap'] w fun e w' => ∃ v, e = .returned (.tuple #[v, .bool (muOk n L Z n' L' Z')]) ∧ ResM w w' v (muR n L Z n' L' Z') (L' 0) (Gm.mp n' (bZ n L Z) (bZ n' L' Z')) ∧ Below w.heap.size w w' := by
 by_cases ok : OkM n L Z
 ·have KR : Hid _ := readM_b a n cap L Z w h ok
  have hn : 1 ≤ n ∧ n ≤ 16 ∧ 1 ≤ L 0 ∧ L 0 ≤ 16 := ⟨ok.1, ok.2.1, ok.2.2.1, ok.2.2.2.1⟩
  have hn0' : 0 < n := by omega
  by_cases ok' : OkM n' L' Z'
  ·have hn' : 1 ≤ n' ∧ n' ≤ 16 ∧ 1 ≤ L' 0 ∧ L' 0 ≤ 16 := ⟨ok'.1, ok'.2.1, ok'.2.2.1, ok'.2.2.2.1⟩
   have hn1' : 0 < n' := by omega
   have KR' : Hid (∀ W, Below w.heap.size w W → _) := fun W hW => readM_b a' n' cap' L' Z' W (h'.below hW) ok'
   have hbt := bZ_byt n L Z
   have hbt' := bZ_byt n' L' Z'
   have hmo : MulOk n L Z n' L' Z' ↔ L 0 = n' := ⟨fun hh => hh.2.2, fun hh => ⟨ok, ok', hh⟩⟩
   have hR1 : L 0 = n' → muR n L Z n' L' Z' = n := fun e => by unfold muR; rw [if_pos (muOk_yes (hmo.2 e))]
   have hR2 : L 0 ≠ n' → muR n L Z n' L' Z' = 0 := fun e => by unfold muR; rw [if_neg (by rw [muOk_no (fun hh => e (hmo.1 hh))]; simp)]
   have hO1 : L 0 = n' → muOk n L Z n' L' Z' = true := fun e => muOk_yes (hmo.2 e)
   have hO2 : L 0 ≠ n' → muOk n L Z n' L' Z' = false := fun e => muOk_no (fun hh => e (hmo.1 hh))
   generalize muOk n L Z n' L' Z' = okf at hO1 hO2
   generalize muR n L Z n' L' Z' = R at hR1 hR2
   generalize bZ n L Z = F at KR hbt
   generalize bZ n' L' Z' = H at KR' hbt'
   clear hmo ok ok' h h' hL hL'
   generalize L 0 = l at hn KR hR1 hR2 hO1 hO2
   generalize L' 0 = l' at hn' KR'
   have KT : Hid (Gm.Byt F) := hbt
   have KT' : Hid (Gm.Byt H) := hbt'
   clear hbt hbt'
   by_cases e : l = n'
   ·obtain rfl := hO1 e
    have hRn := (hR1 e).symm
    subst hRn
    subst e
    clear hO1 hO2 hR1 hR2
    go_enter Tryz.func103, Tryz.ntmps103
    go_wp2_with fail
    refine Calls.mono KR.out ?_
    rintro e w2 ⟨rfl, ⟨g, hM⟩, hb2⟩
    have hp := boxed w2 (.slice (some ⟨w.heap.size, 0, none⟩) n n) 217
    have hb3 : Below w2.heap.size w2 (w2.alloc (.cells #[.slice (some ⟨w.heap.size, 0, none⟩) n n] 217)) := (Below.refl _ _).alloc (Nat.le_refl _) _
    have hRd := MatU.rd hM hb3 hp
    have hd0 := (hM.below hb3).hdr (i := 0) (by omega)
    obtain ⟨W, hW⟩ : ∃ W, w2.alloc (.cells #[.slice (some ⟨w.heap.size, 0, none⟩) n n] 217) = W := ⟨_, rfl⟩
    have KW2 : Hid (w2.alloc (.cells #[.slice (some ⟨w.heap.size, 0, none⟩) n n] 217) = W) := hW
    rw [hW] at hp hb3 hRd hd0
    generalize g 0 = g0 at hd0
    have KRd : Hid (RdU W w2.heap.size n l F) := hRd
    have KB : Hid (Below w.heap.size w W) := below2 hb2 hb3
    have hpl := block_lt_of_cell hp
    have hdl := block_lt_of_cell hd0
    have hKR' := KR'.out W KB.out
    clear hM hRd hW hb2 hb3 KR KR'
    go_wp2_with fail
    rw [KW2.out]
    refine Calls.mono hKR' ?_
    rintro e w4 ⟨rfl, ⟨g', hM'⟩, hb4⟩
    have hp' := boxed w4 (.slice (some ⟨W.heap.size, 0, none⟩) l l) 217
    have hb5 : Below w4.heap.size w4 (w4.alloc (.cells #[.slice (some ⟨W.heap.size, 0, none⟩) l l] 217)) := (Below.refl _ _).alloc (Nat.le_refl _) _
    have hRd' := MatU.rd hM' hb5 hp'
    have hd0' := (hM'.below hb5).hdr (i := 0) (by omega)
    have hp2 := ((below2 hb4 hb5).cell (p := ⟨w2.heap.size, 0, none⟩) hpl).trans hp
    have hd2 := ((below2 hb4 hb5).cell (p := ⟨w.heap.size, 0, none⟩) hdl).trans hd0
    generalize g' 0 = g0' at hd0'
    have KRa := KRd.out.below (below2 hb4 hb5)
    have KB5 := below2 KB.out (below2 hb4 hb5)
    clear hM' hb4 hb5 hp hd0 hpl hdl KRd KB KW2 hKR'
    go_wp2_with fail
    generalize w4.alloc (.cells #[.slice (some ⟨W.heap.size, 0, none⟩) l l] 217) = X at *
    go_quiet (fail)
    go_wp2_with fail
    generalize hX2 : X.drewN _ = X2
    have hbX : Below X.heap.size X X2 := by rw [← hX2]; exact below_drewN (Below.refl _ _) _
    have hp3 := (hbX.cell (p := ⟨w2.heap.size, 0, none⟩) (block_lt_of_cell hp2)).trans hp2
    have hd3 := (hbX.cell (p := ⟨w.heap.size, 0, none⟩) (block_lt_of_cell hd2)).trans hd2
    have hp3' := (hbX.cell (p := ⟨w4.heap.size, 0, none⟩) (block_lt_of_cell hp')).trans hp'
    have hd3' := (hbX.cell (p := ⟨W.heap.size, 0, none⟩) (block_lt_of_cell hd0')).trans hd0'
    have KB6 := below2 KB5 hbX
    have hsz6 := KB6.size
    have KF : Hid _ := filled_any 149 #[.pointer (some ⟨w2.heap.size, 0, none⟩), .pointer (some ⟨w4.heap.size, 0, none⟩)] mulEnter n l' (Gm.mp l F H) X2.drew (mulFill ((KRa.below hbX).below ⟨rfl, rfl, rfl, Nat.le_refl _, fun _ _ => rfl⟩) ((hRd'.below hbX).below ⟨rfl, rfl, rfl, Nat.le_refl _, fun _ _ => rfl⟩) KT.out KT'.out (by omega)) (Gm.mp_byt _ _ _) (by omega) (by omega)
    have hq1 := block_lt_of_cell hp3
    have hq2 := block_lt_of_cell hp3'
    have hq3 := block_lt_of_cell hd3'
    clear hX2 hp2 hd2 hp' hd0' KRa hRd' KB5
    go_region_held3 (fun w' => w'.cell? ⟨w2.heap.size, 0, none⟩ = some (.slice (some ⟨w.heap.size, 0, none⟩) n n) ∧ w'.cell? ⟨w4.heap.size, 0, none⟩ = some (.slice (some ⟨W.heap.size, 0, none⟩) l l) ∧ w'.cell? ⟨W.heap.size, 0, none⟩ = some (.slice (some ⟨g0', 0, none⟩) l' l')) (go_keep) ((go_at_call 148; refine Calls.mono KF.out ?_; rintro e w5 ⟨rfl, ⟨A5, hM5⟩, hb5'⟩; have hb5 := below_of_drew hb5'; have KM : Hid _ := hM5; clear hb5' hM5; have hp5 := (hb5.cell (p := ⟨w2.heap.size, 0, none⟩) hq1).trans hp3; have hd5 := (hb5.cell (p := ⟨w4.heap.size, 0, none⟩) hq2).trans hp3'; have hr5 := (hb5.cell (p := ⟨W.heap.size, 0, none⟩) hq3).trans hd3'))
    all_goals
     go_wp2
     go_ret2
     exact ⟨_, rfl, ResM.mk KM.out hsz6, below2 KB6 hb5⟩
   ·obtain rfl := hO2 e
    obtain rfl := hR2 e
    have hne : ((l : Int) != (n' : Int)) = true := by simp; omega
    clear hO1 hO2 hR1 hR2
    go_enter Tryz.func103, Tryz.ntmps103
    go_wp2_with fail
    refine Calls.mono KR.out ?_
    rintro e w2 ⟨rfl, ⟨g, hM⟩, hb2⟩
    have hp := boxed w2 (.slice (some ⟨w.heap.size, 0, none⟩) n n) 217
    have hb3 : Below w2.heap.size w2 (w2.alloc (.cells #[.slice (some ⟨w.heap.size, 0, none⟩) n n] 217)) := (Below.refl _ _).alloc (Nat.le_refl _) _
    have hRd := MatU.rd hM hb3 hp
    have hd0 := (hM.below hb3).hdr (i := 0) (by omega)
    obtain ⟨W, hW⟩ : ∃ W, w2.alloc (.cells #[.slice (some ⟨w.heap.size, 0, none⟩) n n] 217) = W := ⟨_, rfl⟩
    have KW2 : Hid (w2.alloc (.cells #[.slice (some ⟨w.heap.size, 0, none⟩) n n] 217) = W) := hW
    rw [hW] at hp hb3 hRd hd0
    generalize g 0 = g0 at hd0
    have KRd : Hid (RdU W w2.heap.size n l F) := hRd
    have KB : Hid (Below w.heap.size w W) := below2 hb2 hb3
    have hpl := block_lt_of_cell hp
    have hdl := block_lt_of_cell hd0
    have hKR' := KR'.out W KB.out
    clear hM hRd hW hb2 hb3 KR KR'
    go_wp2_with fail
    rw [KW2.out]
    refine Calls.mono hKR' ?_
    rintro e w4 ⟨rfl, ⟨g', hM'⟩, hb4⟩
    have hp' := boxed w4 (.slice (some ⟨W.heap.size, 0, none⟩) n' n') 217
    have hb5 : Below w4.heap.size w4 (w4.alloc (.cells #[.slice (some ⟨W.heap.size, 0, none⟩) n' n'] 217)) := (Below.refl _ _).alloc (Nat.le_refl _) _
    have hRd' := MatU.rd hM' hb5 hp'
    have hd0' := (hM'.below hb5).hdr (i := 0) (by omega)
    have hp2 := ((below2 hb4 hb5).cell (p := ⟨w2.heap.size, 0, none⟩) hpl).trans hp
    have hd2 := ((below2 hb4 hb5).cell (p := ⟨w.heap.size, 0, none⟩) hdl).trans hd0
    generalize g' 0 = g0' at hd0'
    have KRa := KRd.out.below (below2 hb4 hb5)
    have KB5 := below2 KB.out (below2 hb4 hb5)
    clear hM' hb4 hb5 hp hd0 hpl hdl KRd KB KW2 hKR'
    go_wp2_with fail
    generalize w4.alloc (.cells #[.slice (some ⟨W.heap.size, 0, none⟩) n' n'] 217) = X at *
    go_quiet (fail)
    go_wp2
    go_ret2
    exact ⟨_, rfl, ResM.none _ _ _ _, below_drewN KB5 _⟩
  ·have KR' : Hid (∀ W, Below w.heap.size w W → _) := fun W hW => readM_no a' n' cap' L' Z' W (h'.below hW) hL' ok'
   have hO : muOk n L Z n' L' Z' = false := muOk_no (fun hh => ok' hh.2.1)
   have hR : muR n L Z n' L' Z' = 0 := by unfold muR; rw [if_neg (by rw [hO]; simp)]
   rw [hO, hR]
   generalize bZ n L Z = F at KR
   generalize bZ n' L' Z' = H
   clear hO hR ok ok' h h' hL hL'
   generalize L 0 = l at hn KR
   generalize L' 0 = l'
   go_enter Tryz.func103, Tryz.ntmps103
   go_wp2_with fail
   refine Calls.mono KR.out ?_
   rintro e w2 ⟨rfl, _, hb2⟩
   have hb3 : Below w2.heap.size w2 (w2.alloc (.cells #[.slice (some ⟨w.heap.size, 0, none⟩) n n] 217)) := (Below.refl _ _).alloc (Nat.le_refl _) _
   have hKR' := KR'.out _ (below2 hb2 hb3)
   go_wp2_with fail
   refine Calls.mono hKR' ?_
   rintro e w4 ⟨rfl, hb4⟩
   have KB := below2 (below2 (below2 hb2 hb3) hb4) ((Below.refl w4.heap.size w4).alloc (Nat.le_refl _) (.cells #[.slice none 0 0] 217))
   clear hKR' KR KR' hb2 hb3 hb4
   go_wp2_with fail
   generalize w4.alloc (.cells #[.slice none 0 0] 217) = X at *
   go_quiet (fail)
   go_wp2
   go_ret2
   exact ⟨_, rfl, ResM.none _ _ _ _, below_drewN KB _⟩
 ·have KR : Hid _ := readM_no a n cap L Z w h hL ok
  have hO : muOk n L Z n' L' Z' = false := muOk_no (fun hh => ok hh.1)
  have hR : muR n L Z n' L' Z' = 0 := by unfold muR; rw [if_neg (by rw [hO]; simp)]
  rw [hO, hR]
  have KR' : Hid (∀ W, Below w.heap.size w W → Calls Tryz.prog 147 #[.slice a' n' cap'] W fun e w' => ∃ v b, e = .returned (.tuple #[.slice v n' n', .bool b]) ∧ Below W.heap.size W w' ∨ e = .returned (.tuple #[.slice none 0 0, .bool false]) ∧ Below W.heap.size W w') := fun W hW => by
   by_cases ok' : OkM n' L' Z'
   ·refine Calls.mono (readM_b a' n' cap' L' Z' W (h'.below hW) ok') ?_
    rintro e w' ⟨rfl, _, hb⟩
    exact ⟨_, _, .inl ⟨rfl, hb⟩⟩
   ·refine Calls.mono (readM_no a' n' cap' L' Z' W (h'.below hW) hL' ok') ?_
    rintro e w' ⟨rfl, hb⟩
    exact ⟨none, true, .inr ⟨rfl, hb⟩⟩
  clear hO hR ok h h' hL hL'
  generalize bZ n L Z = F
  generalize bZ n' L' Z' = H
  generalize L' 0 = l'
  go_enter Tryz.func103, Tryz.ntmps103
  go_wp2_with fail
  refine Calls.mono KR.out ?_
  rintro e w2 ⟨rfl, hb2⟩
  have hb3 : Below w2.heap.size w2 (w2.alloc (.cells #[.slice none 0 0] 217)) := (Below.refl _ _).alloc (Nat.le_refl _) _
  have hKR' := KR'.out _ (below2 hb2 hb3)
  go_wp2_with fail
  refine Calls.mono hKR' ?_
  rintro e w4 ⟨v, b, ⟨rfl, hb4⟩ | ⟨rfl, hb4⟩⟩
  ·have KB := below2 (below2 (below2 hb2 hb3) hb4) ((Below.refl w4.heap.size w4).alloc (Nat.le_refl _) (.cells #[.slice v n' n'] 217))
   clear hKR' KR KR' hb2 hb3 hb4
   go_wp2_with fail
   generalize w4.alloc (.cells #[.slice v n' n'] 217) = X at *
   go_quiet (fail)
   go_wp2
   go_ret2
   exact ⟨_, rfl, ResM.none _ _ _ _, below_drewN KB _⟩
  ·have KB := below2 (below2 (below2 hb2 hb3) hb4) ((Below.refl w4.heap.size w4).alloc (Nat.le_refl _) (.cells #[.slice none 0 0] 217))
   clear hKR' KR KR' hb2 hb3 hb4
   go_wp2_with fail
   generalize w4.alloc (.cells #[.slice none 0 0] 217) = X at *
   go_quiet (fail)
   go_wp2
   go_ret2
   exact ⟨_, rfl, ResM.none _ _ _ _, below_drewN KB _⟩
end Go.Proofs.YtmhcdkbgjjibeaaGreatDoor
