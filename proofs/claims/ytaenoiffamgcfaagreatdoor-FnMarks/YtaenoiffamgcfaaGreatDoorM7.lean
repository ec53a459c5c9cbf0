import Derived.Test.YtaenoiffamgcfaaGreatDoorM6
import Derived.Test.YtaenoiffamgcfaaGreatDoorM4
import Derived.BigQuiet
import Derived.Deep.QuietTactic
import Derived.StillTailTactics
set_option maxHeartbeats 8000000
set_option maxRecDepth 2000
open Go.ChangeShapes Go.WideShapes Go.ChangeAt Go.RowKit
namespace Go.Proofs.YtaenoiffamgcfaaGreatDoor
open Gs (U rolI V4 mx)
abbrev A4 (v : V4) : Value := .agg #[.int .u64 (U v.a), .int .u64 (U v.b), .int .u64 (U v.c), .int .u64 (U v.d)]
theorem belowDrewN {B : Nat} {a w : World} (h : Below B a w) (n : Nat) : Below B a (w.drewN n) := ⟨h.os, h.tape, h.output, h.size, h.block⟩
theorem mix_any (v : V4) (w : World) : Calls Tryz.prog 136 #[A4 v] w fun e w' => e = .returned (A4 (mx v)) ∧ Below w.heap.size w w' := by
 obtain ⟨a, b, c, d⟩ := v
 have hadd := Gs.U_add
 have hxor := Gs.U_xor
 go_enter Tryz.func136, Tryz.ntmps136
 go_wp2_with fail
 go_quiet (fail)
 go_wp2_with (go_at_call 146; refine (roll_any _ _ _).mono ?_; rintro e w' ⟨rfl, hw⟩; obtain rfl := hw.symm)
 refine bodyPost_ret (v := A4 (mx ⟨a, b, c, d⟩)) (by simp [results, Tryz.results136, go_sem, mx]) rfl ⟨rfl, ?_⟩
 refine Below.setCell (Below.setCell (Below.setCell (Below.setCell ?_ (by simp) _) (by simp) _) (by simp) _) (by simp) _
 exact belowDrewN (((Below.refl _ _).alloc (Nat.le_refl _) _).alloc (by simp) _) nq
theorem Tryz.info4 : (Tryz.prog.info? 124).map (·.size) = some 4 := by kernel_rfl
theorem Tryz.mixed : Tryz.prog.follows .mixedOrders = true := by kernel_rfl
abbrev C4 (v : V4) : Array Value := #[.int .u64 (U v.a), .int .u64 (U v.b), .int .u64 (U v.c), .int .u64 (U v.d)]
structure Own4 (w0 w : World) (g : Nat) (v : V4) : Prop where
 row : Row w g 124 (C4 v)
 res : ∃ z, Row w (g + 1) 124 (C4 z)
 bel : Below g w0 w
theorem Own4.set0 {w0 w : World} {g : Nat} {a b c d : BitVec 64} (h : Own4 w0 w g ⟨a, b, c, d⟩) (x : BitVec 64) : Own4 w0 (w.setCell ⟨g, 0, none⟩ (.int .u64 (U x))) g ⟨x, b, c, d⟩ :=
 ⟨h.row.set 0 _, by obtain ⟨z, hz⟩ := h.res; exact ⟨z, hz.other _ _ (by omega)⟩, h.bel.setCell (Nat.le_refl _) _⟩
theorem Own4.set1 {w0 w : World} {g : Nat} {a b c d : BitVec 64} (h : Own4 w0 w g ⟨a, b, c, d⟩) (x : BitVec 64) : Own4 w0 (w.setCell ⟨g, 1, none⟩ (.int .u64 (U x))) g ⟨a, x, c, d⟩ :=
 ⟨h.row.set 1 _, by obtain ⟨z, hz⟩ := h.res; exact ⟨z, hz.other _ _ (by omega)⟩, h.bel.setCell (Nat.le_refl _) _⟩
theorem Own4.set2 {w0 w : World} {g : Nat} {a b c d : BitVec 64} (h : Own4 w0 w g ⟨a, b, c, d⟩) (x : BitVec 64) : Own4 w0 (w.setCell ⟨g, 2, none⟩ (.int .u64 (U x))) g ⟨a, b, x, d⟩ :=
 ⟨h.row.set 2 _, by obtain ⟨z, hz⟩ := h.res; exact ⟨z, hz.other _ _ (by omega)⟩, h.bel.setCell (Nat.le_refl _) _⟩
theorem Own4.set3 {w0 w : World} {g : Nat} {a b c d : BitVec 64} (h : Own4 w0 w g ⟨a, b, c, d⟩) (x : BitVec 64) : Own4 w0 (w.setCell ⟨g, 3, none⟩ (.int .u64 (U x))) g ⟨a, b, c, x⟩ :=
 ⟨h.row.set 3 _, by obtain ⟨z, hz⟩ := h.res; exact ⟨z, hz.other _ _ (by omega)⟩, h.bel.setCell (Nat.le_refl _) _⟩
theorem Own4.drew {w0 w : World} {g : Nat} {v : V4} (h : Own4 w0 w g v) : Own4 w0 w.drew g v := ⟨h.row, h.res, h.bel.drew⟩
theorem Own4.cells {w0 w : World} {g : Nat} {a b c d : BitVec 64} (h : Own4 w0 w g ⟨a, b, c, d⟩) :
  w.cell? ⟨g, 0, none⟩ = some (.int .u64 (U a)) ∧ w.cell? ⟨g, 1, none⟩ = some (.int .u64 (U b)) ∧ w.cell? ⟨g, 2, none⟩ = some (.int .u64 (U c)) ∧ w.cell? ⟨g, 3, none⟩ = some (.int .u64 (U d)) ∧ w.frozen? ⟨g, 0, none⟩ = false ∧ w.frozen? ⟨g, 1, none⟩ = false ∧ w.frozen? ⟨g, 2, none⟩ = false ∧ w.frozen? ⟨g, 3, none⟩ = false :=
 ⟨h.row.cell 0, h.row.cell 1, h.row.cell 2, h.row.cell 3, h.row.free 0, h.row.free 1, h.row.free 2, h.row.free 3⟩
theorem sMix_any (v : V4) (w : World) : Calls Tryz.prog 100 #[A4 v] w fun e w' => e = .returned (A4 (mx v)) ∧ Below w.heap.size w w' := by
 obtain ⟨a, b, c, d⟩ := v
 have hadd := Gs.U_add
 have hxor := Gs.U_xor
 obtain ⟨w1, HW1⟩ : ∃ w1, Hid (w1 = (w.alloc (.cells (C4 ⟨a + b, b, c, d⟩) 124)).alloc (.cells #[.int .u64 0, .int .u64 0, .int .u64 0, .int .u64 0] 124)) := ⟨_, rfl⟩
 have K1 : Hid (Own4 w w1 w.heap.size ⟨a + b, b, c, d⟩) := by
  rw [HW1.out]
  refine ⟨(Row.new w _ _).alloc _, ⟨⟨0, 0, 0, 0⟩, ?_⟩, ((Below.refl _ _).alloc (Nat.le_refl _) _).alloc (by simp) _⟩
  have := Row.new (w.alloc (.cells (C4 ⟨a + b, b, c, d⟩) 124)) #[.int .u64 0, .int .u64 0, .int .u64 0, .int .u64 0] 124
  rw [show (w.alloc (.cells (C4 ⟨a + b, b, c, d⟩) 124)).heap.size = w.heap.size + 1 by simp] at this
  exact this
 go_enter Tryz.func100, Tryz.ntmps100
 go_wp2_with fail
 rw [← HW1.out]
 obtain ⟨w2, HW2⟩ : ∃ w2, Hid (w2 = (((w1.drew.setCell ⟨w.heap.size, 1, none⟩ (.int .u64 (U ((rolI b 13 ^^^ (a + b)))))).setCell ⟨w.heap.size, 0, none⟩ (.int .u64 (U (rolI (a + b) 32)))).setCell ⟨w.heap.size, 2, none⟩ (.int .u64 (U (c + d))))) := ⟨_, rfl⟩
 have K2 : Hid (Own4 w w2 w.heap.size ⟨rolI (a + b) 32, (rolI b 13 ^^^ (a + b)), c + d, d⟩) := by rw [HW2.out]; exact (((K1.out.drew.set1 ((rolI b 13 ^^^ (a + b)))).set0 (rolI (a + b) 32)).set2 (c + d))
 obtain ⟨x1, HX1⟩ : ∃ x, Hid (x = w1.drew) := ⟨_, rfl⟩
 have J1 : Hid (Own4 w x1 w.heap.size ⟨a + b, b, c, d⟩) := by rw [HX1.out]; exact K1.out.drew
 obtain ⟨c0, c1, c2, c3, f0, f1, f2, f3⟩ := K1.out.cells
 go_still_tail 7, Tryz.mixed
 still_call (sRoll_any b 13 _)
 repeat still_step
 refine wpStill_nil ?_
 rw [fold_drew, ← HX1.out]
 clear c0 c1 c2 c3 f0 f1 f2 f3
 obtain ⟨w2, HW2⟩ : ∃ w2, Hid (w2 = (((x1.setCell ⟨w.heap.size, 1, none⟩ (.int .u64 (U ((rolI b 13 ^^^ (a + b)))))).setCell ⟨w.heap.size, 0, none⟩ (.int .u64 (U (rolI (a + b) 32)))).setCell ⟨w.heap.size, 2, none⟩ (.int .u64 (U (c + d))))) := ⟨_, rfl⟩
 have K2 : Hid (Own4 w w2 w.heap.size ⟨rolI (a + b) 32, (rolI b 13 ^^^ (a + b)), c + d, d⟩) := by rw [HW2.out]; exact (((J1.out.set1 ((rolI b 13 ^^^ (a + b)))).set0 (rolI (a + b) 32)).set2 (c + d))
 obtain ⟨c0, c1, c2, c3, f0, f1, f2, f3⟩ := J1.out.cells
 go_wp2_with (go_at_call 125; refine (sRoll_any _ _ _).mono ?_; rintro e w' ⟨rfl, hw⟩; obtain rfl := hw.symm)
 clear c0 c1 c2 c3 f0 f1 f2 f3
 rw [← HW2.out]
 obtain ⟨x2, HX2⟩ : ∃ x, Hid (x = w2.drew) := ⟨_, rfl⟩
 have J2 : Hid (Own4 w x2 w.heap.size ⟨rolI (a + b) 32, (rolI b 13 ^^^ (a + b)), c + d, d⟩) := by rw [HX2.out]; exact K2.out.drew
 obtain ⟨c0, c1, c2, c3, f0, f1, f2, f3⟩ := K2.out.cells
 go_still_tail 7, Tryz.mixed
 still_call (sRoll_any d 16 _)
 repeat still_step
 refine wpStill_nil ?_
 rw [fold_drew, ← HX2.out]
 clear c0 c1 c2 c3 f0 f1 f2 f3
 obtain ⟨w3, HW3⟩ : ∃ w3, Hid (w3 = ((x2.setCell ⟨w.heap.size, 3, none⟩ (.int .u64 (U ((rolI d 16 ^^^ (c + d)))))).setCell ⟨w.heap.size, 0, none⟩ (.int .u64 (U ((rolI (a + b) 32 + (rolI d 16 ^^^ (c + d)))))))) := ⟨_, rfl⟩
 have K3 : Hid (Own4 w w3 w.heap.size ⟨(rolI (a + b) 32 + (rolI d 16 ^^^ (c + d))), (rolI b 13 ^^^ (a + b)), c + d, (rolI d 16 ^^^ (c + d))⟩) := by rw [HW3.out]; exact ((J2.out.set3 ((rolI d 16 ^^^ (c + d)))).set0 ((rolI (a + b) 32 + (rolI d 16 ^^^ (c + d)))))
 obtain ⟨c0, c1, c2, c3, f0, f1, f2, f3⟩ := J2.out.cells
 go_wp2_with (go_at_call 125; refine (sRoll_any _ _ _).mono ?_; rintro e w' ⟨rfl, hw⟩; obtain rfl := hw.symm)
 clear c0 c1 c2 c3 f0 f1 f2 f3
 rw [← HW3.out]
 obtain ⟨x3, HX3⟩ : ∃ x, Hid (x = w3.drew) := ⟨_, rfl⟩
 have J3 : Hid (Own4 w x3 w.heap.size ⟨(rolI (a + b) 32 + (rolI d 16 ^^^ (c + d))), (rolI b 13 ^^^ (a + b)), c + d, (rolI d 16 ^^^ (c + d))⟩) := by rw [HX3.out]; exact K3.out.drew
 obtain ⟨c0, c1, c2, c3, f0, f1, f2, f3⟩ := K3.out.cells
 go_still_tail 7, Tryz.mixed
 still_call (sRoll_any (rolI d 16 ^^^ (c + d)) 21 _)
 repeat still_step
 refine wpStill_nil ?_
 rw [fold_drew, ← HX3.out]
 clear c0 c1 c2 c3 f0 f1 f2 f3
 obtain ⟨w4, HW4⟩ : ∃ w4, Hid (w4 = ((x3.setCell ⟨w.heap.size, 3, none⟩ (.int .u64 (U ((rolI (rolI d 16 ^^^ (c + d)) 21 ^^^ (rolI (a + b) 32 + (rolI d 16 ^^^ (c + d)))))))).setCell ⟨w.heap.size, 2, none⟩ (.int .u64 (U (((c + d) + (rolI b 13 ^^^ (a + b)))))))) := ⟨_, rfl⟩
 have K4 : Hid (Own4 w w4 w.heap.size ⟨(rolI (a + b) 32 + (rolI d 16 ^^^ (c + d))), (rolI b 13 ^^^ (a + b)), ((c + d) + (rolI b 13 ^^^ (a + b))), (rolI (rolI d 16 ^^^ (c + d)) 21 ^^^ (rolI (a + b) 32 + (rolI d 16 ^^^ (c + d))))⟩) := by rw [HW4.out]; exact ((J3.out.set3 ((rolI (rolI d 16 ^^^ (c + d)) 21 ^^^ (rolI (a + b) 32 + (rolI d 16 ^^^ (c + d)))))).set2 (((c + d) + (rolI b 13 ^^^ (a + b)))))
 obtain ⟨c0, c1, c2, c3, f0, f1, f2, f3⟩ := J3.out.cells
 go_wp2_with (go_at_call 125; refine (sRoll_any _ _ _).mono ?_; rintro e w' ⟨rfl, hw⟩; obtain rfl := hw.symm)
 clear c0 c1 c2 c3 f0 f1 f2 f3
 rw [← HW4.out]
 obtain ⟨x4, HX4⟩ : ∃ x, Hid (x = w4.drew) := ⟨_, rfl⟩
 have J4 : Hid (Own4 w x4 w.heap.size ⟨(rolI (a + b) 32 + (rolI d 16 ^^^ (c + d))), (rolI b 13 ^^^ (a + b)), ((c + d) + (rolI b 13 ^^^ (a + b))), (rolI (rolI d 16 ^^^ (c + d)) 21 ^^^ (rolI (a + b) 32 + (rolI d 16 ^^^ (c + d))))⟩) := by rw [HX4.out]; exact K4.out.drew
 obtain ⟨c0, c1, c2, c3, f0, f1, f2, f3⟩ := K4.out.cells
 go_still_tail 7, Tryz.mixed
 still_call (sRoll_any (rolI b 13 ^^^ (a + b)) 17 _)
 repeat still_step
 refine wpStill_nil ?_
 rw [fold_drew, ← HX4.out]
 clear c0 c1 c2 c3 f0 f1 f2 f3
 obtain ⟨c0, c1, c2, c3, f0, f1, f2, f3⟩ := J4.out.cells
 obtain ⟨w5, HW5⟩ : ∃ w5, Hid (w5 = ((x4.setCell ⟨w.heap.size, 1, none⟩ (.int .u64 (U ((rolI (rolI b 13 ^^^ (a + b)) 17 ^^^ ((c + d) + (rolI b 13 ^^^ (a + b)))))))).setCell ⟨w.heap.size, 2, none⟩ (.int .u64 (U (rolI ((c + d) + (rolI b 13 ^^^ (a + b))) 32))))) := ⟨_, rfl⟩
 have K5 : Hid (Own4 w w5 w.heap.size ⟨(rolI (a + b) 32 + (rolI d 16 ^^^ (c + d))), (rolI (rolI b 13 ^^^ (a + b)) 17 ^^^ ((c + d) + (rolI b 13 ^^^ (a + b)))), rolI ((c + d) + (rolI b 13 ^^^ (a + b))) 32, (rolI (rolI d 16 ^^^ (c + d)) 21 ^^^ (rolI (a + b) 32 + (rolI d 16 ^^^ (c + d))))⟩) := by rw [HW5.out]; exact (J4.out.set1 _).set2 _
 have R5 : Hid (Row w5 w.heap.size 124 (C4 ⟨(rolI (a + b) 32 + (rolI d 16 ^^^ (c + d))), (rolI (rolI b 13 ^^^ (a + b)) 17 ^^^ ((c + d) + (rolI b 13 ^^^ (a + b)))), rolI ((c + d) + (rolI b 13 ^^^ (a + b))) 32, (rolI (rolI d 16 ^^^ (c + d)) 21 ^^^ (rolI (a + b) 32 + (rolI d 16 ^^^ (c + d))))⟩)) := K5.out.row
 obtain ⟨z, hz⟩ := K5.out.res
 have Z5 : Hid (Row w5 (w.heap.size + 1) 124 (C4 z)) := hz
 clear hz
 go_wp2_with fail
 refine (sRoll_any _ _ _).mono ?_
 rintro e w' ⟨rfl, hw⟩
 obtain rfl := hw.symm
 have ZR : Hid (Row ((((w5.setCell ⟨w.heap.size + 1, 0, none⟩ (.int .u64 (U (rolI (a + b) 32 + (rolI d 16 ^^^ (c + d)))))).setCell ⟨w.heap.size + 1, 1, none⟩ (.int .u64 (U (rolI (rolI b 13 ^^^ (a + b)) 17 ^^^ ((c + d) + (rolI b 13 ^^^ (a + b))))))).setCell ⟨w.heap.size + 1, 2, none⟩ (.int .u64 (U (rolI ((c + d) + (rolI b 13 ^^^ (a + b))) 32)))).setCell ⟨w.heap.size + 1, 3, none⟩ (.int .u64 (U (rolI (rolI d 16 ^^^ (c + d)) 21 ^^^ (rolI (a + b) 32 + (rolI d 16 ^^^ (c + d))))))) (w.heap.size + 1) 124 (C4 (mx ⟨a, b, c, d⟩))) := (((Z5.out.set 0 _).set 1 _).set 2 _).set 3 _
 have q0 := Z5.out.cell 0
 have q1 := Z5.out.cell 1
 have q2 := Z5.out.cell 2
 have q3 := Z5.out.cell 3
 have g0 := Z5.out.free 0
 have g1 := Z5.out.free 1
 have g2 := Z5.out.free 2
 have g3 := Z5.out.free 3
 simp at q0 q1 q2 q3
 go_wp2_with (rw [← HW5.out]; refine wpList_load_row (by rfl) 124 _ (by rfl) w.heap.size (by rfl) 124 _ (0, 0) _ R5.out Tryz.underlying124 (by rfl) Tryz.info4 ?_; clear c0 c1 c2 c3 f0 f1 f2 f3)
 clear q0 q1 q2 q3 g0 g1 g2 g3
 refine bodyPost_ret (v := A4 (mx ⟨a, b, c, d⟩)) (results_cell_row Tryz.results100 _ _ (w.heap.size + 1) 124 _ (0, 0) _ (by simp) ZR.out Tryz.underlying124 (by rfl) Tryz.info4) rfl ⟨rfl, ?_⟩
 exact Below.setCell (Below.setCell (Below.setCell (Below.setCell K5.out.bel (by simp) _) (by simp) _) (by simp) _) (by simp) _
end Go.Proofs.YtaenoiffamgcfaaGreatDoor
namespace Go.Proofs.YtaenoiffamgcfaaGreatDoor
open Gs (U rolI V4 mx inn key all4 fin)
abbrev H6 (L n : Nat) (v : V4) : Array Value := #[.int .u64 (L : Int), .int .i64 (n : Int), .int .u64 (U v.a), .int .u64 (U v.b), .int .u64 (U v.c), .int .u64 (U v.d)]
theorem keyed_any (a b : BitVec 64) (w : World) : Calls Tryz.prog 87 #[.int .u64 (U a), .int .u64 (U b)] w fun e w' => e = .returned (.pointer (some ⟨w.heap.size, 0, none⟩)) ∧ w' = w.alloc (.cells (H6 0 0 (key a b)) 126) := by
 have h1 : bits .xor .u64 (U a) 8317987319222330741 = U (a ^^^ 8317987319222330741#64) := Gs.U_xor a 8317987319222330741#64
 have h2 : bits .xor .u64 (U b) 7237128888997146477 = U (b ^^^ 7237128888997146477#64) := Gs.U_xor b 7237128888997146477#64
 have h3 : bits .xor .u64 (U a) 7816392313619706465 = U (a ^^^ 7816392313619706465#64) := Gs.U_xor a 7816392313619706465#64
 have h4 : bits .xor .u64 (U b) 8387220255154660723 = U (b ^^^ 8387220255154660723#64) := Gs.U_xor b 8387220255154660723#64
 go_enter Tryz.func87, Tryz.ntmps87
 go_wp2
 go_ret
 exact ⟨rfl, rfl⟩
theorem put_or (L x k : Nat) (hL : L < 18446744073709551616) (hx : x < 256) (hk : k < 8) : bits .or .u64 (L : Int) (IntKind.u64.wrap ((x : Int) * 2 ^ (8 * k))) = ((L ||| x * 2 ^ (8 * k) : Nat) : Int) := by
 have hp : x * 2 ^ (8 * k) < 18446744073709551616 := by
  have h1 : (2 : Nat) ^ (8 * k) ≤ 2 ^ 56 := Nat.pow_le_pow_right (by omega) (by omega)
  have h2 : x * 2 ^ (8 * k) ≤ 255 * 2 ^ 56 := Nat.mul_le_mul (by omega) h1
  omega
 have e : IntKind.u64.wrap ((x : Int) * 2 ^ (8 * k)) = ((x * 2 ^ (8 * k) : Nat) : Int) := by
  have := Gs.wrap_nat (x * 2 ^ (8 * k))
  rw [Nat.mod_eq_of_lt hp] at this
  rw [← this]
  simp
 rw [e, bits_or_u64_nat _ _ hL hp]
theorem put_any (g L n x : Nat) (v : V4) (w : World) (h : Row w g 126 (H6 L n v)) (hn : n ≤ 4194304) (hL : L < 18446744073709551616) (hx : x < 256) :
  Calls Tryz.prog 88 #[.pointer (some ⟨g, 0, none⟩), .int .u8 (x : Int)] w fun e w' => e = .returned (.bool (decide ((n + 1) % 8 = 0))) ∧ Row w' g 126 (H6 (L ||| x * 2 ^ (8 * (n % 8))) (n + 1) v) ∧ Below g w w' := by
 have c0 := h.cell 0
 have c1 := h.cell 1
 have f0 := h.free 0
 have f1 := h.free 1
 simp at c0 c1
 obtain ⟨k, HK⟩ : ∃ k, Hid (k = n % 8) := ⟨_, rfl⟩
 have hk8 : k < 8 := by have := HK.out; omega
 have hm0 : (n : Int) % 8 = (k : Int) := by have := HK.out; omega
 have hm : (n : Int).tmod 8 = (k : Int) := by rw [Int.tmod_eq_emod_of_nonneg (by omega)]; exact hm0
 have hsh := put_or L x k hL hx hk8
 have hw8 : IntKind.u64.wrap (x : Int) = (x : Int) := by rw [IntKind.wrap_u64]; omega
 have h88 : IntKind.i64.wrap (8 * (k : Int)) = ((8 * k : Nat) : Int) := by rw [IntKind.wrap_i64]; omega
 go_enter Tryz.func88, Tryz.ntmps88
 go_wp2_with fail
 go_still_tail 16, Tryz.mixed
 rw [fold_drew]
 obtain ⟨w1, HW1⟩ : ∃ x, Hid (x = w.drew) := ⟨_, rfl⟩
 rw [← HW1.out]
 have K1 : Hid (Row w1 g 126 (H6 L n v)) := by show Row _ _ _ _; rw [HW1.out]; exact h.drew
 have B1 : Hid (Below g w w1) := by show Below _ _ _; rw [HW1.out]; exact (Below.refl _ _).drew
 clear c0 c1 f0 f1
 have c0 := K1.out.cell 0
 have c1 := K1.out.cell 1
 have f0 := K1.out.free 0
 have f1 := K1.out.free 1
 simp at c0 c1
 go_wp2
 go_ret
 refine ⟨ret_bool ?_, ?_, (B1.out.setCell (Nat.le_refl _) _).setCell (Nat.le_refl _) _⟩
 ·rw [Bool.eq_iff_iff]
  simp
  omega
 ·rw [← HK.out]
  exact (K1.out.set 0 _).set 1 _
theorem take_any (g L n : Nat) (v : V4) (w : World) (h : Row w g 126 (H6 L n v)) :
  Calls Tryz.prog 90 #[.pointer (some ⟨g, 0, none⟩)] w fun e w' => e = .returned (.int .u64 (L : Int)) ∧ Row w' g 126 (H6 0 n v) ∧ Below g w w' := by
 have c0 := h.cell 0
 have f0 := h.free 0
 simp at c0
 have K : Hid (Row w g 126 (H6 L n v)) := h
 clear h
 go_enter Tryz.func90, Tryz.ntmps90
 go_wp2
 go_ret
 exact ⟨rfl, K.out.set 0 _, Below.setCell (Below.refl g _) (p := ⟨g, 0, none⟩) (Nat.le_refl _) _⟩
theorem last_any (g L n : Nat) (v : V4) (w : World) (h : Row w g 126 (H6 L n v)) (hn : n ≤ 4194304) (hL : L < 18446744073709551616) :
  Calls Tryz.prog 118 #[.pointer (some ⟨g, 0, none⟩)] w fun e w' => e = .returned (.int .u64 (U (BitVec.ofNat 64 L ||| (BitVec.ofNat 64 n <<< 56)))) ∧ Row w' g 126 (H6 L n v) ∧ Below g w w' := by
 have c0 := h.cell 0
 have c1 := h.cell 1
 simp at c0 c1
 have K : Hid (Row w g 126 (H6 L n v)) := h
 clear h
 have hw8 : IntKind.u64.wrap (n : Int) = (n : Int) := by rw [IntKind.wrap_u64]; omega
 have hor : bits .or .u64 (L : Int) (IntKind.u64.wrap ((n : Int) * 72057594037927936)) = U (BitVec.ofNat 64 L ||| (BitVec.ofNat 64 n <<< 56)) := by
  rw [Gs.U_nat (n := n) (by omega), show (72057594037927936 : Int) = 2 ^ 56 by decide, Gs.U_shl, Gs.U_nat hL, Gs.U_or]
 go_enter Tryz.func118, Tryz.ntmps118
 go_wp2_with fail
 go_quiet (fail)
 go_wp2
 go_ret
 exact ⟨rfl, K.out, belowDrewN (Below.refl _ _) _⟩
def mxs (v : V4) : Nat → V4
 | 0 => v
 | k + 1 => mx (mxs v k)
theorem mixes_any (g L n r : Nat) (v : V4) (w : World) (h : Row w g 126 (H6 L n v)) (hr : r ≤ 4) :
  Calls Tryz.prog 117 #[.pointer (some ⟨g, 0, none⟩), .int .i64 (r : Int)] w fun e w' => e = .returned (.tuple #[]) ∧ Row w' g 126 (H6 L n (mxs v r)) ∧ Below g w w' := by
 go_enter Tryz.func117, Tryz.ntmps117
 go_wp2
 go_loopw [5] (fun i wr => ∃ k : Nat, k ≤ r ∧ i = .int .i64 k ∧ Row wr g 126 (H6 L n (mxs v k)) ∧ Below g w wr) (fun i _ => r - (intOf i).toNat)
 case atStart => exact ⟨0, Nat.zero_le _, rfl, h, Below.refl _ _⟩
 case round =>
  obtain ⟨k, hk, rfl, hrow, hb⟩ := hrel
  clear h
  by_cases hlt : k < r
  ·have hlti : (k : Int) < (r : Int) := by omega
   obtain ⟨a, b, c, d, HV⟩ : ∃ a b c d, Hid (mxs v k = ⟨a, b, c, d⟩) := ⟨_, _, _, _, rfl⟩
   rw [HV.out] at hrow
   have c2 := hrow.cell 2
   have c3 := hrow.cell 3
   have c4 := hrow.cell 4
   have c5 := hrow.cell 5
   simp at c2 c3 c4 c5
   have K : Hid (Row wr g 126 (H6 L n ⟨a, b, c, d⟩)) := hrow
   clear hrow
   have hM := mix_any ⟨a, b, c, d⟩ wr
   have HS : Hid (mxs v (k + 1) = mx ⟨a, b, c, d⟩) := by show _ = _; rw [mxs, HV.out]
   generalize mx ⟨a, b, c, d⟩ = m at hM HS
   obtain ⟨p, q, s, t⟩ := m
   have KM : Hid _ := hM
   clear hM
   go_wp2_with fail
   refine Calls.mono KM.out ?_
   rintro e w2 ⟨rfl, hb2⟩
   have hgl := K.out.lt
   have K2 : Hid (Row w2 g 126 (H6 L n ⟨a, b, c, d⟩)) := K.out.below hb2 hgl
   have HB : Hid (Below g w w2) := hb.trans (hb2.mono (by omega))
   have KN : Hid (Row ((((w2.setCell ⟨g, 2, none⟩ (.int .u64 (U p))).setCell ⟨g, 3, none⟩ (.int .u64 (U q))).setCell ⟨g, 4, none⟩ (.int .u64 (U s))).setCell ⟨g, 5, none⟩ (.int .u64 (U t))) g 126 (H6 L n (mxs v (k + 1)))) := by
    show Row _ _ _ _
    rw [HS.out]
    exact (((K2.out.set 2 _).set 3 _).set 4 _).set 5 _
   have BN : Hid (Below g w ((((w2.setCell ⟨g, 2, none⟩ (.int .u64 (U p))).setCell ⟨g, 3, none⟩ (.int .u64 (U q))).setCell ⟨g, 4, none⟩ (.int .u64 (U s))).setCell ⟨g, 5, none⟩ (.int .u64 (U t)))) := Below.setCell (Below.setCell (Below.setCell (Below.setCell HB.out (by simp) _) (by simp) _) (by simp) _) (by simp) _
   clear c2 c3 c4 c5
   have c2 := K2.out.cell 2
   have c3 := K2.out.cell 3
   have c4 := K2.out.cell 4
   have c5 := K2.out.cell 5
   have f2 := K2.out.free 2
   have f3 := K2.out.free 3
   have f4 := K2.out.free 4
   have f5 := K2.out.free 5
   simp at c2 c3 c4 c5
   go_wp2
   go_roundw
   case rel => exact ⟨k + 1, by omega, by go_num, KN.out, BN.out⟩
   case measure => simp [intOf]; omega
  ·obtain rfl : k = r := by omega
   have K : Hid (Row wr g 126 (H6 L n (mxs v k))) := hrow
   clear hrow
   go_wp2
   go_end0
   exact ⟨rfl, K.out, hb⟩
theorem add_any (g L n : Nat) (v : V4) (x : BitVec 64) (w : World) (h : Row w g 126 (H6 L n v)) :
  Calls Tryz.prog 89 #[.pointer (some ⟨g, 0, none⟩), .int .u64 (U x)] w fun e w' => e = .returned (.tuple #[]) ∧ Row w' g 126 (H6 L n (inn v x)) ∧ Below g w w' := by
 obtain ⟨a, b, c, d⟩ := v
 have hxor := Gs.U_xor
 have c5 := h.cell 5
 have f5 := h.free 5
 simp at c5
 have K0 : Hid (Row w g 126 (H6 L n ⟨a, b, c, d⟩)) := h
 clear h
 go_enter Tryz.func89, Tryz.ntmps89
 go_wp2_with fail
 go_still_tail 10, Tryz.mixed
 rw [fold_drew]
 obtain ⟨w1, HW1⟩ : ∃ x, Hid (x = w.drew) := ⟨_, rfl⟩
 rw [← HW1.out]
 have K1 : Hid (Row w1 g 126 (H6 L n ⟨a, b, c, d⟩)) := by show Row _ _ _ _; rw [HW1.out]; exact K0.out.drew
 have B1 : Hid (Below g w w1) := by show Below _ _ _; rw [HW1.out]; exact (Below.refl _ _).drew
 clear c5 f5
 have c5 := K1.out.cell 5
 have f5 := K1.out.free 5
 simp at c5
 obtain ⟨w2, HW2⟩ : ∃ w2, Hid (w2 = w1.setCell ⟨g, 5, none⟩ (.int .u64 (U (d ^^^ x)))) := ⟨_, rfl⟩
 have K2 : Hid (Row w2 g 126 (H6 L n ⟨a, b, c, d ^^^ x⟩)) := by show Row _ _ _ _; rw [HW2.out]; exact K1.out.set 5 _
 have B2 : Hid (Below g w w2) := by show Below _ _ _; rw [HW2.out]; exact Below.setCell B1.out (by simp) _
 go_wp2_with fail
 rw [← HW2.out]
 have hm := mixes_any g L n 2 ⟨a, b, c, d ^^^ x⟩ w2 K2.out (by omega)
 refine Calls.mono hm ?_
 rintro e w3 ⟨rfl, h3, hb3⟩
 clear hm c5 f5
 have HI : Hid (inn ⟨a, b, c, d⟩ x = ⟨(mxs ⟨a, b, c, d ^^^ x⟩ 2).a ^^^ x, (mxs ⟨a, b, c, d ^^^ x⟩ 2).b, (mxs ⟨a, b, c, d ^^^ x⟩ 2).c, (mxs ⟨a, b, c, d ^^^ x⟩ 2).d⟩) := rfl
 generalize mxs ⟨a, b, c, d ^^^ x⟩ 2 = m at h3 HI
 obtain ⟨p, q, s, t⟩ := m
 have K3 : Hid (Row w3 g 126 (H6 L n ⟨p, q, s, t⟩)) := h3
 have B3 : Hid (Below g w w3) := B2.out.trans hb3
 clear h3 hb3
 have c2 := K3.out.cell 2
 have f2 := K3.out.free 2
 simp at c2
 go_wp2_with fail
 go_still_tail 10, Tryz.mixed
 rw [fold_drew]
 obtain ⟨w4, HW4⟩ : ∃ x, Hid (x = w3.drew) := ⟨_, rfl⟩
 rw [← HW4.out]
 have K4 : Hid (Row w4 g 126 (H6 L n ⟨p, q, s, t⟩)) := by show Row _ _ _ _; rw [HW4.out]; exact K3.out.drew
 have B4 : Hid (Below g w w4) := by show Below _ _ _; rw [HW4.out]; exact B3.out.drew
 clear c2 f2
 have c2 := K4.out.cell 2
 have f2 := K4.out.free 2
 simp at c2
 go_wp2
 go_end0
 refine ⟨rfl, ?_, Below.setCell B4.out (by simp) _⟩
 rw [HI.out]
 exact K4.out.set 2 _
end Go.Proofs.YtaenoiffamgcfaaGreatDoor
