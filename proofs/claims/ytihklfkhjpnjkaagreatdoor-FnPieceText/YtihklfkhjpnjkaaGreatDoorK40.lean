import Derived.Test.YtihklfkhjpnjkaaGreatDoorK39
import Derived.Test.YtihklfkhjpnjkaaGreatDoorK35
import Derived.Test.YtihklfkhjpnjkaaGreatDoorK32
import Derived.Test.YtihklfkhjpnjkaaGreatDoorK20
set_option maxHeartbeats 8000000
set_option maxRecDepth 2000
open Go.ChangeShapes Go.WideShapes Go.ChangeAt Go.RowKit
namespace Go.Proofs.YtihklfkhjpnjkaaGreatDoor
theorem nmv_lim (u : ByteArray) : -9223372036854775808 ≤ nmv u ∧ nmv u ≤ 9223372036854775807 := by
 unfold nmv
 split
 ·omega
 ·rename_i h
  split
  ·have h1 : dgB (u.data.toList.take u.data.toList.length) = true := by
    rw [List.take_length]
    cases hd : dgB u.data.toList with
    | true => rfl
    | false => exact absurd (.inr (.inr hd)) h
   have h2 := nmf_lt u.data.toList _ (Nat.le_refl _) h1
   rw [List.take_length] at h2
   have h3 : u.data.toList.length ≤ 9 := by
    have : ¬ 9 < u.size := fun h4 => h (.inr (.inl h4))
    have h5 : u.data.toList.length = u.size := Array.length_toList
    omega
   have h4 : 10 ^ u.data.toList.length ≤ 10 ^ 9 := Nat.pow_le_pow_right (by decide) h3
   omega
  ·omega
theorem sReadPiece_any (s : ByteArray) (w : World) (hs : s.size ≤ 1048576) :
  Calls Tryz.prog 20 #[.string s] w fun e w' => RdA s w w' e ∧ Below w.heap.size w w' := by
 obtain ⟨w0, HW0⟩ : ∃ x, Hid (x = w.alloc (.cells #[.string ⟨#[]⟩, .int .i64 0, .int .i64 0, .int .i64 0, .string ⟨#[]⟩, .slice none 0 0] 33)) := ⟨_, rfl⟩
 obtain ⟨D, HD⟩ : ∃ x, Hid (x = w.heap.size) := ⟨_, rfl⟩
 have hDw : w.heap.size ≤ D := by rw [HD.out]; exact Nat.le_refl _
 have HR0 : Row w0 D 33 #[.string ⟨#[]⟩, .int .i64 0, .int .i64 0, .int .i64 0, .string ⟨#[]⟩, .slice none 0 0] := by rw [HW0.out, HD.out]; exact Row.new w _ _
 have hb0 : Below w.heap.size w w0 := by rw [HW0.out]; exact (Below.refl _ _).alloc (Nat.le_refl _) _
 have KR0 : Hid (∀ W, Below w0.heap.size w0 W → Row W D 33 #[.string ⟨#[]⟩, .int .i64 0, .int .i64 0, .int .i64 0, .string ⟨#[]⟩, .slice none 0 0] ∧ Below w.heap.size w W) := fun W hW => ⟨HR0.below hW HR0.lt, below2 hb0 hW⟩
 have lD0 : D < w0.heap.size := HR0.lt
 have KSp : Hid _ := sWords_any s w0 hs
 obtain ⟨N, HNn⟩ : ∃ x, Hid (wn s = x) := ⟨_, rfl⟩
 rw [HNn.out] at KSp
 obtain ⟨sz, HSZ⟩ : ∃ x, Hid (s.size = x) := ⟨_, rfl⟩
 have hsz : s.size = sz := HSZ.out
 clear hb0 HR0
 go_enter Tryz.func20, Tryz.ntmps20
 go_wp2_with fail
 rw [← HW0.out, ← HD.out]
 refine Calls.mono KSp.out ?_
 rintro e w1 ⟨G, cG, rfl, hO, hb1⟩
 have KT : Hid (TxtAt w1 (some ⟨G, 0, none⟩) N (wq s)) := hO.at
 have KB1 : Hid (Below w0.heap.size w0 w1) := hb1
 clear hO hb1 KSp
 by_cases hn : 6 ≤ N
 case neg =>
  have hni : (N : Int) < 6 := by omega
  have hnq : NoQ s := no_few (by rw [HNn.out]; omega)
  obtain ⟨hRD, hBD⟩ := KR0.out w1 KB1.out
  obtain ⟨w6, HW6⟩ : ∃ x, Hid (x = ((((((w1.setCell ⟨D, 0, none⟩ (.string ⟨#[]⟩)).setCell ⟨D, 1, none⟩ (.int .i64 0)).setCell ⟨D, 2, none⟩ (.int .i64 0)).setCell ⟨D, 3, none⟩ (.int .i64 0)).setCell ⟨D, 4, none⟩ (.string ⟨#[]⟩)).setCell ⟨D, 5, none⟩ (.slice none 0 0))) := ⟨_, rfl⟩
  have R6 : Row w6 D 33 #[.string ⟨#[]⟩, .int .i64 0, .int .i64 0, .int .i64 0, .string ⟨#[]⟩, .slice none 0 0] := by rw [HW6.out]; exact store_done hRD _ _ _ _ _ _
  have B6 : Below w.heap.size w w6 := by rw [HW6.out]; exact below_six hBD hDw _ _ _ _ _ _
  have k0 := R6.cell 0
  have k1 := R6.cell 1
  have k2 := R6.cell 2
  have k3 := R6.cell 3
  have k4 := R6.cell 4
  have k5 := R6.cell 5
  simp at k0 k1 k2 k3 k4 k5
  obtain ⟨st0, st1, st2, st3, st4, st5, st6, st7, st8, st9, st10, st11⟩ := store_facts hRD
  go_wp2
  rw [← HW6.out]
  exact bodyPost_ret (v := .tuple #[.agg pcY, .bool false]) (by simp [results, Tryz.results20, go_sem, k0, k1, k2, k3, k4, k5]) rfl ⟨rdA_no w w6 hnq, B6⟩
 have hni : ¬ (N : Int) < 6 := by omega
 by_cases h9 : sz ≤ 9000
 case neg =>
  have h9i : (9000 : Int) < (sz : Int) := by omega
  have hnq : NoQ s := no_long (by rw [HSZ.out]; omega)
  obtain ⟨hRD, hBD⟩ := KR0.out w1 KB1.out
  obtain ⟨w6, HW6⟩ : ∃ x, Hid (x = ((((((w1.setCell ⟨D, 0, none⟩ (.string ⟨#[]⟩)).setCell ⟨D, 1, none⟩ (.int .i64 0)).setCell ⟨D, 2, none⟩ (.int .i64 0)).setCell ⟨D, 3, none⟩ (.int .i64 0)).setCell ⟨D, 4, none⟩ (.string ⟨#[]⟩)).setCell ⟨D, 5, none⟩ (.slice none 0 0))) := ⟨_, rfl⟩
  have R6 : Row w6 D 33 #[.string ⟨#[]⟩, .int .i64 0, .int .i64 0, .int .i64 0, .string ⟨#[]⟩, .slice none 0 0] := by rw [HW6.out]; exact store_done hRD _ _ _ _ _ _
  have B6 : Below w.heap.size w w6 := by rw [HW6.out]; exact below_six hBD hDw _ _ _ _ _ _
  have k0 := R6.cell 0
  have k1 := R6.cell 1
  have k2 := R6.cell 2
  have k3 := R6.cell 3
  have k4 := R6.cell 4
  have k5 := R6.cell 5
  simp at k0 k1 k2 k3 k4 k5
  obtain ⟨st0, st1, st2, st3, st4, st5, st6, st7, st8, st9, st10, st11⟩ := store_facts hRD
  go_wp2
  rw [← HW6.out]
  exact bodyPost_ret (v := .tuple #[.agg pcY, .bool false]) (by simp [results, Tryz.results20, go_sem, k0, k1, k2, k3, k4, k5]) rfl ⟨rdA_no w w6 hnq, B6⟩
 have h9i : ¬ (9000 : Int) < (sz : Int) := by omega
 have cw : ∀ j, j < N → w1.cell? ⟨G, j, none⟩ = some (.string (wq s j)) := fun j hj => by
  obtain ⟨b, f, e1, e2⟩ := KT.out j hj
  cases e1
  simpa using e2
 have y0 := cw 0 (by omega)
 have y1 := cw 1 (by omega)
 have y2 := cw 2 (by omega)
 have y3 := cw 3 (by omega)
 have y4 := cw 4 (by omega)
 have lG : G < w1.heap.size := block_lt_of_cell y0
 clear cw
 have hz := fun j => Nat.le_trans (wq_le s j) hs
 have z0 := hz 0
 have z1 := hz 1
 have z2 := hz 2
 have z3 := hz 3
 have z4 := hz 4
 obtain ⟨p0, HP0⟩ : ∃ x, Hid (wq s 0 = x) := ⟨_, rfl⟩
 obtain ⟨p1, HP1⟩ : ∃ x, Hid (wq s 1 = x) := ⟨_, rfl⟩
 obtain ⟨p2, HP2⟩ : ∃ x, Hid (wq s 2 = x) := ⟨_, rfl⟩
 obtain ⟨p3, HP3⟩ : ∃ x, Hid (wq s 3 = x) := ⟨_, rfl⟩
 obtain ⟨p4, HP4⟩ : ∃ x, Hid (wq s 4 = x) := ⟨_, rfl⟩
 rw [HP0.out] at y0 z0
 rw [HP1.out] at y1 z1
 rw [HP2.out] at y2 z2
 rw [HP3.out] at y3 z3
 rw [HP4.out] at y4 z4
 have KS : Hid (∀ W, Below w1.heap.size w1 W → W.cell? ⟨G, 0, none⟩ = some (.string p0) ∧ W.cell? ⟨G, 1, none⟩ = some (.string p1) ∧ W.cell? ⟨G, 2, none⟩ = some (.string p2) ∧ W.cell? ⟨G, 3, none⟩ = some (.string p3) ∧ W.cell? ⟨G, 4, none⟩ = some (.string p4)) := fun W hW => ⟨(hW.cell (p := ⟨G, 0, none⟩) lG).trans y0, (hW.cell (p := ⟨G, 1, none⟩) lG).trans y1, (hW.cell (p := ⟨G, 2, none⟩) lG).trans y2, (hW.cell (p := ⟨G, 3, none⟩) lG).trans y3, (hW.cell (p := ⟨G, 4, none⟩) lG).trans y4⟩
 have KH : Hid (∀ (u : ByteArray) W, u.size ≤ 1048576 → Below w1.heap.size w1 W → Calls Tryz.prog 55 #[.string u] W fun e w' => e = .returned (.string (hyv u)) ∧ Below w1.heap.size w1 w' ∧ Below W.heap.size W w') := fun u W hu hW => (sBytes07_any u W hu).mono fun e w' ⟨he, hb⟩ => ⟨he, hW.trans (hb.mono hW.size), hb⟩
 have KM : Hid (∀ (u : ByteArray) W, u.size ≤ 1048576 → Below w1.heap.size w1 W → Calls Tryz.prog 56 #[.string u] W fun e w' => e = .returned (.int .i64 (nmv u)) ∧ Below w1.heap.size w1 w' ∧ Below W.heap.size W w') := fun u W hu hW => (sNum07_any u W hu).mono fun e w' ⟨he, hb⟩ => ⟨he, hW.trans (hb.mono hW.size), hb⟩
 clear hz
 have hzz : Below w1.heap.size w1 w1.drew := ⟨rfl, rfl, rfl, Nat.le_refl _, fun _ _ => rfl⟩
 have n0 : 0 < N := by omega
 have n1 : (1 : Int) < (N : Int) := by omega
 have n2 : (2 : Int) < (N : Int) := by omega
 have n3 : (3 : Int) < (N : Int) := by omega
 have n4 : (4 : Int) < (N : Int) := by omega
 go_wp2_with fail
 generalize hv10 : Value.int .i64 (N : Int) = v10
 generalize hv16 : Value.bool (decide ((N : Int) < 6) || decide ((9000 : Int) < (sz : Int))) = v16
 generalize hv11 : Value.bool (decide ((N : Int) < 6)) = v11
 generalize hv15 : Value.bool (decide ((9000 : Int) < (sz : Int))) = v15
 generalize hv14 : Value.int .i64 (sz : Int) = v14
 clear hv10 hv11 hv14 hv15 hv16
 obtain ⟨R, HRR⟩ : ∃ R : Act → World → Prop, Hid (∀ a wx, R a wx ↔ ∃ X, a = ⟨(List.toArray (α := Value) ((.string s) :: undef :: (.pointer (some ⟨D, 0, none⟩)) :: (.bool false) :: (.slice (some ⟨G, 0, none⟩) N cG) :: (.pointer (some ⟨X, 0, none⟩)) :: undef :: (.string s) :: (.slice (some ⟨G, 0, none⟩) N cG) :: (.slice (some ⟨G, 0, none⟩) N cG) :: v10 :: v11 :: v11 :: (.string s) :: v14 :: v15 :: v16 :: undef :: (.slice (some ⟨G, 0, none⟩) N cG) :: (.pointer (some ⟨G, 0, none⟩)) :: (.string p0) :: (.string (hyv p0)) :: (.slice (some ⟨G, 0, none⟩) N cG) :: (.pointer (some ⟨G, 1, none⟩)) :: (.string p1) :: (.int .i64 (nmv p1)) :: (.slice (some ⟨G, 0, none⟩) N cG) :: (.pointer (some ⟨G, 2, none⟩)) :: (.string p2) :: (.int .i64 (nmv p2)) :: (.slice (some ⟨G, 0, none⟩) N cG) :: (.pointer (some ⟨G, 3, none⟩)) :: (.string p3) :: (.int .i64 (nmv p3)) :: (.slice (some ⟨G, 0, none⟩) N cG) :: (.pointer (some ⟨G, 4, none⟩)) :: (.string p4) :: (.string (hyv p4)) :: (.agg #[.string (hyv p0), .int .i64 (nmv p1), .int .i64 (nmv p2), .int .i64 (nmv p3), .string (hyv p4), .slice none 0 0]) :: undef :: undef :: undef :: undef :: undef :: undef :: undef :: undef :: undef :: undef :: undef :: undef :: undef :: undef :: undef :: undef :: undef :: undef :: undef :: undef :: undef :: undef :: undef :: undef :: undef :: undef :: undef :: [])), []⟩ ∧ w1.heap.size ≤ X ∧ Row wx X 33 #[.string (hyv p0), .int .i64 (nmv p1), .int .i64 (nmv p2), .int .i64 (nmv p3), .string (hyv p4), .slice none 0 0] ∧ Below w1.heap.size w1 wx) := ⟨fun a wx => _, fun _ _ => Iff.rfl⟩
 refine wp_region_post R ?_ ?_
 rotate_left
 ·intro a wx hR
  obtain ⟨X, rfl, hX, RX, BX⟩ := (HRR.out a wx).1 hR
  have HSum : Hid ((hyv p0).size + (hyv p4).size + ((N - 6) + tot (fun q => (hyv (wq s (q + 6))).size) (N - 6)) ≤ 1048576) := by
   have h1 := read_sum s hyv hyv_le (by rw [HNn.out]; exact hn)
   rw [HP0.out, HP4.out, HNn.out] at h1
   exact Nat.le_trans h1 hs
  have HRd : Hid (rdM s = ⟨hyv p0, nmv p1, nmv p2, nmv p3, hyv p4, N - 6, fun q => hyv (wq s (q + 6))⟩) := by
   show _ = _
   unfold rdM
   rw [HP0.out, HP1.out, HP2.out, HP3.out, HP4.out, HNn.out]
  have KC : Hid (∀ W, Below w1.heap.size w1 W → ∀ j, j < N → W.cell? ⟨G, j, none⟩ = some (.string (wq s j))) := fun W hW j hj => by
   obtain ⟨b, o, e1, e2⟩ := KT.out j hj
   cases e1
   rw [Nat.zero_add] at e2
   exact (hW.cell (p := ⟨G, j, none⟩) lG).trans e2
  have HLe : Hid (∀ j, (wq s j).size ≤ 1048576) := fun j => Nat.le_trans (wq_le s _) hs
  have KRX : Hid (Row wx X 33 (pcC (hyv p0) (nmv p1) (nmv p2) (nmv p3) (hyv p4) (.slice none 0 0)) ∧ Below w1.heap.size w1 wx) := ⟨RX, BX⟩
  have hDX : D < X + 1 := by have := KB1.out.size; omega
  have hN20 : N ≤ 1048582 := by have h1 := HSum.out; omega
  clear HRR hR RX BX KM HNn HP0 HP1 HP2 HP3 HP4 KS y0 y1 y2 y3 y4 z0 z1 z2 z3 z4 hzz n0 n1 n2 n3 n4 KT
  go_wp2_with fail
  go_loopw [6] (fun v6 wr => ∃ j c : Nat, v6 = .int .i64 (j : Int) ∧ Hid (c + 6 = j ∧ j ≤ N ∧ (∃ a cap, Row wr X 33 (pcC (hyv p0) (nmv p1) (nmv p2) (nmv p3) (hyv p4) (.slice a c cap)) ∧ OwnT wr (X + 1) a c cap (fun q => hyv (wq s (q + 6)))) ∧ Below w1.heap.size w1 wr)) (fun v6 _ => N - (intOf v6).toNat)
  case atStart => exact ⟨6, 0, rfl, rfl, hn, ⟨none, 0, KRX.out.1, OwnT.nil _ _ _⟩, KRX.out.2⟩
  case round =>
   obtain ⟨j, c, rfl, HI⟩ := hrel
   have hcj : c + 6 = j := HI.out.1
   have hjN : j ≤ N := HI.out.2.1
   by_cases hlt : j < N
   ·have hli : (j : Int) < (N : Int) := by omega
    have hcz := HLe.out j
    have HCj : Hid (∀ W, Below w1.heap.size w1 W → W.cell? ⟨G, j, none⟩ = some (.string (wq s j))) := fun W hW => KC.out W hW j hlt
    have HSc : Hid ((fun q => hyv (wq s (q + 6))) c = hyv (wq s j)) := by show hyv (wq s (c + 6)) = _; rw [hcj]
    obtain ⟨a0, cp0, hR0, hO0⟩ := HI.out.2.2.1
    have HA0 : Hid (Row wr X 33 (pcC (hyv p0) (nmv p1) (nmv p2) (nmv p3) (hyv p4) (.slice a0 c cp0)) ∧ OwnT wr (X + 1) a0 c cp0 (fun q => hyv (wq s (q + 6))) ∧ Below w1.heap.size w1 wr) := ⟨hR0, hO0, HI.out.2.2.2⟩
    obtain ⟨pc, HPc⟩ : ∃ x, Hid (wq s j = x) := ⟨_, rfl⟩
    rw [HPc.out] at hcz HCj HSc
    obtain ⟨SS, HSS⟩ : ∃ x, Hid ((fun q => hyv (wq s (q + 6))) = x) := ⟨_, rfl⟩
    rw [HSS.out] at HA0 HSc
    clear hR0 hO0 HI
    go_wp2_with fail
    obtain ⟨R7, HR7⟩ : ∃ R : Act → World → Prop, Hid (∀ a W, R a W ↔ ∃ (x0 x1 x2 x3 x4 x5 x6 x7 x8 x9 : Value) (g cp : Nat), a = ⟨(List.toArray (α := Value) ((.string s) :: undef :: (.pointer (some ⟨D, 0, none⟩)) :: (.bool false) :: (.slice (some ⟨G, 0, none⟩) N cG) :: (.pointer (some ⟨X, 0, none⟩)) :: (.int .i64 (j : Int)) :: (.string s) :: (.slice (some ⟨G, 0, none⟩) N cG) :: (.slice (some ⟨G, 0, none⟩) N cG) :: v10 :: v11 :: v11 :: (.string s) :: v14 :: v15 :: v16 :: undef :: (.slice (some ⟨G, 0, none⟩) N cG) :: (.pointer (some ⟨G, 0, none⟩)) :: (.string p0) :: (.string (hyv p0)) :: (.slice (some ⟨G, 0, none⟩) N cG) :: (.pointer (some ⟨G, 1, none⟩)) :: (.string p1) :: (.int .i64 (nmv p1)) :: (.slice (some ⟨G, 0, none⟩) N cG) :: (.pointer (some ⟨G, 2, none⟩)) :: (.string p2) :: (.int .i64 (nmv p2)) :: (.slice (some ⟨G, 0, none⟩) N cG) :: (.pointer (some ⟨G, 3, none⟩)) :: (.string p3) :: (.int .i64 (nmv p3)) :: (.slice (some ⟨G, 0, none⟩) N cG) :: (.pointer (some ⟨G, 4, none⟩)) :: (.string p4) :: (.string (hyv p4)) :: (.agg #[.string (hyv p0), .int .i64 (nmv p1), .int .i64 (nmv p2), .int .i64 (nmv p3), .string (hyv p4), .slice none 0 0]) :: (.int .i64 (j : Int)) :: (.slice (some ⟨G, 0, none⟩) N cG) :: (.int .i64 (N : Int)) :: (.bool true) :: u43 :: u44 :: x0 :: x1 :: x2 :: x3 :: x4 :: x5 :: x6 :: x7 :: x8 :: x9 :: undef :: undef :: undef :: undef :: undef :: undef :: undef :: undef :: undef :: undef :: undef :: [])), []⟩ ∧ Row W X 33 (pcC (hyv p0) (nmv p1) (nmv p2) (nmv p3) (hyv p4) (.slice (some ⟨g, 0, none⟩) (c + 1) cp)) ∧ OwnT W (X + 1) (some ⟨g, 0, none⟩) (c + 1) cp SS ∧ Below w1.heap.size w1 W) := ⟨fun a W => _, fun _ _ => Iff.rfl⟩
    refine wp_region_post R7 ?_ ?_
    rotate_left
    ·intro a9 wx9 hR9
     obtain ⟨x0, x1, x2, x3, x4, x5, x6, x7, x8, x9, g9, cp9, rfl, RX9, OX9, BX9⟩ := (HR7.out a9 wx9).1 hR9
     have HX9 : Hid (Row wx9 X 33 (pcC (hyv p0) (nmv p1) (nmv p2) (nmv p3) (hyv p4) (.slice (some ⟨g9, 0, none⟩) (c + 1) cp9)) ∧ OwnT wx9 (X + 1) (some ⟨g9, 0, none⟩) (c + 1) cp9 SS ∧ Below w1.heap.size w1 wx9) := ⟨RX9, OX9, BX9⟩
     clear RX9 OX9 BX9 hR9 HR7
     go_wp2_with fail
     go_roundw
     case rel => exact ⟨j + 1, c + 1, by go_num, by omega, by omega, ⟨some ⟨g9, 0, none⟩, cp9, HX9.out.1, by rw [HSS.out]; exact HX9.out.2.1⟩, HX9.out.2.2⟩
     case measure => simp [intOf]; omega
    refine wp_region_inv Tryz.mixed (by kernel_rfl) (fun L a W => ∃ x y : Value, a = ⟨(List.toArray (α := Value) ((.string s) :: undef :: (.pointer (some ⟨D, 0, none⟩)) :: (.bool false) :: (.slice (some ⟨G, 0, none⟩) N cG) :: (.pointer (some ⟨X, 0, none⟩)) :: (.int .i64 (j : Int)) :: (.string s) :: (.slice (some ⟨G, 0, none⟩) N cG) :: (.slice (some ⟨G, 0, none⟩) N cG) :: v10 :: v11 :: v11 :: (.string s) :: v14 :: v15 :: v16 :: undef :: (.slice (some ⟨G, 0, none⟩) N cG) :: (.pointer (some ⟨G, 0, none⟩)) :: (.string p0) :: (.string (hyv p0)) :: (.slice (some ⟨G, 0, none⟩) N cG) :: (.pointer (some ⟨G, 1, none⟩)) :: (.string p1) :: (.int .i64 (nmv p1)) :: (.slice (some ⟨G, 0, none⟩) N cG) :: (.pointer (some ⟨G, 2, none⟩)) :: (.string p2) :: (.int .i64 (nmv p2)) :: (.slice (some ⟨G, 0, none⟩) N cG) :: (.pointer (some ⟨G, 3, none⟩)) :: (.string p3) :: (.int .i64 (nmv p3)) :: (.slice (some ⟨G, 0, none⟩) N cG) :: (.pointer (some ⟨G, 4, none⟩)) :: (.string p4) :: (.string (hyv p4)) :: (.agg #[.string (hyv p0), .int .i64 (nmv p1), .int .i64 (nmv p2), .int .i64 (nmv p3), .string (hyv p4), .slice none 0 0]) :: (.int .i64 (j : Int)) :: (.slice (some ⟨G, 0, none⟩) N cG) :: (.int .i64 (N : Int)) :: (.bool true) :: u43 :: u44 :: (cW (L 0) (.pointer (some ⟨X, 5, none⟩)) u45) :: (cW (L 1) (.slice a0 c cp0) u46) :: (cW (L 2) (.slice (some ⟨G, 0, none⟩) N cG) u47) :: (cW (L 3) (.int .i64 (j : Int)) u48) :: (cW (L 4) (.pointer (some ⟨G, j, none⟩)) u49) :: (cW (L 5) (.string pc) u50) :: (cW (L 6) (.string (hyv pc)) u51) :: x :: y :: (cW (L 9) (.pointer (some ⟨X, 5, none⟩)) u54) :: undef :: undef :: undef :: undef :: undef :: undef :: undef :: undef :: undef :: undef :: undef :: [])), []⟩ ∧ ApS w1 W X (hyv p0) (nmv p1) (nmv p2) (nmv p3) (hyv p4) SS a0 c cp0 (hyv pc) x y (L 7) (L 8) (L 10) ∧ True ∧ (L 7 = true → L 6 = true) ∧ (L 8 = true → L 7 = true ∧ L 1 = true) ∧ (L 10 = true → L 8 = true)) ?_ ?_ ?_
    ·exact ⟨u52, u53, rfl, ((ApS.start HA0.out.2.2 hX HA0.out.1 HA0.out.2.1).below ⟨rfl, rfl, rfl, Nat.le_refl _, fun _ _ => rfl⟩), trivial, (fun h => by cases h), (fun h => by cases h), (fun h => by cases h)⟩
    ·intro i9 hi9 L a9 W hl hd hI9
     obtain ⟨x, y, rfl, hA, hf9, u1, u2, u3⟩ := hI9
     match i9, hi9 with
     | 0, _ =>
      refine wpOp_plain rfl (fun _ => rfl) fun K hK => ?_
      have hB9 := hA.fb
      have hcc := HCj.out W hB9
      go_simp
      exact hK _ _ ⟨x, y, by simp only [Nat.reduceBEq, Bool.false_or, Bool.true_or, cW_y], hA, hf9, u1, u2, u3⟩
     | 1, _ =>
      have d0 := hd.dep 0 (by kernel_rfl)
      have e8 : L 8 = false := by cases h : L 8 with | false => rfl | true => rw [(u2 h).2] at hl; cases hl
      have e10 : L 10 = false := by cases h : L 10 with | false => rfl | true => rw [u3 h] at e8; cases e8
      refine wpOp_plain rfl (fun _ => rfl) fun K hK => ?_
      simp only [d0, cW_y]
      rw [e8, e10] at hA
      have s0 := hA.old
      have hB9 := hA.fb
      have hcc := HCj.out W hB9
      go_simp
      exact hK _ _ ⟨x, y, by simp only [Nat.reduceBEq, Bool.false_or, Bool.true_or, cW_y, d0], (by simp only [Nat.reduceBEq, Bool.false_or, e8, e10]; exact hA), hf9, u1, (fun h => by rw [show L 8 = true from h] at e8; cases e8), u3⟩
     | 2, _ =>
      refine wpOp_plain rfl (fun _ => rfl) fun K hK => ?_
      have hB9 := hA.fb
      have hcc := HCj.out W hB9
      go_simp
      exact hK _ _ ⟨x, y, by simp only [Nat.reduceBEq, Bool.false_or, Bool.true_or, cW_y], hA, hf9, u1, u2, u3⟩
     | 3, _ =>
      refine wpOp_plain rfl (fun _ => rfl) fun K hK => ?_
      have hB9 := hA.fb
      have hcc := HCj.out W hB9
      go_simp
      exact hK _ _ ⟨x, y, by simp only [Nat.reduceBEq, Bool.false_or, Bool.true_or, cW_y], hA, hf9, u1, u2, u3⟩
     | 4, _ =>
      have d2 := hd.dep 2 (by kernel_rfl)
      have d3 := hd.dep 3 (by kernel_rfl)
      refine wpOp_plain rfl (fun _ => rfl) fun K hK => ?_
      simp only [d2, d3, cW_y]
      have hB9 := hA.fb
      have hcc := HCj.out W hB9
      go_simp
      exact hK _ _ ⟨x, y, by simp only [Nat.reduceBEq, Bool.false_or, Bool.true_or, cW_y, d2, d3], hA, hf9, u1, u2, u3⟩
     | 5, _ =>
      have d4 := hd.dep 4 (by kernel_rfl)
      refine wpOp_plain rfl (fun _ => rfl) fun K hK => ?_
      simp only [d4, cW_y]
      have hB9 := hA.fb
      have hcc := HCj.out W hB9
      go_simp
      exact hK _ _ ⟨x, y, by simp only [Nat.reduceBEq, Bool.false_or, Bool.true_or, cW_y, d4], hA, hf9, u1, u2, u3⟩
     | 6, _ =>
      have d5 := hd.dep 5 (by kernel_rfl)
      have e7 : L 7 = false := by cases h : L 7 with | false => rfl | true => rw [u1 h] at hl; cases hl
      have e8 : L 8 = false := by cases h : L 8 with | false => rfl | true => rw [(u2 h).1] at e7; cases e7
      have e10 : L 10 = false := by cases h : L 10 with | false => rfl | true => rw [u3 h] at e8; cases e8
      refine wpOp_plain rfl (fun _ => rfl) fun K hK => ?_
      simp only [d5, cW_y]
      rw [e7, e8, e10] at hA
      have hB9 := hA.fb
      have hcc := HCj.out W hB9
      go_simp
      refine Calls.mono (KH.out pc W hcz hB9) ?_
      rintro e w9 ⟨rfl, hzn, hb⟩
      exact hK _ _ ⟨x, y, by simp only [Nat.reduceBEq, Bool.false_or, Bool.true_or, cW_y, d5], (by simp only [Nat.reduceBEq, Bool.false_or, e7, e8, e10]; exact hA.below hb), trivial, fun _ => rfl, u2, u3⟩
     | 7, _ =>
      have d6 := hd.dep 6 (by kernel_rfl)
      have e7 := hl
      have e8 : L 8 = false := by cases h : L 8 with | false => rfl | true => rw [(u2 h).1] at e7; cases e7
      have e10 : L 10 = false := by cases h : L 10 with | false => rfl | true => rw [u3 h] at e8; cases e8
      refine wpOp_plain rfl (fun _ => rfl) fun K hK => ?_
      simp only [d6, cW_y]
      rw [e7, e8, e10] at hA
      go_simp
      exact hK _ _ ⟨.slice (some ⟨W.heap.size, 0, none⟩) 1 1, y, by simp only [Nat.reduceBEq, Bool.false_or, cW_y, d6], (by simp only [Nat.reduceBEq, Bool.false_or, Bool.true_or, e8, e10]; exact hA.build), hf9, fun _ => d6, (fun h => by rw [show L 8 = true from h] at e8; cases e8), u3⟩
     | 8, _ =>
      have d1 := hd.dep 1 (by kernel_rfl)
      have d7 := hd.dep 7 (by kernel_rfl)
      have e8 := hl
      have e10 : L 10 = false := by cases h : L 10 with | false => rfl | true => rw [u3 h] at e8; cases e8
      refine wpOp_plain rfl (fun _ => rfl) fun K hK => ?_
      simp only [d1, cW_y]
      obtain ⟨i0, hi0, hz0, hz1, hz2⟩ := info_parts Tryz.infoStr
      have db := d7
      rw [db, e8, e10] at hA
      obtain ⟨Y, rfl, hY⟩ := hA.fn rfl
      obtain ⟨hr9, ho9⟩ := hA.fp rfl
      have hlt9 := hA.fl
      refine wp_append_lies W _ _ 31 rfl (X + 1) 9 i0 (.string ByteArray.empty) 1 16 Tryz.underlying31 hi0 hz0 hz1 hz2 rfl (by decide) (.slice a0 c cp0) c _ (by rfl) ho9 ⟨Y, 0, none⟩ 1 1 [.string (hyv pc)] (by rfl) (by rfl) (World.news_of_block (hY rfl)) (by simp [Value.oneCell']) (by decide) (by unfold maxLen; omega) (by omega) (by omega) W.heap.size rfl ?_
      intro g9 cp9 w9 hown9 hgrow9 _ _
      exact hK _ _ ⟨.slice (some ⟨Y, 0, none⟩) 1 1, .slice (some ⟨g9, 0, none⟩) (c + 1) cp9, (by simp [Act.put, cW_y, d1]), (by simp only [Nat.reduceBEq, Bool.false_or, Bool.true_or, db, e10]; exact hA.put HSc.out hown9 hgrow9), hf9, u1, (fun _ => ⟨db, d1⟩), fun _ => rfl⟩
     | 9, _ =>
      refine wpOp_plain rfl (fun _ => rfl) fun K hK => ?_
      have hB9 := hA.fb
      have hcc := HCj.out W hB9
      go_simp
      exact hK _ _ ⟨x, y, by simp only [Nat.reduceBEq, Bool.false_or, Bool.true_or, cW_y], hA, hf9, u1, u2, u3⟩
     | 10, _ =>
      have d9 := hd.dep 9 (by kernel_rfl)
      have d8 := hd.dep 8 (by kernel_rfl)
      refine wpOp_plain rfl (fun _ => rfl) fun K hK => ?_
      simp only [d9, cW_y]
      have e9 := hl
      have da := d8
      have db := (u2 da).1
      have dl := (u2 da).2
      have dc := u1 db
      rw [da, e9] at hA
      obtain ⟨g9, cp9, rfl, ho9, hr9, _⟩ := hA.fq rfl
      have s0 := (hr9 rfl).cell 5
      have s1 := (hr9 rfl).free 5
      simp at s0
      go_simp
      exact hK _ _ ⟨x, .slice (some ⟨g9, 0, none⟩) (c + 1) cp9, (by simp only [Nat.reduceBEq, Bool.false_or, dl, dc, cW_y, d9]), (by simp only [Nat.reduceBEq, Bool.false_or, Bool.true_or, da]; exact hA.store db), hf9, u1, u2, fun _ => da⟩
     | n9 + 11, h => exact absurd h (by simp)
    ·intro L a9 W hall hI9
     obtain ⟨x, y, rfl, hA, hf9, u1, u2, u3⟩ := hI9
     rw [hall 7 (by decide), hall 8 (by decide), hall 10 (by decide)] at hA
     obtain ⟨g9, cp9, rfl, ho9, _, hr9⟩ := hA.fq rfl
     exact (HR7.out _ _).2 ⟨_, _, _, _, _, _, _, _, _, _, g9, cp9, rfl, hr9 rfl, ho9, hA.fb⟩
   ·obtain rfl : j = N := by omega
    obtain ⟨a0, cp0, hR0, hO0⟩ := HI.out.2.2.1
    have hcc : c = j - 6 := by omega
    have hnn : ¬ (j : Int) < (j : Int) := by omega
    have HBw : Hid (Below w1.heap.size w1 wr) := HI.out.2.2.2
    rw [← hcc] at HSum HRd
    clear hcc
    obtain ⟨SS, HSS⟩ : ∃ x, Hid ((fun q => hyv (wq s (q + 6))) = x) := ⟨_, rfl⟩
    rw [HSS.out] at HRd hO0
    have HSum' : Hid ((hyv p0).size + (hyv p4).size + (c + tot (fun q => (SS q).size) c) ≤ 1048576) := by rw [← HSS.out]; exact HSum
    have HNo : Hid (¬ (okP (hyv p0) (nmv p1) (nmv p2) (nmv p3) (hyv p4) c SS = true ∧ pieceT (hyv p0) (nmv p1) (nmv p2) (nmv p3) (hyv p4) c SS = s) → NoQ s) := fun h => no_model (by rw [HRd.out]; exact h)
    have HYe : Hid (okP (hyv p0) (nmv p1) (nmv p2) (nmv p3) (hyv p4) c SS = true → pieceT (hyv p0) (nmv p1) (nmv p2) (nmv p3) (hyv p4) c SS = s → ∀ (W W' : World), OwnT W' W.heap.size a0 c cp0 SS → RdA s W W' (.returned (.tuple #[pcV (hyv p0) (nmv p1) (nmv p2) (nmv p3) (hyv p4) (.slice a0 c cp0), .bool true]))) := fun h1 h2 W W' ho => ⟨⟨hyv p0, nmv p1, nmv p2, nmv p3, hyv p4, c, SS⟩, true, a0, cp0, rfl, ho, .inl ⟨rfl, h1, h2⟩⟩
    have hSL : ∀ q, q < c → (SS q).size ≤ maxLen := fun q hq => by
     have h1 := tot_at (fun q => (SS q).size) hq
     have h2 : (SS q).size ≤ tot (fun q => (SS q).size) c := h1
     have h3 : (1048576 : Nat) ≤ maxLen := by decide
     have h4 := HSum'.out
     omega
    have KTX : Hid _ := sPieceText_any (hyv p0) (nmv p1) (nmv p2) (nmv p3) (hyv p4) a0 c cp0 SS wr hO0.at HSum'.out (nmv_lim p1) (nmv_lim p2) (nmv_lim p3)
    have KOK : Hid (∀ W, TxtAt W a0 c SS → Calls Tryz.prog 23 #[pcV (hyv p0) (nmv p1) (nmv p2) (nmv p3) (hyv p4) (.slice a0 c cp0)] W fun e w' => e = .returned (.bool (okP (hyv p0) (nmv p1) (nmv p2) (nmv p3) (hyv p4) c SS)) ∧ Below W.heap.size W w') := fun W hW => sPieceOk_any (hyv p0) (nmv p1) (nmv p2) (nmv p3) (hyv p4) a0 c cp0 SS W hW (by omega) hSL
    have HO0 : Hid (OwnT wr (X + 1) a0 c cp0 SS) := hO0
    have HR0 : Hid (Row wr X 33 (pcC (hyv p0) (nmv p1) (nmv p2) (nmv p3) (hyv p4) (.slice a0 c cp0))) := hR0
    clear hSL HSum HSum' HRd KC HLe KRX KH HI hO0 hR0
    have x0 := HR0.out.cell 0
    have x1 := HR0.out.cell 1
    have x2 := HR0.out.cell 2
    have x3 := HR0.out.cell 3
    have x4 := HR0.out.cell 4
    have x5 := HR0.out.cell 5
    simp at x0 x1 x2 x3 x4 x5
    go_wp2_with fail
    refine Calls.mono KTX.out ?_
    rintro e w5 ⟨rfl, hb5⟩
    have HB5 : Hid (Below w1.heap.size w1 w5) := HBw.out.trans (hb5.mono HBw.out.size)
    have HO5 : Hid (OwnT w5 (X + 1) a0 c cp0 SS) := HO0.out.below hb5
    have HR5 : Hid (Row w5 X 33 (pcC (hyv p0) (nmv p1) (nmv p2) (nmv p3) (hyv p4) (.slice a0 c cp0))) := HR0.out.below hb5 HR0.out.lt
    obtain ⟨tx, HTX⟩ : ∃ x, Hid (pieceT (hyv p0) (nmv p1) (nmv p2) (nmv p3) (hyv p4) c SS = x) := ⟨_, rfl⟩
    rw [HTX.out] at HNo HYe
    rw [HTX.out]
    clear KTX hb5
    by_cases heq : tx = s
    case neg =>
     have heq1 : (tx.toList != s.toList) = true := by rw [bne, ba_ne heq]; rfl
     have heq2 : (tx.toList == s.toList) = false := ba_ne heq
     have heq3 : ¬ tx.toList = s.toList := fun h => by rw [h] at heq2; simp at heq2
     have hnq : NoQ s := HNo.out fun h => heq h.2
     obtain ⟨hRD, hBD⟩ := KR0.out w5 (below2 KB1.out HB5.out)
     obtain ⟨w6, HW6⟩ : ∃ x, Hid (x = ((((((w5.setCell ⟨D, 0, none⟩ (.string ⟨#[]⟩)).setCell ⟨D, 1, none⟩ (.int .i64 0)).setCell ⟨D, 2, none⟩ (.int .i64 0)).setCell ⟨D, 3, none⟩ (.int .i64 0)).setCell ⟨D, 4, none⟩ (.string ⟨#[]⟩)).setCell ⟨D, 5, none⟩ (.slice none 0 0))) := ⟨_, rfl⟩
     have R6 : Row w6 D 33 #[.string ⟨#[]⟩, .int .i64 0, .int .i64 0, .int .i64 0, .string ⟨#[]⟩, .slice none 0 0] := by rw [HW6.out]; exact store_done hRD _ _ _ _ _ _
     have B6 : Below w.heap.size w w6 := by rw [HW6.out]; exact below_six hBD hDw _ _ _ _ _ _
     have k0 := R6.cell 0
     have k1 := R6.cell 1
     have k2 := R6.cell 2
     have k3 := R6.cell 3
     have k4 := R6.cell 4
     have k5 := R6.cell 5
     simp at k0 k1 k2 k3 k4 k5
     obtain ⟨st0, st1, st2, st3, st4, st5, st6, st7, st8, st9, st10, st11⟩ := store_facts hRD
     go_wp2
     rw [← HW6.out]
     exact bodyPost_ret (v := .tuple #[.agg pcY, .bool false]) (by simp [results, Tryz.results20, go_sem, k0, k1, k2, k3, k4, k5]) rfl ⟨rdA_no w w6 hnq, B6⟩
    have heq1 : (tx.toList != s.toList) = false := by rw [heq]; simp
    have heq3 : tx.toList = s.toList := by rw [heq]
    have x0 := HR5.out.cell 0
    have x1 := HR5.out.cell 1
    have x2 := HR5.out.cell 2
    have x3 := HR5.out.cell 3
    have x4 := HR5.out.cell 4
    have x5 := HR5.out.cell 5
    simp at x0 x1 x2 x3 x4 x5
    go_wp2_with fail
    refine Calls.mono (KOK.out w5 HO5.out.at) ?_
    rintro e w7 ⟨rfl, hb7⟩
    have HB7 : Hid (Below w1.heap.size w1 w7) := HB5.out.trans (hb7.mono HB5.out.size)
    have HO7 : Hid (OwnT w7 (X + 1) a0 c cp0 SS) := HO5.out.below hb7
    have HR7 : Hid (Row w7 X 33 (pcC (hyv p0) (nmv p1) (nmv p2) (nmv p3) (hyv p4) (.slice a0 c cp0))) := HR5.out.below hb7 HR5.out.lt
    obtain ⟨hRD, hBD⟩ := KR0.out w7 (below2 KB1.out HB7.out)
    obtain ⟨ok, HOK⟩ : ∃ x, Hid (okP (hyv p0) (nmv p1) (nmv p2) (nmv p3) (hyv p4) c SS = x) := ⟨_, rfl⟩
    rw [HOK.out] at HNo HYe
    rw [HOK.out]
    clear x0 x1 x2 x3 x4 x5 KOK hb7
    cases ok with
    | false =>
     have hnq : NoQ s := HNo.out fun h => by cases h.1
     obtain ⟨w6, HW6⟩ : ∃ x, Hid (x = ((((((w7.setCell ⟨D, 0, none⟩ (.string ⟨#[]⟩)).setCell ⟨D, 1, none⟩ (.int .i64 0)).setCell ⟨D, 2, none⟩ (.int .i64 0)).setCell ⟨D, 3, none⟩ (.int .i64 0)).setCell ⟨D, 4, none⟩ (.string ⟨#[]⟩)).setCell ⟨D, 5, none⟩ (.slice none 0 0))) := ⟨_, rfl⟩
     have R6 : Row w6 D 33 #[.string ⟨#[]⟩, .int .i64 0, .int .i64 0, .int .i64 0, .string ⟨#[]⟩, .slice none 0 0] := by rw [HW6.out]; exact store_done hRD _ _ _ _ _ _
     have B6 : Below w.heap.size w w6 := by rw [HW6.out]; exact below_six hBD hDw _ _ _ _ _ _
     have k0 := R6.cell 0
     have k1 := R6.cell 1
     have k2 := R6.cell 2
     have k3 := R6.cell 3
     have k4 := R6.cell 4
     have k5 := R6.cell 5
     simp at k0 k1 k2 k3 k4 k5
     obtain ⟨st0, st1, st2, st3, st4, st5, st6, st7, st8, st9, st10, st11⟩ := store_facts hRD
     go_wp2
     rw [← HW6.out]
     exact bodyPost_ret (v := .tuple #[.agg pcY, .bool false]) (by simp [results, Tryz.results20, go_sem, k0, k1, k2, k3, k4, k5]) rfl ⟨rdA_no w w6 hnq, B6⟩
    | true =>
     have x0 := HR7.out.cell 0
     have x1 := HR7.out.cell 1
     have x2 := HR7.out.cell 2
     have x3 := HR7.out.cell 3
     have x4 := HR7.out.cell 4
     have x5 := HR7.out.cell 5
     simp at x0 x1 x2 x3 x4 x5
     obtain ⟨w6, HW6⟩ : ∃ x, Hid (x = ((((((w7.setCell ⟨D, 0, none⟩ (.string (hyv p0))).setCell ⟨D, 1, none⟩ (.int .i64 (nmv p1))).setCell ⟨D, 2, none⟩ (.int .i64 (nmv p2))).setCell ⟨D, 3, none⟩ (.int .i64 (nmv p3))).setCell ⟨D, 4, none⟩ (.string (hyv p4))).setCell ⟨D, 5, none⟩ (.slice a0 c cp0))) := ⟨_, rfl⟩
     have R6 : Row w6 D 33 #[.string (hyv p0), .int .i64 (nmv p1), .int .i64 (nmv p2), .int .i64 (nmv p3), .string (hyv p4), .slice a0 c cp0] := by rw [HW6.out]; exact store_done hRD _ _ _ _ _ _
     have B6 : Below w.heap.size w w6 := by rw [HW6.out]; exact below_six hBD hDw _ _ _ _ _ _
     have O6 : OwnT w6 w.heap.size a0 c cp0 SS := by rw [HW6.out]; exact (own_six HO7.out hDX _ _ _ _ _ _).base (by omega)
     have k0 := R6.cell 0
     have k1 := R6.cell 1
     have k2 := R6.cell 2
     have k3 := R6.cell 3
     have k4 := R6.cell 4
     have k5 := R6.cell 5
     simp at k0 k1 k2 k3 k4 k5
     obtain ⟨st0, st1, st2, st3, st4, st5, st6, st7, st8, st9, st10, st11⟩ := store_facts hRD
     go_wp2
     rw [← HW6.out]
     exact bodyPost_ret (v := .tuple #[pcV (hyv p0) (nmv p1) (nmv p2) (nmv p3) (hyv p4) (.slice a0 c cp0), .bool true]) (by simp [results, Tryz.results20, go_sem, k0, k1, k2, k3, k4, k5]) rfl ⟨HYe.out (by trivial) heq w w6 O6, B6⟩
 refine wp_region_inv Tryz.mixed (by kernel_rfl) (fun L a W => ∃ u : Value, a = ⟨(List.toArray (α := Value) ((.string s) :: undef :: (.pointer (some ⟨D, 0, none⟩)) :: (.bool false) :: (.slice (some ⟨G, 0, none⟩) N cG) :: u :: undef :: (.string s) :: (.slice (some ⟨G, 0, none⟩) N cG) :: (.slice (some ⟨G, 0, none⟩) N cG) :: v10 :: v11 :: v11 :: (.string s) :: v14 :: v15 :: v16 :: undef :: (cV (L 0) (.slice (some ⟨G, 0, none⟩) N cG)) :: (cV (L 1) (.pointer (some ⟨G, 0, none⟩))) :: (cV (L 2) (.string p0)) :: (cV (L 3) (.string (hyv p0))) :: (cV (L 4) (.slice (some ⟨G, 0, none⟩) N cG)) :: (cV (L 5) (.pointer (some ⟨G, 1, none⟩))) :: (cV (L 6) (.string p1)) :: (cV (L 7) (.int .i64 (nmv p1))) :: (cV (L 8) (.slice (some ⟨G, 0, none⟩) N cG)) :: (cV (L 9) (.pointer (some ⟨G, 2, none⟩))) :: (cV (L 10) (.string p2)) :: (cV (L 11) (.int .i64 (nmv p2))) :: (cV (L 12) (.slice (some ⟨G, 0, none⟩) N cG)) :: (cV (L 13) (.pointer (some ⟨G, 3, none⟩))) :: (cV (L 14) (.string p3)) :: (cV (L 15) (.int .i64 (nmv p3))) :: (cV (L 16) (.slice (some ⟨G, 0, none⟩) N cG)) :: (cV (L 17) (.pointer (some ⟨G, 4, none⟩))) :: (cV (L 18) (.string p4)) :: (cV (L 19) (.string (hyv p4))) :: (cV (L 20) (.agg #[.string (hyv p0), .int .i64 (nmv p1), .int .i64 (nmv p2), .int .i64 (nmv p3), .string (hyv p4), .slice none 0 0])) :: undef :: undef :: undef :: undef :: undef :: undef :: undef :: undef :: undef :: undef :: undef :: undef :: undef :: undef :: undef :: undef :: undef :: undef :: undef :: undef :: undef :: undef :: undef :: undef :: undef :: undef :: undef :: [])), []⟩ ∧ Below w1.heap.size w1 W ∧ (True) ∧ (L 22 = true → L 21 = true) ∧ (L 21 = true → ∃ X, u = .pointer (some ⟨X, 0, none⟩) ∧ w1.heap.size ≤ X ∧ (L 22 = true → Row W X 33 #[.string (hyv p0), .int .i64 (nmv p1), .int .i64 (nmv p2), .int .i64 (nmv p3), .string (hyv p4), .slice none 0 0]) ∧ (L 22 = false → Row W X 33 #[.string ⟨#[]⟩, .int .i64 0, .int .i64 0, .int .i64 0, .string ⟨#[]⟩, .slice none 0 0]))) ?_ ?_ ?_
 ·refine ⟨undef, rfl, hzz, ?_, ?_, ?_⟩
  ·simp
  ·simp
  ·simp
 ·intro i hi L a W hl hd hI
  obtain ⟨u, rfl, hB, hF, hU, hX⟩ := hI
  obtain ⟨c0, c1, c2, c3, c4⟩ := KS.out W hB
  match i, hi with
  | 0, _ =>
   refine wpOp_plain rfl (fun _ => rfl) fun K hK => ?_
   go_simp
   exact hK _ _ ⟨u, by simp only [Nat.reduceBEq, Bool.false_or, Bool.true_or, cV_y], hB, trivial, hU, hX⟩
  | 1, _ =>
   have d0 := hd.dep 0 (by kernel_rfl)
   refine wpOp_plain rfl (fun _ => rfl) fun K hK => ?_
   simp only [d0, cV_y]
   go_simp
   exact hK _ _ ⟨u, by simp only [Nat.reduceBEq, Bool.false_or, Bool.true_or, cV_y, d0], hB, trivial, hU, hX⟩
  | 2, _ =>
   have d1 := hd.dep 1 (by kernel_rfl)
   refine wpOp_plain rfl (fun _ => rfl) fun K hK => ?_
   simp only [d1, cV_y]
   go_simp
   exact hK _ _ ⟨u, by simp only [Nat.reduceBEq, Bool.false_or, Bool.true_or, cV_y, d1], hB, trivial, hU, hX⟩
  | 3, _ =>
   have d2 := hd.dep 2 (by kernel_rfl)
   refine wpOp_plain rfl (fun _ => rfl) fun K hK => ?_
   simp only [d2, cV_y]
   go_simp
   refine Calls.mono (KH.out p0 W z0 hB) ?_
   rintro e w2 ⟨rfl, hzn, hb⟩
   refine hK _ _ ⟨u, by simp only [Nat.reduceBEq, Bool.false_or, Bool.true_or, cV_y, d2], hzn, trivial, hU, fun h => ?_⟩
   obtain ⟨X, hu, hX1, hX2, hX3⟩ := hX h
   exact ⟨X, hu, hX1, fun h => (hX2 h).below hb (hX2 h).lt, fun h => (hX3 h).below hb (hX3 h).lt⟩
  | 4, _ =>
   refine wpOp_plain rfl (fun _ => rfl) fun K hK => ?_
   go_simp
   exact hK _ _ ⟨u, by simp only [Nat.reduceBEq, Bool.false_or, Bool.true_or, cV_y], hB, trivial, hU, hX⟩
  | 5, _ =>
   have d4 := hd.dep 4 (by kernel_rfl)
   refine wpOp_plain rfl (fun _ => rfl) fun K hK => ?_
   simp only [d4, cV_y]
   go_simp
   exact hK _ _ ⟨u, by simp only [Nat.reduceBEq, Bool.false_or, Bool.true_or, cV_y, d4], hB, trivial, hU, hX⟩
  | 6, _ =>
   have d5 := hd.dep 5 (by kernel_rfl)
   refine wpOp_plain rfl (fun _ => rfl) fun K hK => ?_
   simp only [d5, cV_y]
   go_simp
   exact hK _ _ ⟨u, by simp only [Nat.reduceBEq, Bool.false_or, Bool.true_or, cV_y, d5], hB, trivial, hU, hX⟩
  | 7, _ =>
   have d6 := hd.dep 6 (by kernel_rfl)
   refine wpOp_plain rfl (fun _ => rfl) fun K hK => ?_
   simp only [d6, cV_y]
   go_simp
   refine Calls.mono (KM.out p1 W z1 hB) ?_
   rintro e w2 ⟨rfl, hzn, hb⟩
   refine hK _ _ ⟨u, by simp only [Nat.reduceBEq, Bool.false_or, Bool.true_or, cV_y, d6], hzn, trivial, hU, fun h => ?_⟩
   obtain ⟨X, hu, hX1, hX2, hX3⟩ := hX h
   exact ⟨X, hu, hX1, fun h => (hX2 h).below hb (hX2 h).lt, fun h => (hX3 h).below hb (hX3 h).lt⟩
  | 8, _ =>
   refine wpOp_plain rfl (fun _ => rfl) fun K hK => ?_
   go_simp
   exact hK _ _ ⟨u, by simp only [Nat.reduceBEq, Bool.false_or, Bool.true_or, cV_y], hB, trivial, hU, hX⟩
  | 9, _ =>
   have d8 := hd.dep 8 (by kernel_rfl)
   refine wpOp_plain rfl (fun _ => rfl) fun K hK => ?_
   simp only [d8, cV_y]
   go_simp
   exact hK _ _ ⟨u, by simp only [Nat.reduceBEq, Bool.false_or, Bool.true_or, cV_y, d8], hB, trivial, hU, hX⟩
  | 10, _ =>
   have d9 := hd.dep 9 (by kernel_rfl)
   refine wpOp_plain rfl (fun _ => rfl) fun K hK => ?_
   simp only [d9, cV_y]
   go_simp
   exact hK _ _ ⟨u, by simp only [Nat.reduceBEq, Bool.false_or, Bool.true_or, cV_y, d9], hB, trivial, hU, hX⟩
  | 11, _ =>
   have d10 := hd.dep 10 (by kernel_rfl)
   refine wpOp_plain rfl (fun _ => rfl) fun K hK => ?_
   simp only [d10, cV_y]
   go_simp
   refine Calls.mono (KM.out p2 W z2 hB) ?_
   rintro e w2 ⟨rfl, hzn, hb⟩
   refine hK _ _ ⟨u, by simp only [Nat.reduceBEq, Bool.false_or, Bool.true_or, cV_y, d10], hzn, trivial, hU, fun h => ?_⟩
   obtain ⟨X, hu, hX1, hX2, hX3⟩ := hX h
   exact ⟨X, hu, hX1, fun h => (hX2 h).below hb (hX2 h).lt, fun h => (hX3 h).below hb (hX3 h).lt⟩
  | 12, _ =>
   refine wpOp_plain rfl (fun _ => rfl) fun K hK => ?_
   go_simp
   exact hK _ _ ⟨u, by simp only [Nat.reduceBEq, Bool.false_or, Bool.true_or, cV_y], hB, trivial, hU, hX⟩
  | 13, _ =>
   have d12 := hd.dep 12 (by kernel_rfl)
   refine wpOp_plain rfl (fun _ => rfl) fun K hK => ?_
   simp only [d12, cV_y]
   go_simp
   exact hK _ _ ⟨u, by simp only [Nat.reduceBEq, Bool.false_or, Bool.true_or, cV_y, d12], hB, trivial, hU, hX⟩
  | 14, _ =>
   have d13 := hd.dep 13 (by kernel_rfl)
   refine wpOp_plain rfl (fun _ => rfl) fun K hK => ?_
   simp only [d13, cV_y]
   go_simp
   exact hK _ _ ⟨u, by simp only [Nat.reduceBEq, Bool.false_or, Bool.true_or, cV_y, d13], hB, trivial, hU, hX⟩
  | 15, _ =>
   have d14 := hd.dep 14 (by kernel_rfl)
   refine wpOp_plain rfl (fun _ => rfl) fun K hK => ?_
   simp only [d14, cV_y]
   go_simp
   refine Calls.mono (KM.out p3 W z3 hB) ?_
   rintro e w2 ⟨rfl, hzn, hb⟩
   refine hK _ _ ⟨u, by simp only [Nat.reduceBEq, Bool.false_or, Bool.true_or, cV_y, d14], hzn, trivial, hU, fun h => ?_⟩
   obtain ⟨X, hu, hX1, hX2, hX3⟩ := hX h
   exact ⟨X, hu, hX1, fun h => (hX2 h).below hb (hX2 h).lt, fun h => (hX3 h).below hb (hX3 h).lt⟩
  | 16, _ =>
   refine wpOp_plain rfl (fun _ => rfl) fun K hK => ?_
   go_simp
   exact hK _ _ ⟨u, by simp only [Nat.reduceBEq, Bool.false_or, Bool.true_or, cV_y], hB, trivial, hU, hX⟩
  | 17, _ =>
   have d16 := hd.dep 16 (by kernel_rfl)
   refine wpOp_plain rfl (fun _ => rfl) fun K hK => ?_
   simp only [d16, cV_y]
   go_simp
   exact hK _ _ ⟨u, by simp only [Nat.reduceBEq, Bool.false_or, Bool.true_or, cV_y, d16], hB, trivial, hU, hX⟩
  | 18, _ =>
   have d17 := hd.dep 17 (by kernel_rfl)
   refine wpOp_plain rfl (fun _ => rfl) fun K hK => ?_
   simp only [d17, cV_y]
   go_simp
   exact hK _ _ ⟨u, by simp only [Nat.reduceBEq, Bool.false_or, Bool.true_or, cV_y, d17], hB, trivial, hU, hX⟩
  | 19, _ =>
   have d18 := hd.dep 18 (by kernel_rfl)
   refine wpOp_plain rfl (fun _ => rfl) fun K hK => ?_
   simp only [d18, cV_y]
   go_simp
   refine Calls.mono (KH.out p4 W z4 hB) ?_
   rintro e w2 ⟨rfl, hzn, hb⟩
   refine hK _ _ ⟨u, by simp only [Nat.reduceBEq, Bool.false_or, Bool.true_or, cV_y, d18], hzn, trivial, hU, fun h => ?_⟩
   obtain ⟨X, hu, hX1, hX2, hX3⟩ := hX h
   exact ⟨X, hu, hX1, fun h => (hX2 h).below hb (hX2 h).lt, fun h => (hX3 h).below hb (hX3 h).lt⟩
  | 20, _ =>
   have d3 := hd.dep 3 (by kernel_rfl)
   have d7 := hd.dep 7 (by kernel_rfl)
   have d11 := hd.dep 11 (by kernel_rfl)
   have d15 := hd.dep 15 (by kernel_rfl)
   have d19 := hd.dep 19 (by kernel_rfl)
   refine wpOp_plain rfl (fun _ => rfl) fun K hK => ?_
   simp only [d3, d7, d11, d15, d19, cV_y]
   go_simp
   exact hK _ _ ⟨u, by simp only [Nat.reduceBEq, Bool.false_or, Bool.true_or, cV_y, d3, d7, d11, d15, d19], hB, trivial, hU, hX⟩
  | 21, _ =>
   refine wpOp_plain rfl (fun _ => rfl) fun K hK => ?_
   go_simp
   refine hK _ _ ⟨_, rfl, hB.alloc hB.size _, trivial, fun _ => rfl, fun _ => ⟨_, rfl, hB.size, fun h => ?_, fun _ => Row.new W _ _⟩⟩
   have h1 := hU h
   rw [hl] at h1
   cases h1
  | 22, _ =>
   have d20 := hd.dep 20 (by kernel_rfl)
   have d21 := hd.dep 21 (by kernel_rfl)
   refine wpOp_plain rfl (fun _ => rfl) fun K hK => ?_
   simp only [d20, cV_y]
   obtain ⟨X, rfl, hX1, _, hX2⟩ := hX d21
   have hX2 := hX2 hl
   obtain ⟨st0, st1, st2, st3, st4, st5, st6, st7, st8, st9, st10, st11⟩ := store_facts hX2
   go_simp
   exact hK _ _ ⟨_, by simp only [Nat.reduceBEq, Bool.false_or, cV_y, d20], below_six hB hX1 _ _ _ _ _ _, trivial, fun _ => d21, fun _ => ⟨X, rfl, hX1, fun _ => store_done hX2 _ _ _ _ _ _, fun h => by cases h⟩⟩
  | n + 23, h => exact absurd h (by simp)
 ·intro L a W hall hI
  obtain ⟨u, rfl, hB, hF, hU, hX⟩ := hI
  have e0 := hall 0 (by decide)
  have e1 := hall 1 (by decide)
  have e2 := hall 2 (by decide)
  have e3 := hall 3 (by decide)
  have e4 := hall 4 (by decide)
  have e5 := hall 5 (by decide)
  have e6 := hall 6 (by decide)
  have e7 := hall 7 (by decide)
  have e8 := hall 8 (by decide)
  have e9 := hall 9 (by decide)
  have e10 := hall 10 (by decide)
  have e11 := hall 11 (by decide)
  have e12 := hall 12 (by decide)
  have e13 := hall 13 (by decide)
  have e14 := hall 14 (by decide)
  have e15 := hall 15 (by decide)
  have e16 := hall 16 (by decide)
  have e17 := hall 17 (by decide)
  have e18 := hall 18 (by decide)
  have e19 := hall 19 (by decide)
  have e20 := hall 20 (by decide)
  have e21 := hall 21 (by decide)
  have e22 := hall 22 (by decide)
  obtain ⟨X, rfl, hX1, hX2, _⟩ := hX e21
  simp only [e0, e1, e2, e3, e4, e5, e6, e7, e8, e9, e10, e11, e12, e13, e14, e15, e16, e17, e18, e19, e20, cV_y]
  exact (HRR.out _ _).2 ⟨X, rfl, hX1, hX2 e22, hB⟩
end Go.Proofs.YtihklfkhjpnjkaaGreatDoor
