import Derived.Test.YtaenoiffamgcfaaGreatDoorM26
import Derived.Test.YtaenoiffamgcfaaGreatDoorM22
set_option maxHeartbeats 8000000
set_option maxRecDepth 2000
open Go.ChangeShapes Go.WideShapes Go.ChangeAt Go.RowKit
namespace Go.Proofs.YtaenoiffamgcfaaGreatDoor
structure MkL (W : World) (g G C N : Nat) (M : Nat → Ma) (k : Int) : Prop where
 c : ∀ j u, (maL N M)[j]? = some u → W.cell? ⟨G, j, none⟩ = some u
 l : G < W.heap.size
 n : G ≠ g
 o : N ≤ C
 a : MaA N M k
 b : (N : Int) ≤ k
theorem MkL.grown {W W' : World} {g G C N : Nat} {M : Nat → Ma} {k : Int} (h : MkL W g G C N M k) (hg : W.grownBy W' (some g)) : MkL W' g G C N M k :=
 ⟨fun j u hu => hg.cell (h.c j u hu) (by have := h.n; simp; omega), Nat.lt_of_lt_of_le h.l hg.size, h.n, h.o, h.a, h.b⟩
theorem MkL.below {W W' : World} {g G C N : Nat} {M : Nat → Ma} {k : Int} (h : MkL W g G C N M k) (hb : Below W.heap.size W W') : MkL W' g G C N M k :=
 ⟨fun j u hu => (hb.cell (p := ⟨G, j, none⟩) h.l).trans (h.c j u hu), Nat.lt_of_lt_of_le h.l hb.size, h.n, h.o, h.a, h.b⟩
theorem mkN_le (x : Int) (M : Nat → Ma) (n : Nat) : mkN x M n ≤ n + 1 := by
 unfold mkN
 split <;> omega
theorem MkL.own {W : World} {B g G C N : Nat} {M : Nat → Ma} {k : Int} (h : W.ownsRow B 29 4 (.slice (some ⟨G, 0, none⟩) N C) N (maL N M)) (hB : g < B) (ha : MaA N M k) (hb : (N : Int) ≤ k) : MkL W g G C N M k := by
 have hl := World.ownsRow.lt h G rfl
 refine ⟨fun j u hu => ?_, hl.2, by omega, ?_, ha, hb⟩
 ·have hj : j < N * 4 := by have := (List.getElem?_eq_some_iff.1 hu).1; rw [maL_len] at this; omega
  rw [World.ownsRow.cellAt h j hj]
  exact hu
 ·rcases h.2 with ⟨e, _⟩ | ⟨_, cap, cur, e, _, _, hnc, _, _, _⟩
  ·cases e
  ·cases e; exact hnc
theorem MaA.zero (M : Nat → Ma) : MaA 0 M 0 := ⟨fun i j _ h => by omega, fun i h => by omega⟩
theorem marks_any (g n cap : Nat) (a : Option Addr) (w : World) (hc : Cur w g a n cap) :
  Calls Tryz.prog 19 #[.pointer (some ⟨g, 0, none⟩)] w fun e w' => ∃ N G C M, e = .returned (.slice (some ⟨G, 0, none⟩) N C) ∧ MkL w' g G C N M 12 ∧ w.grownBy w' (some g) ∧ Cur w' g a n cap := by
 have hgl := hc.lt
 obtain ⟨w1, HW1⟩ : ∃ q, Hid (q = w.alloc (.cells #[] 29)) := ⟨_, rfl⟩
 obtain ⟨g0, HG0⟩ : ∃ q, Hid (q = w.heap.size) := ⟨_, rfl⟩
 have hc1 : Cur w1 g a n cap := by rw [HW1.out]; exact hc.alloc _
 have hg1 : w.grownBy w1 (some g) := by rw [HW1.out]; exact World.grownBy_alloc w _ (some g)
 have KL1 : Hid (MkL w1 g g0 0 0 (fun _ => ⟨0, 0, 0, 0⟩) 0) := by
  refine MkL.own (B := w.heap.size) ?_ hgl (MaA.zero _) (Int.le_refl _)
  rw [HW1.out, HG0.out]
  exact World.ownsRow_lit w #[] 0 (Nat.le_refl _) (by unfold maxLen; omega) rfl
 have KC1 : Hid (Cur w1 g a n cap) := hc1
 have KG1 : Hid (w.grownBy w1 (some g)) := hg1
 clear hc hc1 hg1
 go_enter Tryz.func19, Tryz.ntmps19
 go_wp2_with fail
 rw [← HW1.out, ← HG0.out]
 refine (belowN_any g n cap a _ _ KC1.out).mono ?_
 rintro e w2 ⟨t, t0, t1, _, rfl, hg2, hc2⟩
 have t2 := t1 (by omega)
 have KL2 : Hid (MkL w2 g g0 0 0 (fun _ => ⟨0, 0, 0, 0⟩) 0) := KL1.out.grown hg2
 have KG2 : Hid (w.grownBy w2 (some g)) := grownBy_trans KG1.out hg2
 have KC2 : Hid (Cur w2 g a n cap) := hc2
 have HT : Hid (0 ≤ t ∧ t < 12) := ⟨t0, t2⟩
 clear t1 hg2 hc2 HW1 HG0 KL1 KC1 KG1
 go_wp2_with fail
 go_loopw [3, 5] (fun v3 v5 wr => ∃ (k N G C : Nat) (M : Nat → Ma), (k : Int) ≤ t ∧ v5 = .int .i64 (k : Int) ∧ v3 = .slice (some ⟨G, 0, none⟩) N C ∧ Hid (MkL wr g G C N M (k : Int) ∧ w.grownBy wr (some g) ∧ Cur wr g a n cap)) (fun v3 v5 _ => t.toNat - (intOf v5).toNat)
 case atStart => exact ⟨0, 0, g0, 0, _, by omega, rfl, rfl, KL2.out, KG2.out, KC2.out⟩
 case round =>
  obtain ⟨k, N, G, C, M, hk, rfl, rfl, HK⟩ := hrel
  by_cases hlt : (k : Int) < t
  ·go_wp2_with fail
   refine (belowN_any g n cap a _ _ HK.out.2.2).mono ?_
   rintro e w3 ⟨x, x0, x1, _, rfl, hg3, hc3⟩
   have K3 : Hid (MkL w3 g G C N M (k : Int) ∧ w.grownBy w3 (some g)) := ⟨HK.out.1.grown hg3, grownBy_trans HK.out.2.1 hg3⟩
   clear x1 hg3
   go_wp2_with fail
   refine (once_any g n cap a _ _ hc3).mono ?_
   rintro e w4 ⟨bb, rfl, hg4, hc4⟩
   have K4 : Hid (MkL w4 g G C N M (k : Int) ∧ w.grownBy w4 (some g) ∧ Cur w4 g a n cap) := ⟨K3.out.1.grown hg4, grownBy_trans K3.out.2 hg4, hc4⟩
   clear hg4 hc4 hc3 HK K3
   go_wp2_with fail
   have hb9 := K4.out.1.b
   refine Calls.mono (sMarkAdd_any G N C M x bb (k : Int) w4 K4.out.1.c K4.out.1.l (by omega) K4.out.1.o K4.out.1.a (by omega)) ?_
   rintro e w5 ⟨G5, C5, rfl, o5, b5⟩
   have K5 : Hid (MkL w5 g G5 C5 (mkN x M N) (mkM x M N bb) (((k + 1 : Nat)) : Int) ∧ w.grownBy w5 (some g) ∧ Cur w5 g a n cap) := ⟨MkL.own o5 K4.out.2.2.lt (by have := K4.out.1.a.mk1 (by omega) x bb; rw [show (((k + 1 : Nat)) : Int) = (k : Int) + 1 by omega]; exact this) (by have := mkN_le x M N; omega), grownBy_trans K4.out.2.1 (grownB g b5), curBelow K4.out.2.2 b5⟩
   clear o5 b5 hb9 K4
   have hw9 : IntKind.i64.wrap ((k : Int) + 1) = (k : Int) + 1 := by have := HT.out; rw [IntKind.wrap_i64]; omega
   go_wp2
   go_roundw
   case rel => exact ⟨k + 1, _, G5, C5, _, by omega, by go_num, rfl, K5⟩
   case measure => simp [intOf]; omega
  ·have hkt : (k : Int) ≤ 12 := by have := HT.out; omega
   go_wp2
   go_ret
   exact ⟨N, G, C, rfl, ⟨M, ⟨HK.out.1.c, HK.out.1.l, HK.out.1.n, HK.out.1.o, ⟨HK.out.1.a.a, fun i hi => by have := HK.out.1.a.g i hi; omega⟩, by have := HK.out.1.b; omega⟩⟩, HK.out.2.1, HK.out.2.2⟩
theorem drawMarkAdd_any (a : Option Addr) (n cap : Nat) (w : World) (hc : CodeAt w a n) :
  Calls Tryz.prog 5 #[.slice a n cap] w fun e w' => ∃ (g N G C : Nat) (M : Nat → Ma) (x : Int) (b : Bool), e = .returned (.tuple #[.slice (some ⟨G, 0, none⟩) N C, .int .i64 x, .bool b]) ∧ MkL w' g G C N M 12 ∧ Below w.heap.size w w' := by
 go_enter Tryz.func5, Tryz.ntmps5
 go_wp2_with fail
 refine (new_any a n cap _ hc.1 hc.bytes).mono ?_
 rintro e w1 ⟨g, rfl, hg, hb1, hc1⟩
 clear hc
 go_wp2_with fail
 refine (marks_any g n cap a _ hc1).mono ?_
 rintro e w2 ⟨N, G, C, M, rfl, hl, hg2, hc2⟩
 go_wp2_with fail
 refine (belowN_any g n cap a _ _ hc2).mono ?_
 rintro e w3 ⟨x, x0, x1, _, rfl, hg3, hc3⟩
 have x2 := x1 (by omega)
 have hl3 := hl.grown hg3
 have hw : IntKind.i64.wrap (x - 1) = x - 1 := by rw [IntKind.wrap_i64]; omega
 clear x1
 go_wp2_with fail
 refine (once_any g n cap a _ _ hc3).mono ?_
 rintro e w4 ⟨b, rfl, hg4, hc4⟩
 have KF : Hid (MkL w4 g G C N M 12 ∧ Below w.heap.size w w4) := ⟨hl3.grown hg4, belowOf hb1 hg (grownBy_trans hg2 (grownBy_trans hg3 hg4))⟩
 clear hb1 hg2 hg3 hg4 hc1 hc2 hc3 hc4 hl hl3
 go_wp2
 refine bodyPost_ret (v := .tuple #[.slice (some ⟨G, 0, none⟩) N C, .int .i64 (x - 1), .bool b]) (by simp [results, Tryz.results5, go_sem]) rfl ⟨g, N, G, C, M, x - 1, b, rfl, KF.out.1, KF.out.2⟩
theorem drawSuspects_any (a : Option Addr) (n cap : Nat) (w : World) (hc : CodeAt w a n) :
  Calls Tryz.prog 10 #[.slice a n cap] w fun e w' => ∃ (g N G C : Nat) (M : Nat → Ma) (x : Int), e = .returned (.tuple #[.slice (some ⟨G, 0, none⟩) N C, .int .i64 x]) ∧ MkL w' g G C N M 12 ∧ Below w.heap.size w w' := by
 go_enter Tryz.func10, Tryz.ntmps10
 go_wp2_with fail
 refine (new_any a n cap _ hc.1 hc.bytes).mono ?_
 rintro e w1 ⟨g, rfl, hg, hb1, hc1⟩
 clear hc
 go_wp2_with fail
 refine (marks_any g n cap a _ hc1).mono ?_
 rintro e w2 ⟨N, G, C, M, rfl, hl, hg2, hc2⟩
 go_wp2_with fail
 refine (belowN_any g n cap a _ _ hc2).mono ?_
 rintro e w3 ⟨x, x0, x1, _, rfl, hg3, hc3⟩
 have x2 := x1 (by omega)
 have hw : IntKind.i64.wrap (x - 1) = x - 1 := by rw [IntKind.wrap_i64]; omega
 have KF : Hid (MkL w3 g G C N M 12 ∧ Below w.heap.size w w3) := ⟨hl.grown hg3, belowOf hb1 hg (grownBy_trans hg2 hg3)⟩
 clear x1 hb1 hg2 hg3 hc1 hc2 hc3 hl
 go_wp2
 refine bodyPost_ret (v := .tuple #[.slice (some ⟨G, 0, none⟩) N C, .int .i64 (x - 1)]) (by simp [results, Tryz.results10, go_sem]) rfl ⟨g, N, G, C, M, x - 1, rfl, KF.out.1, KF.out.2⟩
theorem salt_any (g n cap : Nat) (a : Option Addr) (w : World) (hc : Cur w g a n cap) (hab : Under a n g) :
  Calls Tryz.prog 26 #[.pointer (some ⟨g, 0, none⟩)] w fun e w' => ∃ s : ByteArray, e = .returned (.string s) ∧ s.size ≤ 101 ∧ w.grownBy w' (some g) ∧ Cur w' g a n cap := by
 go_enter Tryz.func26, Tryz.ntmps26
 go_wp2_with fail
 refine (once_any g n cap a _ _ hc).mono ?_
 rintro e w1 ⟨b, rfl, hg1, hc1⟩
 cases b with
 | true =>
  go_wp2_with fail
  refine (belowN_any g n cap a _ _ hc1).mono ?_
  rintro e w2 ⟨x, x0, x1, _, rfl, hg2, hc2⟩
  have x2 := x1 (by omega)
  obtain ⟨m, rfl⟩ : ∃ m : Nat, x = (m : Int) := ⟨x.toNat, by omega⟩
  have hw : IntKind.i64.wrap (100 + (m : Int)) = ((100 + m : Nat) : Int) := by rw [IntKind.wrap_i64]; omega
  clear x1
  go_wp2_with fail
  refine (bytes_any g n cap a (100 + m) _ hc2 hab (by omega)).mono ?_
  rintro e w3 ⟨s, hs, rfl, hg3, hc3⟩
  have KF : Hid (w.grownBy w3 (some g) ∧ Cur w3 g a n cap) := ⟨grownBy_trans hg1 (grownBy_trans hg2 hg3), hc3⟩
  clear hg1 hg2 hg3 hc1 hc2 hc3
  go_wp2
  go_ret
  exact ⟨s, rfl, by omega, KF.out.1, KF.out.2⟩
 | false =>
  go_wp2_with fail
  refine (belowN_any g n cap a _ _ hc1).mono ?_
  rintro e w2 ⟨x, x0, x1, _, rfl, hg2, hc2⟩
  have x2 := x1 (by omega)
  obtain ⟨m, rfl⟩ : ∃ m : Nat, x = (m : Int) := ⟨x.toNat, by omega⟩
  clear x1
  go_wp2_with fail
  refine (bytes_any g n cap a m _ hc2 hab (by omega)).mono ?_
  rintro e w3 ⟨s, hs, rfl, hg3, hc3⟩
  have KF : Hid (w.grownBy w3 (some g) ∧ Cur w3 g a n cap) := ⟨grownBy_trans hg1 (grownBy_trans hg2 hg3), hc3⟩
  clear hg1 hg2 hg3 hc1 hc2 hc3
  go_wp2
  go_ret
  exact ⟨s, rfl, by omega, KF.out.1, KF.out.2⟩
theorem maC_at (d : Ma) (q : Nat) (hq : q < 4) : ∃ y, (maC d).getD q undef = y ∧ ∀ w, Rd w (maD d q) y := by
 match q, hq with
 | 0, _ | 1, _ | 2, _ | 3, _ => exact ⟨_, rfl, fun _ => rfl⟩
theorem rdM {w : World} {G N C : Nat} {M : Nat → Ma} (hc : ∀ j u, (maL N M)[j]? = some u → w.cell? ⟨G, j, none⟩ = some u) : Rd w (masD N M) (.slice (some ⟨G, 0, none⟩) N C) := by
 refine ⟨_, C, rfl, fun i hi => ⟨G, 0, rfl, fun q hq => ?_⟩⟩
 obtain ⟨y, hy, hr⟩ := maC_at (M i) q hq
 refine ⟨y, ?_, hr w⟩
 refine hc _ _ ?_
 rw [maL_at, if_pos (by omega), show (0 + (i * 4 + q)) / 4 = i by omega, show (0 + (i * 4 + q)) % 4 = q by omega, hy]
theorem MkL.rd {W : World} {g G C N : Nat} {M : Nat → Ma} {k : Int} (h : MkL W g G C N M k) : Rd W (masD N M) (.slice (some ⟨G, 0, none⟩) N C) := rdM h.c
theorem ownM_cells {W : World} {B G C N : Nat} {M : Nat → Ma} (h : W.ownsRow B 29 4 (.slice (some ⟨G, 0, none⟩) N C) N (maL N M)) : ∀ j u, (maL N M)[j]? = some u → W.cell? ⟨G, j, none⟩ = some u := fun j u hu => by
 have hj : j < N * 4 := by have := (List.getElem?_eq_some_iff.1 hu).1; rw [maL_len] at this; omega
 rw [World.ownsRow.cellAt h j hj]
 exact hu
theorem maS_bound {n : Nat} {M : Nat → Ma} {k : Int} (h : MaA n M k) (hk : 0 ≤ k ∧ k ≤ 1000) : ∀ i, i ≤ n → 0 ≤ maS M i ∧ maS M i ≤ 2000 * (i : Int)
 | 0, _ => ⟨Int.le_refl _, Int.le_refl _⟩
 | i + 1, hi => by
  obtain ⟨h1, h2⟩ := maS_bound h hk i (by omega)
  have h3 := h.g i (by omega)
  show 0 ≤ maS M i + (M i).gd + (M i).bd ∧ maS M i + (M i).gd + (M i).bd ≤ 2000 * ((i + 1 : Nat) : Int)
  omega
theorem mk_right {n : Nat} {M : Nat → Ma} {k : Int} (h : MaA n M k) (hk : 0 ≤ k) (x : Int) (b : Bool) {i : Nat} (hi : i < mkN x M n) : (0 < i → (mkM x M n b (i - 1)).nd < (mkM x M n b i).nd) ∧ ((mkM x M n b i).nd = x → b = decide ((mkM x M n b i).ro = 0)) :=
 ⟨fun h0 => (h.mk1 hk x b).a (i - 1) i (by omega) hi, fun e => mk_row h hk hi e⟩
end Go.Proofs.YtaenoiffamgcfaaGreatDoor
