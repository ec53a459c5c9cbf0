import Derived.Test.YtaenoiffamgcfaaGreatDoorM39
import Derived.Test.YtaenoiffamgcfaaGreatDoorM35
import Derived.Test.YtaenoiffamgcfaaGreatDoorM8
import Derived.Test.YtaenoiffamgcfaaGreatDoorM15
import Derived.Test.YtaenoiffamgcfaaGreatDoorM6
set_option maxHeartbeats 8000000
set_option maxRecDepth 2000
open Go.ChangeShapes Go.WideShapes Go.ChangeAt Go.RowKit
namespace Go.Proofs.YtaenoiffamgcfaaGreatDoor
def NdD (g : Nat) (w' : World) (m : Nat) (S : Nat → Sl) (v : Value) : Prop := ∃ F, Ow w' (g + 1) (slsD m S) v F ∧ (∀ b, F b → b ≠ g) ∧ (∀ i, i < m → (S i).h = (S i).e ∧ SlK (S i)) ∧ m ≤ 64
def NdR (g : Nat) (w w' : World) (a0 : Option Addr) (n cap : Nat) (e : Ending) : Prop := ∃ (id f : Int) (m : Nat) (S : Nat → Sl) (v : Value) (G N cc : Nat) (P : Nat → Pc), e = .returned (.tuple #[ndV id f v, .slice (some ⟨G, 0, none⟩) N cc]) ∧ NdD g w' m S v ∧ 0 ≤ id ∧ id ≤ 1000 ∧ 0 < N ∧ g < G ∧ (∀ W, Up g w' W → PiAt W (some ⟨G, 0, none⟩) N P) ∧ (∀ i, i < N → PcS (P i)) ∧ w.grownBy w' (some g) ∧ Cur w' g a0 n cap
set_option pp.deepTerms true in
set_option pp.maxSteps 10000000 in
theorem node08_any (g n cap : Nat) (a0 : Option Addr) (w : World) (hc : Cur w g a0 n cap) (hab : Under a0 n g) :
  Calls Tryz.prog 27 #[.pointer (some ⟨g, 0, none⟩)] w fun e w' => NdR g w w' a0 n cap e := by
 obtain ⟨w0, HW0⟩ : ∃ x, Hid (x = w.alloc (.cells #[.int .i64 0, .int .i64 0, .slice none 0 0] 37)) := ⟨_, rfl⟩
 obtain ⟨D, HD⟩ : ∃ x, Hid (x = w.heap.size) := ⟨_, rfl⟩
 have HR : Hid (Row w0 D 37 #[.int .i64 0, .int .i64 0, .slice none 0 0]) := by show Row _ _ _ _; rw [HW0.out, HD.out]; exact Row.new w _ _
 have hg0 : w.grownBy w0 (some g) := by rw [HW0.out]; exact World.grownBy_alloc w _ (some g)
 have KG0 : Hid (w.grownBy w0 (some g)) := hg0
 have hc0 : Cur w0 g a0 n cap := by rw [HW0.out]; exact hc.alloc _
 have lgD : g < D := by rw [HD.out]; exact hc.lt
 have lD0 : D < w0.heap.size := HR.out.lt
 have KB : Hid (∀ m W, Cur W g a0 n cap → Calls Tryz.prog 20 #[.pointer (some ⟨g, 0, none⟩), .int .i64 m] W fun e w' => ∃ x : Int, 0 ≤ x ∧ (0 < m → x < m) ∧ (m ≤ 0 → x = 0) ∧ e = .returned (.int .i64 x) ∧ W.grownBy w' (some g) ∧ Cur w' g a0 n cap) := fun m W h => belowN_any g n cap a0 m W h
 clear hg0 hc
 go_enter Tryz.func27, Tryz.ntmps27
 go_wp2_with fail
 rw [← HW0.out, ← HD.out]
 refine (KB.out 2 w0 hc0).mono ?_
 rintro e w1 ⟨xf, xf0, xf1, _, rfl, hg1, hc1⟩
 have xf2 := xf1 (by omega)
 obtain ⟨f, hf⟩ : ∃ f : Int, 1 + xf = f := ⟨_, rfl⟩
 have hf1 : 1 ≤ f ∧ f ≤ 2 := by omega
 have hwf : IntKind.i64.wrap (1 + xf) = f := by rw [IntKind.wrap_i64]; omega
 have HAl : Hid (al8 f = 3 * f + 1) := by
  show al8 f = _
  have h1 : f = 1 ∨ f = 2 := by omega
  rcases h1 with h | h <;> (rw [h]; decide +kernel)
 clear xf1 hc0 hf
 go_wp2_with fail
 refine (sAll8_any f w1).mono ?_
 rintro e w1' ⟨rfl, hw1⟩
 obtain rfl := hw1.symm
 clear hw1
 go_wp2_with fail
 refine (KB.out (al8 f) w1 hc1).mono ?_
 rintro e w2 ⟨id, id0, id1, _, rfl, hg2, hc2⟩
 have id2 := id1 (by have := HAl.out; omega)
 rw [HAl.out] at id2
 have G2 : Hid (w0.grownBy w2 (some g)) := grownBy_trans hg1 hg2
 have hse : seB id f = true := by unfold seB; simp; omega
 have KNS : Hid (Calls Tryz.prog 50 #[.int .i64 id, .int .i64 f] w2 fun e w' => e = .returned (.tuple #[ndV id f (.slice none 0 0), .bool true]) ∧ Below w2.heap.size w2 w') := by
  have h1 := sNodeStart_any id f w2
  simp only [hse, if_true] at h1
  exact h1
 clear id1 hg1 hg2 hc1
 go_wp2_with fail
 refine Calls.mono KNS.out ?_
 rintro e w3 ⟨rfl, hb3⟩
 have hc3 := curBelow hc2 hb3
 obtain ⟨X, HX⟩ : ∃ x, Hid (x = w3.heap.size) := ⟨_, rfl⟩
 obtain ⟨w3', HW3⟩ : ∃ x, Hid (x = w3.alloc (.cells #[.int .i64 id, .int .i64 f, .slice none 0 0] 37)) := ⟨_, rfl⟩
 have hc3' : Cur w3' g a0 n cap := by rw [HW3.out]; exact hc3.alloc _
 have RX3 : Row w3' X 37 #[.int .i64 id, .int .i64 f, .slice none 0 0] := by rw [HW3.out, HX.out]; exact Row.new w3 _ _
 have G3 : Hid (w0.grownBy w3' (some g)) := by show World.grownBy _ _ _; rw [HW3.out]; exact grownAlloc (grownBy_trans G2.out (grownB g hb3))
 have lgX : g < X := by rw [HX.out]; exact hc3.lt
 have lDX : D < X := by have h1 := G2.out.size; have h2 := hb3.size; have h3 := HX.out; omega
 have lwX : w0.heap.size ≤ X := by have h1 := G2.out.size; have h2 := hb3.size; have h3 := HX.out; omega
 have K3 : Hid (NdW w0 w3' g X (X + 1) a0 n cap id f 0 (.slice none 0 0) (fun _ => slZ) 0 (fun _ => False)) := ⟨G3.out, hc3', RX3, Ow.nil _ _ _ _ _ _, (fun b h => h.elim), (fun i hi => absurd hi (Nat.not_lt_zero i)), Nat.le_refl _, lgX, Nat.lt_succ_self _⟩
 clear hc2 hb3 hc3 RX3 KNS
 go_wp2_with fail
 rw [← HW3.out, ← HX.out]
 refine (KB.out 9 w3' hc3').mono ?_
 rintro e w4 ⟨lq, lq0, lq1, _, rfl, hg4, hc4⟩
 have lq2 := lq1 (by omega)
 obtain ⟨l4, rfl⟩ := Int.eq_ofNat_of_zero_le lq0
 have K4 := K3.out.kept hg4 hc4
 clear lq1 hc3'
 go_wp2_with fail
 refine (bytes_any g n cap a0 l4 w4 hc4 hab (by omega)).mono ?_
 rintro e w5 ⟨sb, hsb, rfl, hg5, hc5⟩
 have K5 : Hid (NdW w0 w5 g X (X + 1) a0 n cap id f 0 (.slice none 0 0) (fun _ => slZ) 0 (fun _ => False)) := K4.kept hg5 hc5
 have hwf1 : IntKind.i64.wrap (f + 1) = f + 1 := by rw [IntKind.wrap_i64]; omega
 clear hg4 hc4 hg5 K4
 go_wp2_with fail
 refine (sAll8_any f w5).mono ?_
 rintro e w5' ⟨rfl, hw5⟩
 obtain rfl := hw5.symm
 clear hw5
 have hKP : 0 < cutR sb (f + 1) (al8 f) ∧ ∀ i, i < cutR sb (f + 1) (al8 f) → PcS (cutP (f + 1) (al8 f).toNat (encS sb (f + 1).toNat) i) := by
  rw [HAl.out]
  have h1 : f = 1 ∨ f = 2 := by omega
  rcases h1 with h | h
  ·rw [h]
   have he : encOk sb (1 + 1) (3 * 1 + 1) = true := by unfold encOk sprOk side; simp; omega
   have hr : cutR sb (1 + 1) (3 * 1 + 1) = 4 := by unfold cutR; rw [if_pos he]; rfl
   rw [hr]
   exact ⟨by omega, fun i hi => all_s (k := 2) (N := 4) (all_enc (.inl ⟨rfl, rfl⟩) (by omega)) hi⟩
  ·rw [h]
   have he : encOk sb (2 + 1) (3 * 2 + 1) = true := by unfold encOk sprOk side; simp; omega
   have hr : cutR sb (2 + 1) (3 * 2 + 1) = 7 := by unfold cutR; rw [if_pos he]; rfl
   rw [hr]
   exact ⟨by omega, fun i hi => all_s (k := 3) (N := 7) (all_enc (.inr ⟨rfl, rfl⟩) (by omega)) hi⟩
 have KCt : Hid _ := sCut_any sb (f + 1) (al8 f) w5 (by omega)
 obtain ⟨N, HN⟩ : ∃ r, Hid (cutR sb (f + 1) (al8 f) = r) := ⟨_, rfl⟩
 obtain ⟨P, HP⟩ : ∃ r, Hid (cutP (f + 1) (al8 f).toNat (encS sb (f + 1).toNat) = r) := ⟨_, rfl⟩
 rw [HN.out, HP.out] at hKP KCt
 have HKP : Hid (0 < N ∧ ∀ i, i < N → PcS (P i)) := hKP
 obtain ⟨ok6, HOk⟩ : ∃ r, Hid (encOk sb (f + 1) (al8 f) = r) := ⟨_, rfl⟩
 rw [HOk.out] at KCt
 clear hKP HN HP HOk
 go_wp2_with fail
 refine Calls.mono KCt.out ?_
 rintro e w6 ⟨v6, rfl, ⟨G, cc, A6, C6, rfl, O6⟩, hb6⟩
 have hc6 := curBelow hc5 hb6
 have K6 : Hid (NdW w0 w6 g X (X + 1) a0 n cap id f 0 (.slice none 0 0) (fun _ => slZ) 0 (fun _ => False)) := K5.out.kept (grownB g hb6) hc6
 obtain ⟨LB, HLB⟩ : ∃ x, Hid (x = w5.heap.size) := ⟨_, rfl⟩
 obtain ⟨E, HE⟩ : ∃ x, Hid (x = w6.heap.size) := ⟨_, rfl⟩
 have lgL : g < LB := by rw [HLB.out]; exact hc5.lt
 have lXL : X < LB := by rw [HLB.out]; exact K5.out.x.lt
 have lLE : LB ≤ E := by rw [HLB.out, HE.out]; exact hb6.size
 have lXE : X < E := by omega
 have KA : Hid (∀ W, (∀ b, LB ≤ b → b < w6.heap.size → W.heap[b]? = w6.heap[b]?) → PiAt W (some ⟨G, 0, none⟩) N P) := fun W hW => (O6.fr (fun b h1 h2 => hW b (by rw [HLB.out]; exact h1) h2)).at
 have hGg : g < G := by have h9 := (World.ownsRow.lt O6.1 G rfl).1; have h8 := hc5.lt; omega
 clear O6 hb6 KCt hc5 K5
 go_wp2_with fail
 refine (KB.out 10 w6 hc6).mono ?_
 rintro e w7 ⟨mq, mq0, mq1, _, rfl, hg7, hc7⟩
 have mq2 := mq1 (by omega)
 obtain ⟨M, rfl⟩ := Int.eq_ofNat_of_zero_le mq0
 have K7 : Hid (NdW w0 w7 g X (X + 1) a0 n cap id f 0 (.slice none 0 0) (fun _ => slZ) 0 (fun _ => False)) := K6.out.kept hg7 hc7
 have K7' : Hid (NdW w0 w7 g X E a0 n cap id f 0 (.slice none 0 0) (fun _ => slZ) 0 (fun _ => False) ∧ FrB LB w6 w7) := ⟨⟨K7.out.b, K7.out.c, K7.out.x, K7.out.o, (fun b h => h.elim), K7.out.s, K7.out.l, K7.out.lt, lXE⟩, FrB.kept ⟨Nat.le_refl _, fun _ _ _ => rfl⟩ hg7 lgL⟩
 clear mq1 hg7 hc7 hc6 K7 K6
 go_wp2_with fail
 go_loopw [11, 12, 13] (fun v11 v12 v13 wr => ∃ i m v S F, v11 = .int .i64 ((i : Nat) : Int) ∧ Hid (i ≤ M ∧ NdW w0 wr g X E a0 n cap id f m v S i F ∧ FrB LB w6 wr)) (fun v11 _ _ _ => M - (intOf v11).toNat)
 case atStart => exact ⟨0, 0, .slice none 0 0, fun _ => slZ, fun _ => False, rfl, Nat.zero_le _, K7'.out⟩
 case round =>
  obtain ⟨i, m, v, S, F, rfl, HI⟩ := hrel
  by_cases hlt : i < M
  ·have hli : (i : Int) < (M : Int) := by omega
   have KOld : Hid (∀ W, wr.grownBy W (some g) → W.cell? ⟨X, 0, none⟩ = some (.int .i64 id) ∧ W.cell? ⟨X, 1, none⟩ = some (.int .i64 f) ∧ W.cell? ⟨X, 2, none⟩ = some v ∧ Rd W (slsD m S) v) := fun W hW => by
    have hx := HI.out.2.1.x.keptG hW (by omega)
    have h0 := hx.cell 0
    have h1 := hx.cell 1
    have h2 := hx.cell 2
    exact ⟨by simpa using h0, by simpa using h1, by simpa using h2, (ow_kept HI.out.2.1.o HI.out.2.1.d (by omega) hW).rd⟩
   have lgr : g < wr.heap.size := HI.out.2.1.c.lt
   have hM9 : M ≤ 9 := by omega
   have KSay : Hid (∀ W, wr.grownBy W (some g) → Cur W g a0 n cap → Calls Tryz.prog 53 #[.pointer (some ⟨g, 0, none⟩), .int .i64 id, .int .i64 f, .slice (some ⟨G, 0, none⟩) N cc] W fun e w' => ∃ (y : Sy) (a9 : Option Addr) (c9 : Nat), e = .returned (syV y (.slice a9 y.p.m c9)) ∧ SaS y ∧ TxtAt w' a9 y.p.m y.p.S ∧ W.grownBy w' (some g) ∧ Cur w' g a0 n cap) := fun W hW hc => (say08_any g n cap a0 id f G N cc P W hc hab ⟨id0, by omega⟩ HKP.out.1 (fun V hV => KA.out V (fun b h1 h2 => (hV b (by omega) (by have := HI.out.2.2.1; have := hW.size; omega)).trans ((HI.out.2.2.kept hW lgL).2 b h1 h2))) HKP.out.2 hGg).mono (fun e w' ⟨y, a9, c9, h1, h2, h3, h4, h5⟩ => ⟨y, a9, c9, h1, h2, h3 w' (Up.refl g w'), h4, h5⟩)
   have KHr : Hid (∀ W (y : Sy) a9 c9, wr.grownBy W (some g) → SaS y → TxtAt W a9 y.p.m y.p.S → Calls Tryz.prog 52 #[ndV id f v, syV y (.slice a9 y.p.m c9)] W fun e w' => ∃ (v8 sv8 : Value) (m8 : Nat) (S8 : Nat → Sl) (F8 : Nat → Prop), e = .returned (.tuple #[ndV id f v8, sv8]) ∧ Ow w' (g + 1) (slsD m8 S8) v8 F8 ∧ (∀ b, F8 b → W.heap.size ≤ b ∧ b < w'.heap.size) ∧ (∀ j, j < m8 → SlG (i + 1) (S8 j)) ∧ m8 ≤ i + 1 ∧ Below W.heap.size W w') := fun W y a9 c9 hW hy ht => by
    obtain ⟨va, vc, ev⟩ := nd_slice HI.out.2.1.o
    have hrd := (KOld.out W hW).2.2.2
    rw [ev] at hrd
    rw [ev]
    refine (sNodeHear_any id f va m vc S y a9 c9 W hrd ht (nhB_of (k := i) (by omega) HI.out.2.1.l HI.out.2.1.s hy)).mono ?_
    rintro e w' ⟨a8, c8, sa, sc, rfl, _, _, hb, F8, hO⟩
    have hg := nh_good (id := id) (f := f) HI.out.2.1.s hy
    have hWs := hW.size
    exact ⟨_, _, _, _, _, rfl, hO.cut.base (by omega), (fun b hb => ⟨hb.2.1, hb.2.2⟩), hg.2, Nat.le_trans hg.1 (Nat.succ_le_succ HI.out.2.1.l), hb⟩
   go_wp2_with fail
   obtain ⟨R, HRR⟩ : ∃ R : Act → World → Prop, Hid (∀ a W, R a W ↔ ∃ (y13 x46 x52 x53 x54 x55 v9 : Value) (m9 : Nat) (S9 : Nat → Sl) (F9 : Nat → Prop) (Y : Nat), a = ⟨(List.toArray (α := Value) ((.pointer (some ⟨g, 0, none⟩)) :: undef :: (.pointer (some ⟨D, 0, none⟩)) :: (.slice none 0 0) :: (.int .i64 f) :: (.int .i64 id) :: (.pointer (some ⟨X, 0, none⟩)) :: (.bool true) :: (.slice (some ⟨G, 0, none⟩) N cc) :: (.bool ok6) :: (.int .i64 (M : Int)) :: (.int .i64 (i : Int)) :: (.pointer (some ⟨Y, 0, none⟩)) :: y13 :: (.pointer (some ⟨g, 0, none⟩)) :: (.int .i64 xf) :: (.int .i64 f) :: (.pointer (some ⟨g, 0, none⟩)) :: (.int .i64 f) :: (.int .i64 (al8 f)) :: (.int .i64 id) :: (.tuple #[ndV id f (.slice none 0 0), .bool true]) :: (.int .i64 id) :: (.int .i64 f) :: (.tuple #[ndV id f (.slice none 0 0), .bool true]) :: (ndV id f (.slice none 0 0)) :: (.bool true) :: (.tuple #[.slice (some ⟨G, 0, none⟩) N cc, .bool ok6]) :: (.pointer (some ⟨g, 0, none⟩)) :: (.pointer (some ⟨g, 0, none⟩)) :: (.int .i64 (l4 : Int)) :: (.string sb) :: (.int .i64 f) :: (.int .i64 (f + 1)) :: (.int .i64 f) :: (.int .i64 (al8 f)) :: (.tuple #[.slice (some ⟨G, 0, none⟩) N cc, .bool ok6]) :: (.slice (some ⟨G, 0, none⟩) N cc) :: (.bool ok6) :: (.pointer (some ⟨g, 0, none⟩)) :: (.int .i64 (M : Int)) :: (.int .i64 (i : Int)) :: (.int .i64 (M : Int)) :: (.bool true) :: u44 :: u45 :: x46 :: (ndV id f v) :: (.pointer (some ⟨g, 0, none⟩)) :: (.int .i64 id) :: (.int .i64 f) :: (.slice (some ⟨G, 0, none⟩) N cc) :: x52 :: x53 :: x54 :: x55 :: u56 :: undef :: undef :: undef :: undef :: undef :: undef :: undef :: undef :: undef :: undef :: undef :: undef :: undef :: undef :: undef :: undef :: undef :: undef :: undef :: undef :: undef :: undef :: undef :: undef :: undef :: undef :: undef :: undef :: undef :: undef :: undef :: undef :: undef :: undef :: undef :: undef :: undef :: undef :: undef :: undef :: undef :: undef :: undef :: undef :: undef :: undef :: undef :: undef :: undef :: undef :: undef :: undef :: undef :: undef :: undef :: undef :: undef :: undef :: undef :: undef :: undef :: undef :: undef :: [])), []⟩ ∧ wr.grownBy W (some g) ∧ Cur W g a0 n cap ∧ Ow W (g + 1) (slsD m9 S9) v9 F9 ∧ (∀ b, F9 b → wr.heap.size ≤ b ∧ b ≠ Y) ∧ (∀ j, j < m9 → SlG (i + 1) (S9 j)) ∧ m9 ≤ i + 1 ∧ wr.heap.size ≤ Y ∧ Row W Y 37 #[.int .i64 id, .int .i64 f, v9]) := ⟨fun a W => _, fun _ _ => Iff.rfl⟩
   refine wp_region_post R ?_ ?_
   rotate_left
   ·intro a wx hR
    obtain ⟨y13, x46, x52, x53, x54, x55, v9, m9, S9, F9, Y, rfl, hgx, hcx, hO, hF, hS, hm, hY, RY⟩ := (HRR.out a wx).1 hR
    obtain ⟨a7, c7, rfl⟩ := nd_slice hO
    have lXr : X < wr.heap.size := HI.out.2.1.x.lt
    have hX9 := HI.out.2.1.x.keptG hgx (by omega)
    have hE9 : E ≤ wr.heap.size := by rw [HE.out]; exact HI.out.2.2.1
    obtain ⟨w9, HW9⟩ : ∃ x, Hid (x = wx.setRow X #[.int .i64 id, .int .i64 f, .slice a7 m9 c7]) := ⟨_, rfl⟩
    have KN : Hid (i + 1 ≤ M ∧ NdW w0 w9 g X E a0 n cap id f m9 (.slice a7 m9 c7) S9 (i + 1) F9 ∧ FrB LB w6 w9) := by
     show _ ∧ _ ∧ _
     rw [HW9.out]
     exact ⟨by omega, ⟨grownRow (grownBy_trans HI.out.2.1.b hgx) lwX, hcx.row _ lgX hab, hX9.row, hO.frame (fun b hb _ => setRow_other wx X b _ (by have := (hF b hb).1; omega)), (fun b hb => Nat.le_trans hE9 (hF b hb).1), hS, hm, lgX, lXE⟩, (HI.out.2.2.kept hgx lgL).row lXL⟩
    have RYh : Hid (Row wx Y 37 #[.int .i64 id, .int .i64 f, .slice a7 m9 c7]) := RY
    have RXh : Hid (Row wx X 37 #[.int .i64 id, .int .i64 f, v]) := hX9
    clear HRR hR hgx hcx hO hF hS hm RY hX9 HI KOld KSay KHr
    go_wp2_with (first | (refine wpList_load_row (by rfl) 37 _ (by rfl) Y (by rfl) 37 #[.int .i64 id, .int .i64 f, .slice a7 m9 c7] (0, 0) _ ?_ Tryz.underlying37 (by rfl) Tryz.infoNd ?_; exact RYh.out) | (refine wpList_store_row (by rfl) 37 _ _ (by rfl) X #[.int .i64 id, .int .i64 f, .slice a7 m9 c7] (by rfl) (by rfl) 37 #[.int .i64 id, .int .i64 f, v] ?_ Tryz.infoNd rfl (by simp [Value.oneCell']) ?_; exact RXh.out; rw [← HW9.out]))
    go_roundw
    case rel => exact ⟨i + 1, m9, .slice a7 m9 c7, S9, F9, by go_num, KN⟩
    case measure => simp [intOf]; omega
   refine wp_region_inv Tryz.mixed (by kernel_rfl) (fun L a W => ∃ (y12 y13 x46 x52 x53 x54 x55 v9 sv : Value) (m9 : Nat) (S9 : Nat → Sl) (F9 : Nat → Prop) (Y : Nat), a = ⟨(List.toArray (α := Value) ((.pointer (some ⟨g, 0, none⟩)) :: undef :: (.pointer (some ⟨D, 0, none⟩)) :: (.slice none 0 0) :: (.int .i64 f) :: (.int .i64 id) :: (.pointer (some ⟨X, 0, none⟩)) :: (.bool true) :: (.slice (some ⟨G, 0, none⟩) N cc) :: (.bool ok6) :: (.int .i64 (M : Int)) :: (.int .i64 (i : Int)) :: y12 :: y13 :: (.pointer (some ⟨g, 0, none⟩)) :: (.int .i64 xf) :: (.int .i64 f) :: (.pointer (some ⟨g, 0, none⟩)) :: (.int .i64 f) :: (.int .i64 (al8 f)) :: (.int .i64 id) :: (.tuple #[ndV id f (.slice none 0 0), .bool true]) :: (.int .i64 id) :: (.int .i64 f) :: (.tuple #[ndV id f (.slice none 0 0), .bool true]) :: (ndV id f (.slice none 0 0)) :: (.bool true) :: (.tuple #[.slice (some ⟨G, 0, none⟩) N cc, .bool ok6]) :: (.pointer (some ⟨g, 0, none⟩)) :: (.pointer (some ⟨g, 0, none⟩)) :: (.int .i64 (l4 : Int)) :: (.string sb) :: (.int .i64 f) :: (.int .i64 (f + 1)) :: (.int .i64 f) :: (.int .i64 (al8 f)) :: (.tuple #[.slice (some ⟨G, 0, none⟩) N cc, .bool ok6]) :: (.slice (some ⟨G, 0, none⟩) N cc) :: (.bool ok6) :: (.pointer (some ⟨g, 0, none⟩)) :: (.int .i64 (M : Int)) :: (.int .i64 (i : Int)) :: (.int .i64 (M : Int)) :: (.bool true) :: u44 :: u45 :: x46 :: (cU (L 0) (ndV id f v) u47) :: (cU (L 1) (.pointer (some ⟨g, 0, none⟩)) u48) :: (cU (L 2) (.int .i64 id) u49) :: (cU (L 3) (.int .i64 f) u50) :: (cU (L 4) (.slice (some ⟨G, 0, none⟩) N cc) u51) :: x52 :: x53 :: x54 :: x55 :: u56 :: undef :: undef :: undef :: undef :: undef :: undef :: undef :: undef :: undef :: undef :: undef :: undef :: undef :: undef :: undef :: undef :: undef :: undef :: undef :: undef :: undef :: undef :: undef :: undef :: undef :: undef :: undef :: undef :: undef :: undef :: undef :: undef :: undef :: undef :: undef :: undef :: undef :: undef :: undef :: undef :: undef :: undef :: undef :: undef :: undef :: undef :: undef :: undef :: undef :: undef :: undef :: undef :: undef :: undef :: undef :: undef :: undef :: undef :: undef :: undef :: undef :: undef :: undef :: [])), []⟩ ∧ wr.grownBy W (some g) ∧ Cur W g a0 n cap ∧ ((L 6 = true → L 5 = true) ∧ (L 7 = true → L 6 = true) ∧ (L 8 = true → L 7 = true) ∧ (L 9 = true → L 7 = true) ∧ (L 11 = true → L 10 = true ∧ L 8 = true)) ∧ (L 5 = true → ∃ (y : Sy) (a9 : Option Addr) (c9 : Nat), x52 = syV y (.slice a9 y.p.m c9) ∧ SaS y ∧ (L 6 = false → TxtAt W a9 y.p.m y.p.S)) ∧ (L 6 = true → x53 = .tuple #[ndV id f v9, sv] ∧ Ow W (g + 1) (slsD m9 S9) v9 F9 ∧ (∀ b, F9 b → wr.heap.size ≤ b ∧ b < W.heap.size) ∧ (∀ j, j < m9 → SlG (i + 1) (S9 j)) ∧ m9 ≤ i + 1) ∧ (L 7 = true → x46 = .tuple #[ndV id f v9, sv]) ∧ (L 8 = true → x54 = ndV id f v9) ∧ (L 10 = true → y12 = .pointer (some ⟨Y, 0, none⟩) ∧ wr.heap.size ≤ Y ∧ Y < W.heap.size ∧ (L 6 = true → ∀ b, F9 b → b ≠ Y) ∧ (L 11 = false → Row W Y 37 #[.int .i64 0, .int .i64 0, .slice none 0 0]) ∧ (L 11 = true → Row W Y 37 #[.int .i64 id, .int .i64 f, v9]))) ?_ ?_ ?_
   ·exact ⟨u12, u13, u46, u52, u53, u54, u55, undef, undef, 0, (fun _ => slZ), (fun _ => False), 0, rfl, ⟨rfl, rfl, rfl, Nat.le_refl _, fun _ _ _ => rfl⟩, HI.out.2.1.c, ⟨(fun h => by cases h), (fun h => by cases h), (fun h => by cases h), (fun h => by cases h), fun h => by cases h⟩, (fun h => by cases h), (fun h => by cases h), (fun h => by cases h), (fun h => by cases h), fun h => by cases h⟩
   ·intro q hq L a W hl hd hI
    obtain ⟨y12, y13, x46, x52, x53, x54, x55, v9, sv, m9, S9, F9, Y, rfl, hB, hC, ⟨u6, u7, u8, u9, u11⟩, h5, h6, h7, h8, h10⟩ := hI
    obtain ⟨o0, o1, o2, oR⟩ := KOld.out W hB
    match q, hq with
    | 0, _ =>
     refine wpOp_plain rfl (fun _ => rfl) fun K hK => ?_
     go_simp
     exact hK _ _ ⟨y12, y13, x46, x52, x53, x54, x55, v9, sv, m9, S9, F9, Y, by simp only [Nat.reduceBEq, Bool.false_or, Bool.true_or, cU_y], hB, hC, ⟨u6, u7, u8, u9, u11⟩, h5, h6, h7, h8, h10⟩
    | 1, _ =>
     refine wpOp_plain rfl (fun _ => rfl) fun K hK => ?_
     go_simp
     exact hK _ _ ⟨y12, y13, x46, x52, x53, x54, x55, v9, sv, m9, S9, F9, Y, by simp only [Nat.reduceBEq, Bool.false_or, Bool.true_or, cU_y], hB, hC, ⟨u6, u7, u8, u9, u11⟩, h5, h6, h7, h8, h10⟩
    | 2, _ =>
     refine wpOp_plain rfl (fun _ => rfl) fun K hK => ?_
     go_simp
     exact hK _ _ ⟨y12, y13, x46, x52, x53, x54, x55, v9, sv, m9, S9, F9, Y, by simp only [Nat.reduceBEq, Bool.false_or, Bool.true_or, cU_y], hB, hC, ⟨u6, u7, u8, u9, u11⟩, h5, h6, h7, h8, h10⟩
    | 3, _ =>
     refine wpOp_plain rfl (fun _ => rfl) fun K hK => ?_
     go_simp
     exact hK _ _ ⟨y12, y13, x46, x52, x53, x54, x55, v9, sv, m9, S9, F9, Y, by simp only [Nat.reduceBEq, Bool.false_or, Bool.true_or, cU_y], hB, hC, ⟨u6, u7, u8, u9, u11⟩, h5, h6, h7, h8, h10⟩
    | 4, _ =>
     refine wpOp_plain rfl (fun _ => rfl) fun K hK => ?_
     go_simp
     exact hK _ _ ⟨y12, y13, x46, x52, x53, x54, x55, v9, sv, m9, S9, F9, Y, by simp only [Nat.reduceBEq, Bool.false_or, Bool.true_or, cU_y], hB, hC, ⟨u6, u7, u8, u9, u11⟩, h5, h6, h7, h8, h10⟩
    | 5, _ =>
     have d1 := hd.dep 1 (by kernel_rfl)
     have d2 := hd.dep 2 (by kernel_rfl)
     have d3 := hd.dep 3 (by kernel_rfl)
     have d4 := hd.dep 4 (by kernel_rfl)
     refine wpOp_plain rfl (fun _ => rfl) fun K hK => ?_
     simp only [d1, d2, d3, d4, cU_y]
     have e6 : L 6 = false := by cases h : L 6 with | false => rfl | true => rw [u6 h] at hl; cases hl
     go_simp
     refine Calls.mono (KSay.out W hB hC) ?_
     rintro e w9 ⟨y, a9, c9, rfl, hy, ht, hg9, hc9⟩
     refine hK _ _ ⟨y12, y13, x46, syV y (.slice a9 y.p.m c9), x53, x54, x55, v9, sv, m9, S9, F9, Y, by simp only [Nat.reduceBEq, Bool.false_or, cU_y, d1, d2, d3, d4], grownBy_trans hB hg9, hc9, ⟨(fun _ => rfl), u7, u8, u9, u11⟩, (fun _ => ⟨y, a9, c9, rfl, hy, fun _ => ht⟩), (fun h => absurd (show L 6 = true from h) (by rw [e6]; simp)), h7, h8, fun h => ?_⟩
     obtain ⟨q1, q2, q3, q4, q5, q6⟩ := h10 h
     exact ⟨q1, q2, Nat.lt_of_lt_of_le q3 hg9.size, (fun h => absurd (show L 6 = true from h) (by rw [e6]; simp)), (fun h => (q5 h).keptG hg9 (by omega)), fun h => (q6 h).keptG hg9 (by omega)⟩
    | 6, _ =>
     have d0 := hd.dep 0 (by kernel_rfl)
     have d5 := hd.dep 5 (by kernel_rfl)
     obtain ⟨y, a9, c9, rfl, hy, ht⟩ := h5 d5
     have ht := ht hl
     refine wpOp_plain rfl (fun _ => rfl) fun K hK => ?_
     simp only [d0, cU_y]
     have e7 : L 7 = false := by cases h : L 7 with | false => rfl | true => rw [u7 h] at hl; cases hl
     have e8 : L 8 = false := by cases h : L 8 with | false => rfl | true => rw [u8 h] at e7; cases e7
     go_simp
     refine Calls.mono (KHr.out W y a9 c9 hB hy ht) ?_
     rintro e w9 ⟨v8, sv8, m8, S8, F8, rfl, hO, hF, hS, hm, hb9⟩
     refine hK _ _ ⟨y12, y13, x46, _, .tuple #[ndV id f v8, sv8], x54, x55, v8, sv8, m8, S8, F8, Y, by simp only [Nat.reduceBEq, Bool.false_or, cU_y, d0], grownBy_trans hB (grownB g hb9), curBelow hC hb9, ⟨(fun _ => d5), (fun _ => rfl), u8, u9, u11⟩, (fun _ => ⟨y, a9, c9, rfl, hy, fun h => by cases h⟩), (fun _ => ⟨rfl, hO, (fun b hb => ⟨Nat.le_trans hB.size (hF b hb).1, (hF b hb).2⟩), hS, hm⟩), (fun h => absurd (show L 7 = true from h) (by rw [e7]; simp)), (fun h => absurd (show L 8 = true from h) (by rw [e8]; simp)), fun h => ?_⟩
     obtain ⟨q1, q2, q3, q4, q5, q6⟩ := h10 h
     exact ⟨q1, q2, Nat.lt_of_lt_of_le q3 hb9.size, (fun _ b hb => by have := (hF b hb).1; omega), (fun h => (q5 h).below hb9 q3), fun h => absurd (u11 h).2 (by rw [e8]; simp)⟩
    | 7, _ =>
     have d6 := hd.dep 6 (by kernel_rfl)
     obtain ⟨rfl, hO, hF, hS, hm⟩ := h6 d6
     refine wpOp_plain rfl (fun _ => rfl) fun K hK => ?_
     go_simp
     exact hK _ _ ⟨y12, y13, .tuple #[ndV id f v9, sv], x52, .tuple #[ndV id f v9, sv], x54, x55, v9, sv, m9, S9, F9, Y, by simp only [Nat.reduceBEq, Bool.false_or], hB, hC, ⟨u6, (fun _ => d6), (fun _ => rfl), (fun _ => rfl), u11⟩, h5, (fun _ => ⟨rfl, hO, hF, hS, hm⟩), (fun _ => rfl), h8, h10⟩
    | 8, _ =>
     have d7 := hd.dep 7 (by kernel_rfl)
     obtain rfl := h7 d7
     have d6 := u7 d7
     obtain ⟨rfl, hO, hF, hS, hm⟩ := h6 d6
     refine wpOp_plain rfl (fun _ => rfl) fun K hK => ?_
     go_simp
     exact hK _ _ ⟨y12, y13, .tuple #[ndV id f v9, sv], x52, .tuple #[ndV id f v9, sv], ndV id f v9, x55, v9, sv, m9, S9, F9, Y, by simp only [Nat.reduceBEq, Bool.false_or], hB, hC, ⟨u6, u7, (fun _ => d7), u9, fun h => ⟨(u11 h).1, rfl⟩⟩, h5, (fun _ => ⟨rfl, hO, hF, hS, hm⟩), (fun _ => rfl), (fun _ => rfl), h10⟩
    | 9, _ =>
     have d7 := hd.dep 7 (by kernel_rfl)
     obtain rfl := h7 d7
     have d6 := u7 d7
     obtain ⟨rfl, hO, hF, hS, hm⟩ := h6 d6
     refine wpOp_plain rfl (fun _ => rfl) fun K hK => ?_
     go_simp
     exact hK _ _ ⟨y12, y13, .tuple #[ndV id f v9, sv], x52, .tuple #[ndV id f v9, sv], x54, sv, v9, sv, m9, S9, F9, Y, by simp only [Nat.reduceBEq, Bool.false_or], hB, hC, ⟨u6, u7, u8, (fun _ => d7), u11⟩, h5, (fun _ => ⟨rfl, hO, hF, hS, hm⟩), (fun _ => rfl), h8, h10⟩
    | 10, _ =>
     refine wpOp_plain rfl (fun _ => rfl) fun K hK => ?_
     have bA : Below W.heap.size W (W.alloc (.cells #[.int .i64 0, .int .i64 0, .slice none 0 0] 37)) := (Below.refl _ _).alloc (Nat.le_refl _) _
     go_simp
     refine hK _ _ ⟨.pointer (some ⟨W.heap.size, 0, none⟩), y13, x46, x52, x53, x54, x55, v9, sv, m9, S9, F9, W.heap.size, rfl, grownAlloc hB, hC.alloc _, ⟨u6, u7, u8, u9, fun h => ⟨rfl, (u11 h).2⟩⟩, (fun h => by obtain ⟨y, a9, c9, p1, p2, p3⟩ := h5 h; exact ⟨y, a9, c9, p1, p2, fun h => (p3 h).below bA⟩), (fun h => by obtain ⟨p1, p2, p3, p4, p5⟩ := h6 h; exact ⟨p1, p2.below bA, (fun b hb => ⟨(p3 b hb).1, Nat.lt_of_lt_of_le (p3 b hb).2 bA.size⟩), p4, p5⟩), h7, h8, fun _ => ⟨rfl, hB.size, by simp, (fun h b hb => by have := ((h6 h).2.2.1 b hb).2; omega), (fun _ => Row.new W _ _), fun h => ?_⟩⟩
     have h9 := (u11 h).1
     rw [hl] at h9
     cases h9
    | 11, _ =>
     have d10 := hd.dep 10 (by kernel_rfl)
     have d8 := hd.dep 8 (by kernel_rfl)
     obtain rfl := h8 d8
     obtain ⟨rfl, hY1, hY2, hY3, hY4, _⟩ := h10 d10
     have hY4 := hY4 hl
     refine wpOp_plain rfl (fun _ => rfl) fun K hK => ?_
     have d7 := u8 d8
     have d6 := u7 d7
     refine wp_store_row 37 _ _ rfl Y #[.int .i64 id, .int .i64 f, v9] (by rfl) (by rfl) 37 #[.int .i64 0, .int .i64 0, .slice none 0 0] hY4 Tryz.infoNd rfl (by obtain ⟨a7, c7, e7⟩ := nd_slice (h6 d6).2.1; rw [e7]; simp [Value.oneCell']) ?_
     exact hK _ _ ⟨_, y13, x46, x52, x53, _, x55, v9, sv, m9, S9, F9, Y, (by simp [Act.put]), grownRow hB hY1, hC.row _ (by omega) hab, ⟨u6, u7, u8, u9, fun _ => ⟨d10, d8⟩⟩, (fun h => by obtain ⟨y, a9, c9, p1, p2, _⟩ := h5 h; exact ⟨y, a9, c9, p1, p2, fun h => absurd (show L 6 = false from h) (by rw [d6]; simp)⟩), (fun h => by obtain ⟨p1, p2, p3, p4, p5⟩ := h6 h; exact ⟨p1, p2.frame (fun b hb _ => setRow_other W Y b _ (hY3 d6 b hb)), (fun b hb => ⟨(p3 b hb).1, by simpa using (p3 b hb).2⟩), p4, p5⟩), h7, (fun _ => rfl), fun _ => ⟨rfl, hY1, by simpa using hY2, hY3, (fun h => by cases h), fun _ => hY4.row⟩⟩
    | 12, _ =>
     have d9 := hd.dep 9 (by kernel_rfl)
     have d7 := u9 d9
     obtain rfl := h7 d7
     have d6 := u7 d7
     obtain ⟨rfl, hO, hF, hS, hm⟩ := h6 d6
     refine wpOp_plain rfl (fun _ => rfl) fun K hK => ?_
     go_simp
     exact hK _ _ ⟨y12, x55, .tuple #[ndV id f v9, sv], x52, .tuple #[ndV id f v9, sv], x54, x55, v9, sv, m9, S9, F9, Y, by simp only [Nat.reduceBEq, Bool.false_or], hB, hC, ⟨u6, u7, u8, u9, u11⟩, h5, (fun _ => ⟨rfl, hO, hF, hS, hm⟩), (fun _ => rfl), h8, h10⟩
    | n9 + 13, h => exact absurd h (by simp)
   ·intro L a W hall hI
    obtain ⟨y12, y13, x46, x52, x53, x54, x55, v9, sv, m9, S9, F9, Y, rfl, hB, hC, _, h5, h6, h7, h8, h10⟩ := hI
    have e0 := hall 0 (by decide)
    have e1 := hall 1 (by decide)
    have e2 := hall 2 (by decide)
    have e3 := hall 3 (by decide)
    have e4 := hall 4 (by decide)
    have e5 := hall 5 (by decide)
    have e6 := hall 6 (by decide)
    have e7 := hall 7 (by decide)
    have e8 := hall 8 (by decide)
    have e9 := hall 9 (by decide)
    have e10 := hall 10 (by decide)
    have e11 := hall 11 (by decide)
    have e12 := hall 12 (by decide)
    obtain ⟨_, hO, hF, hS, hm⟩ := h6 e6
    obtain ⟨rfl, hY1, _, hY3, _, hY4⟩ := h10 e10
    simp only [e0, e1, e2, e3, e4, cU_y]
    exact (HRR.out _ _).2 ⟨y13, x46, x52, x53, x54, x55, v9, m9, S9, F9, Y, rfl, hB, hC, hO, (fun b hb => ⟨(hF b hb).1, hY3 e6 b hb⟩), hS, hm, hY1, hY4 e11⟩
  ·have hMi : i = M := by have := HI.out.1; omega
   subst hMi
   have nli : ¬ ((i : Int) < (i : Int)) := by omega
   have mB : m ≤ 9 := by have h1 := HI.out.2.1.l; omega
   have iB : i ≤ 9 := by omega
   have KRD : Hid (∀ W, w0.grownBy W (some g) → Row W D 37 #[.int .i64 0, .int .i64 0, .slice none 0 0]) := fun W hW => HR.out.keptG hW (by omega)
   have lwD : w.heap.size ≤ D := by rw [HD.out]; exact Nat.le_refl _
   have FIN : Hid (∀ W (f' : Int) m' a' c' S' F', w0.grownBy W (some g) → Cur W g a0 n cap → Ow W (g + 1) (slsD m' S') (.slice a' m' c') F' → (∀ b, F' b → E ≤ b) → (∀ j, j < m' → (S' j).h = (S' j).e ∧ SlK (S' j)) → m' ≤ 64 → FrB LB w6 W → ∀ W', W' = W.setRow D #[.int .i64 id, .int .i64 f', .slice a' m' c'] → Row W' D 37 #[.int .i64 id, .int .i64 f', .slice a' m' c'] ∧ NdR g w W' a0 n cap (.returned (.tuple #[ndV id f' (.slice a' m' c'), .slice (some ⟨G, 0, none⟩) N cc]))) := fun W f' m' a' c' S' F' hb hc hO hd hs hm hF W' e => by
    subst e
    exact ⟨(KRD.out W hb).row, id, f', m', S', .slice a' m' c', G, N, cc, P, rfl, ⟨F', hO.frame (fun b hb _ => setRow_other W D b _ (by have := hd b hb; omega)), (fun b hb => by have := hd b hb; omega), hs, hm⟩, id0, by omega, HKP.out.1, hGg, (fun V hV => KA.out V (fun b h1 h2 => (hV b (by omega) (by simp; have := hF.1; omega)).trans ((hF.row (show D < LB by omega)).2 b h1 h2))), HKP.out.2, grownRow (grownBy_trans KG0.out hb) lwD, hc.row _ lgD hab⟩
   go_wp2_with fail
   refine (KB.out 24 wr HI.out.2.1.c).mono ?_
   rintro e w8 ⟨q, q0, q1, _, rfl, hg8, hc8⟩
   have K9 : Hid (NdW w0 w8 g X E a0 n cap id f m v S i F ∧ FrB LB w6 w8) := ⟨HI.out.2.1.kept hg8 hc8, HI.out.2.2.kept hg8 lgL⟩
   have KSL : Hid (∀ j, j < m → (S j).h = (S j).e ∧ SlK (S j)) := fun j hj => ⟨(K9.out.1.s j hj).he, (K9.out.1.s j hj).k (by omega)⟩
   obtain ⟨va, vc, rfl⟩ := nd_slice K9.out.1.o
   have lt8 := K9.out.1.c.lt
   clear HI hg8 hc8 q1 HR
   by_cases e0 : q = 0
   ·subst e0
    go_wp2_with fail
    refine (pick_any g n cap a0 w8.heap.size 0 3 3 _ (K9.out.1.c.alloc _) (by omega) (by omega) (by omega) (lit_cells (cs := [0, 4, 3]))).mono ?_
    rintro e w10 ⟨z, rfl, hg10, hc10⟩
    have K10 : Hid (NdW w0 w10 g X E a0 n cap id f m (.slice va m vc) S i F ∧ FrB LB w6 w10) := ⟨K9.out.1.kept (grownBy_trans (World.grownBy_alloc w8 _ _) hg10) hc10, K9.out.2.kept (grownBy_trans (World.grownBy_alloc w8 _ _) hg10) lgL⟩
    have t1 := K10.out.1.x.cell 1
    have z1 := K10.out.1.x.free 1
    simp at t1
    have KW : Hid (w0.grownBy (w10.setCell ⟨X, 1, none⟩ (.int .i64 z)) (some g)) := grownCell 1 _ K10.out.1.b lwX
    have RXe : Hid (Row (w10.setCell ⟨X, 1, none⟩ (.int .i64 z)) X 37 #[.int .i64 id, .int .i64 z, .slice va m vc]) := K10.out.1.x.set 1 _
    have RDe : Hid _ := KRD.out _ KW.out
    have KO : Hid (Ow (w10.setCell ⟨X, 1, none⟩ (.int .i64 z)) (g + 1) (slsD m S) (.slice va m vc) F) := K10.out.1.o.frame (fun b hb _ => heap_setCell_other w10 ⟨X, 1, none⟩ b _ (by show b ≠ X; have := K10.out.1.d b hb; omega))
    clear hg10 hc10
    obtain ⟨FR, FP⟩ := FIN.out _ z m va vc S F KW.out (K10.out.1.c.setc 1 _ lgX hab) KO.out K10.out.1.d KSL.out (by omega) (K10.out.2.cell 1 _ (.inl lXL)) _ rfl
    go_wp2_with (first | (refine wpList_load_row (by rfl) 37 _ (by rfl) X (by rfl) 37 #[.int .i64 id, .int .i64 z, .slice va m vc] (0, 0) _ ?_ Tryz.underlying37 (by rfl) Tryz.infoNd ?_; exact RXe.out) | (refine wpList_store_row (by rfl) 37 _ _ (by rfl) D #[.int .i64 id, .int .i64 z, .slice va m vc] (by rfl) (by rfl) 37 #[.int .i64 0, .int .i64 0, .slice none 0 0] ?_ Tryz.infoNd rfl (by simp [Value.oneCell']) ?_; exact RDe.out))
    exact bodyPost_ret (v := .tuple #[ndV id z (.slice va m vc), .slice (some ⟨G, 0, none⟩) N cc]) (by
     have p0 := FR.cell 0
     have p1 := FR.cell 1
     have p2 := FR.cell 2
     simp at p0 p1 p2
     simp [results, Tryz.results27, go_sem, p0, p1, p2]) rfl FP
   have b0 : (q == 0) = false := by simpa using e0
   by_cases e1 : q = 1
   ·subst e1
    have x2 := K9.out.1.x.cell 2
    simp at x2
    by_cases hm0 : m = 0
    ·subst hm0
     have RXe : Hid (Row w8 X 37 #[.int .i64 id, .int .i64 f, .slice va 0 vc]) := K9.out.1.x
     have RDe : Hid _ := KRD.out _ K9.out.1.b
     obtain ⟨FR, FP⟩ := FIN.out _ f 0 va vc S F K9.out.1.b K9.out.1.c K9.out.1.o K9.out.1.d KSL.out (by omega) K9.out.2 _ rfl
     go_wp2_with (first | (refine wpList_load_row (by rfl) 37 _ (by rfl) X (by rfl) 37 #[.int .i64 id, .int .i64 f, .slice va 0 vc] (0, 0) _ ?_ Tryz.underlying37 (by rfl) Tryz.infoNd ?_; exact RXe.out) | (refine wpList_store_row (by rfl) 37 _ _ (by rfl) D #[.int .i64 id, .int .i64 f, .slice va 0 vc] (by rfl) (by rfl) 37 #[.int .i64 0, .int .i64 0, .slice none 0 0] ?_ Tryz.infoNd rfl (by simp [Value.oneCell']) ?_; exact RDe.out))
     exact bodyPost_ret (v := .tuple #[ndV id f (.slice va 0 vc), .slice (some ⟨G, 0, none⟩) N cc]) (by
      have p0 := FR.cell 0
      have p1 := FR.cell 1
      have p2 := FR.cell 2
      simp at p0 p1 p2
      simp [results, Tryz.results27, go_sem, p0, p1, p2]) rfl FP
    have hm1 : 0 < m := by omega
    have hmi : (0 : Int) < (m : Int) := by omega
    obtain ⟨G1, rfl⟩ := ow_some K9.out.1.o hm1
    have KX : Hid (NdX w0 w6 w8 g X E LB a0 n cap id f m (some ⟨G1, 0, none⟩) vc S F) := ⟨K9.out.1.b, K9.out.1.c, K9.out.1.x, K9.out.1.o, K9.out.1.d, K9.out.2⟩
    have KXW : Hid (∀ W, Below w8.heap.size w8 W → NdX w0 w6 W g X E LB a0 n cap id f m (some ⟨G1, 0, none⟩) vc S F) := fun W hW => KX.out.kept (grownB g hW) (curBelow KX.out.c hW) lgX lXE lgL
    obtain ⟨bd, HBd⟩ : ∃ x, Hid ((S 0).d = x) := ⟨_, rfl⟩
    have KC : Hid (∀ W, Below w8.heap.size w8 W → W.cell? ⟨X, 2, none⟩ = some (.slice (some ⟨G1, 0, none⟩) m vc) ∧ W.cell? ⟨G1, 9, none⟩ = some (.bool bd) ∧ W.frozen? ⟨G1, 9, none⟩ = false) := fun W hW => by
     have h1 := (KXW.out W hW).x.cell 2
     have h2 := nd_flip (KXW.out W hW) hab lgX lXE lwX HE.out hm1
     rw [HBd.out] at h2
     simp at h1
     exact ⟨h1, h2.1, h2.2.1⟩
    go_wp2_with fail
    obtain ⟨Rc1, HRc1⟩ : ∃ R : Act → World → Prop, Hid (∀ A9 W, R A9 W ↔ A9 = ⟨(List.toArray (α := Value) ((.pointer (some ⟨g, 0, none⟩)) :: undef :: (.pointer (some ⟨D, 0, none⟩)) :: (.slice none 0 0) :: (.int .i64 f) :: (.int .i64 id) :: (.pointer (some ⟨X, 0, none⟩)) :: (.bool true) :: (.slice (some ⟨G, 0, none⟩) N cc) :: (.bool ok6) :: (.int .i64 (i : Int)) :: (.int .i64 (i : Int)) :: u12 :: u13 :: (.pointer (some ⟨g, 0, none⟩)) :: (.int .i64 xf) :: (.int .i64 f) :: (.pointer (some ⟨g, 0, none⟩)) :: (.int .i64 f) :: (.int .i64 (al8 f)) :: (.int .i64 id) :: (.tuple #[ndV id f (.slice none 0 0), .bool true]) :: (.int .i64 id) :: (.int .i64 f) :: (.tuple #[ndV id f (.slice none 0 0), .bool true]) :: (ndV id f (.slice none 0 0)) :: (.bool true) :: (.tuple #[.slice (some ⟨G, 0, none⟩) N cc, .bool ok6]) :: (.pointer (some ⟨g, 0, none⟩)) :: (.pointer (some ⟨g, 0, none⟩)) :: (.int .i64 (l4 : Int)) :: (.string sb) :: (.int .i64 f) :: (.int .i64 (f + 1)) :: (.int .i64 f) :: (.int .i64 (al8 f)) :: (.tuple #[.slice (some ⟨G, 0, none⟩) N cc, .bool ok6]) :: (.slice (some ⟨G, 0, none⟩) N cc) :: (.bool ok6) :: (.pointer (some ⟨g, 0, none⟩)) :: (.int .i64 (i : Int)) :: (.int .i64 (i : Int)) :: (.int .i64 (i : Int)) :: (.bool false) :: u44 :: u45 :: u46 :: u47 :: u48 :: u49 :: u50 :: u51 :: u52 :: u53 :: u54 :: u55 :: u56 :: (.pointer (some ⟨g, 0, none⟩)) :: (.int .i64 1) :: (.bool false) :: (.bool false) :: undef :: undef :: undef :: undef :: (.bool true) :: (.bool true) :: (.pointer (some ⟨X, 2, none⟩)) :: (.slice (some ⟨G1, 0, none⟩) m vc) :: (.int .i64 (m : Int)) :: (.bool true) :: (.pointer (some ⟨X, 2, none⟩)) :: (.slice (some ⟨G1, 0, none⟩) m vc) :: (.pointer (some ⟨X, 2, none⟩)) :: (.slice (some ⟨G1, 0, none⟩) m vc) :: (.pointer (some ⟨G1, 0, none⟩)) :: (.pointer (some ⟨G1, 9, none⟩)) :: (.bool bd) :: (.bool (!bd)) :: (.pointer (some ⟨G1, 0, none⟩)) :: (.pointer (some ⟨G1, 9, none⟩)) :: undef :: undef :: undef :: undef :: undef :: undef :: undef :: undef :: undef :: undef :: undef :: undef :: undef :: undef :: undef :: undef :: undef :: undef :: undef :: undef :: undef :: undef :: undef :: undef :: undef :: undef :: undef :: undef :: undef :: undef :: undef :: undef :: undef :: undef :: undef :: undef :: undef :: undef :: undef :: [])), []⟩ ∧ (∃ W0, Below w8.heap.size w8 W0 ∧ W = W0.setCell ⟨G1, 9, none⟩ (.bool (!bd)))) := ⟨fun A9 W => _, fun _ _ => Iff.rfl⟩
    refine wp_region_post Rc1 ?_ ?_
    rotate_left
    ·intro a9 wx hR9
     obtain ⟨rfl, hf1⟩ := (HRc1.out a9 wx).1 hR9
     clear hR9 HRc1
     obtain ⟨W0, hB0, ewx⟩ := hf1
     obtain ⟨F1, KZ⟩ := (nd_flip (KXW.out W0 hB0) hab lgX lXE lwX HE.out hm1).2.2 (!bd)
     rw [← ewx] at KZ
     obtain ⟨S1, HS1⟩ : ∃ x, Hid (x = fun i => if i = 0 then { S 0 with d := !bd } else S i) := ⟨_, rfl⟩
     rw [← HS1.out] at KZ
     have KZh : Hid (NdX w0 w6 wx g X E LB a0 n cap id f m (some ⟨G1, 0, none⟩) vc S1 F1) := KZ
     have KSL1 : Hid (∀ j, j < m → (S1 j).h = (S1 j).e ∧ SlK (S1 j)) := fun j hj => by
      rw [HS1.out]
      by_cases e : j = 0
      ·subst e
       exact ⟨(KSL.out 0 hj).1, slK_d (KSL.out 0 hj).2 _⟩
      ·simp only [e, if_false]
       exact KSL.out j hj
     have RXe : Hid (Row wx X 37 #[.int .i64 id, .int .i64 f, .slice (some ⟨G1, 0, none⟩) m vc]) := KZh.out.x
     have RDe : Hid _ := KRD.out _ KZh.out.b
     clear KZ ewx hB0 KC KXW HS1
     obtain ⟨FR, FP⟩ := FIN.out _ f m _ vc S1 F1 KZh.out.b KZh.out.c KZh.out.o KZh.out.d KSL1.out (by omega) KZh.out.fr _ rfl
     go_wp2_with (first | (refine wpList_load_row (by rfl) 37 _ (by rfl) X (by rfl) 37 #[.int .i64 id, .int .i64 f, .slice (some ⟨G1, 0, none⟩) m vc] (0, 0) _ ?_ Tryz.underlying37 (by rfl) Tryz.infoNd ?_; exact RXe.out) | (refine wpList_store_row (by rfl) 37 _ _ (by rfl) D #[.int .i64 id, .int .i64 f, .slice (some ⟨G1, 0, none⟩) m vc] (by rfl) (by rfl) 37 #[.int .i64 0, .int .i64 0, .slice none 0 0] ?_ Tryz.infoNd rfl (by simp [Value.oneCell']) ?_; exact RDe.out))
     exact bodyPost_ret (v := .tuple #[ndV id f (.slice (some ⟨G1, 0, none⟩) m vc), .slice (some ⟨G, 0, none⟩) N cc]) (by
      have p0 := FR.cell 0
      have p1 := FR.cell 1
      have p2 := FR.cell 2
      simp at p0 p1 p2
      simp [results, Tryz.results27, go_sem, p0, p1, p2]) rfl FP
    refine wp_region_cl Tryz.mixed (by kernel_rfl) (fun L A9 W => A9 = ⟨(List.toArray (α := Value) ((.pointer (some ⟨g, 0, none⟩)) :: undef :: (.pointer (some ⟨D, 0, none⟩)) :: (.slice none 0 0) :: (.int .i64 f) :: (.int .i64 id) :: (.pointer (some ⟨X, 0, none⟩)) :: (.bool true) :: (.slice (some ⟨G, 0, none⟩) N cc) :: (.bool ok6) :: (.int .i64 (i : Int)) :: (.int .i64 (i : Int)) :: u12 :: u13 :: (.pointer (some ⟨g, 0, none⟩)) :: (.int .i64 xf) :: (.int .i64 f) :: (.pointer (some ⟨g, 0, none⟩)) :: (.int .i64 f) :: (.int .i64 (al8 f)) :: (.int .i64 id) :: (.tuple #[ndV id f (.slice none 0 0), .bool true]) :: (.int .i64 id) :: (.int .i64 f) :: (.tuple #[ndV id f (.slice none 0 0), .bool true]) :: (ndV id f (.slice none 0 0)) :: (.bool true) :: (.tuple #[.slice (some ⟨G, 0, none⟩) N cc, .bool ok6]) :: (.pointer (some ⟨g, 0, none⟩)) :: (.pointer (some ⟨g, 0, none⟩)) :: (.int .i64 (l4 : Int)) :: (.string sb) :: (.int .i64 f) :: (.int .i64 (f + 1)) :: (.int .i64 f) :: (.int .i64 (al8 f)) :: (.tuple #[.slice (some ⟨G, 0, none⟩) N cc, .bool ok6]) :: (.slice (some ⟨G, 0, none⟩) N cc) :: (.bool ok6) :: (.pointer (some ⟨g, 0, none⟩)) :: (.int .i64 (i : Int)) :: (.int .i64 (i : Int)) :: (.int .i64 (i : Int)) :: (.bool false) :: u44 :: u45 :: u46 :: u47 :: u48 :: u49 :: u50 :: u51 :: u52 :: u53 :: u54 :: u55 :: u56 :: (.pointer (some ⟨g, 0, none⟩)) :: (.int .i64 1) :: (.bool false) :: (.bool false) :: undef :: undef :: undef :: undef :: (.bool true) :: (.bool true) :: (.pointer (some ⟨X, 2, none⟩)) :: (.slice (some ⟨G1, 0, none⟩) m vc) :: (.int .i64 (m : Int)) :: (.bool true) :: (cX (L 0) (.pointer (some ⟨X, 2, none⟩)) undef) :: (cX (L 1) (.slice (some ⟨G1, 0, none⟩) m vc) undef) :: (cX (L 2) (.pointer (some ⟨X, 2, none⟩)) undef) :: (cX (L 3) (.slice (some ⟨G1, 0, none⟩) m vc) undef) :: (cX (L 4) (.pointer (some ⟨G1, 0, none⟩)) undef) :: (cX (L 5) (.pointer (some ⟨G1, 9, none⟩)) undef) :: (cX (L 6) (.bool bd) undef) :: (cX (L 7) (.bool (!bd)) undef) :: (cX (L 8) (.pointer (some ⟨G1, 0, none⟩)) undef) :: (cX (L 9) (.pointer (some ⟨G1, 9, none⟩)) undef) :: undef :: undef :: undef :: undef :: undef :: undef :: undef :: undef :: undef :: undef :: undef :: undef :: undef :: undef :: undef :: undef :: undef :: undef :: undef :: undef :: undef :: undef :: undef :: undef :: undef :: undef :: undef :: undef :: undef :: undef :: undef :: undef :: undef :: undef :: undef :: undef :: undef :: undef :: undef :: [])), []⟩ ∧ (L 10 = false → Below w8.heap.size w8 W) ∧ (L 10 = true → ∃ W0, Below w8.heap.size w8 W0 ∧ W = W0.setCell ⟨G1, 9, none⟩ (.bool (!bd)))) ?_ ?_ ?_
    ·exact ⟨rfl, (fun _ => below_drew _), (fun h => by cases h)⟩
    ·intro q9 hq9 L a9 W hl hd hcl hI9
     obtain ⟨rfl, h0, h1⟩ := hI9
     match q9, hq9 with
     | 0, _ =>
      have e0 := hl
      have e10 : L 10 = false := by cases h9 : L 10 with | false => rfl | true => rw [((hcl 1 ((hcl 8 ((hcl 9 ((hcl 10 h9).dep 9 (by kernel_rfl))).dep 8 (by kernel_rfl))).dep 1 (by kernel_rfl))).dep 0 (by kernel_rfl))] at hl; cases hl
      refine wpOp_plain rfl (fun _ => rfl) fun K hK => ?_
      go_simp
      exact hK _ _ ⟨(by simp only [Nat.reduceBEq, Bool.false_or, Bool.true_or, cX_y]), (fun k0 => (h0 (show L 10 = false from k0))), (fun k0 => absurd (show L 10 = true from k0) (by rw [e10]; simp))⟩
     | 1, _ =>
      have d0 := hd.dep 0 (by kernel_rfl)
      have e1 := hl
      have e10 : L 10 = false := by cases h9 : L 10 with | false => rfl | true => rw [((hcl 8 ((hcl 9 ((hcl 10 h9).dep 9 (by kernel_rfl))).dep 8 (by kernel_rfl))).dep 1 (by kernel_rfl))] at hl; cases hl
      obtain ⟨o2, o9, oz⟩ := KC.out W (h0 e10)
      refine wpOp_plain rfl (fun _ => rfl) fun K hK => ?_
      simp only [d0, cX_y]
      go_simp
      exact hK _ _ ⟨(by simp only [Nat.reduceBEq, Bool.false_or, Bool.true_or, cX_y, d0]), (fun k0 => (h0 (show L 10 = false from k0))), (fun k0 => absurd (show L 10 = true from k0) (by rw [e10]; simp))⟩
     | 2, _ =>
      have e2 := hl
      have e10 : L 10 = false := by cases h9 : L 10 with | false => rfl | true => rw [((hcl 3 ((hcl 4 ((hcl 5 ((hcl 6 ((hcl 7 ((hcl 10 h9).dep 7 (by kernel_rfl))).dep 6 (by kernel_rfl))).dep 5 (by kernel_rfl))).dep 4 (by kernel_rfl))).dep 3 (by kernel_rfl))).dep 2 (by kernel_rfl))] at hl; cases hl
      refine wpOp_plain rfl (fun _ => rfl) fun K hK => ?_
      go_simp
      exact hK _ _ ⟨(by simp only [Nat.reduceBEq, Bool.false_or, Bool.true_or, cX_y]), (fun k0 => (h0 (show L 10 = false from k0))), (fun k0 => absurd (show L 10 = true from k0) (by rw [e10]; simp))⟩
     | 3, _ =>
      have d2 := hd.dep 2 (by kernel_rfl)
      have e3 := hl
      have e10 : L 10 = false := by cases h9 : L 10 with | false => rfl | true => rw [((hcl 4 ((hcl 5 ((hcl 6 ((hcl 7 ((hcl 10 h9).dep 7 (by kernel_rfl))).dep 6 (by kernel_rfl))).dep 5 (by kernel_rfl))).dep 4 (by kernel_rfl))).dep 3 (by kernel_rfl))] at hl; cases hl
      obtain ⟨o2, o9, oz⟩ := KC.out W (h0 e10)
      refine wpOp_plain rfl (fun _ => rfl) fun K hK => ?_
      simp only [d2, cX_y]
      go_simp
      exact hK _ _ ⟨(by simp only [Nat.reduceBEq, Bool.false_or, Bool.true_or, cX_y, d2]), (fun k0 => (h0 (show L 10 = false from k0))), (fun k0 => absurd (show L 10 = true from k0) (by rw [e10]; simp))⟩
     | 4, _ =>
      have d3 := hd.dep 3 (by kernel_rfl)
      have e4 := hl
      have e10 : L 10 = false := by cases h9 : L 10 with | false => rfl | true => rw [((hcl 5 ((hcl 6 ((hcl 7 ((hcl 10 h9).dep 7 (by kernel_rfl))).dep 6 (by kernel_rfl))).dep 5 (by kernel_rfl))).dep 4 (by kernel_rfl))] at hl; cases hl
      refine wpOp_plain rfl (fun _ => rfl) fun K hK => ?_
      simp only [d3, cX_y]
      go_simp
      exact hK _ _ ⟨(by simp only [Nat.reduceBEq, Bool.false_or, Bool.true_or, cX_y, d3]), (fun k0 => (h0 (show L 10 = false from k0))), (fun k0 => absurd (show L 10 = true from k0) (by rw [e10]; simp))⟩
     | 5, _ =>
      have d4 := hd.dep 4 (by kernel_rfl)
      have e5 := hl
      have e10 : L 10 = false := by cases h9 : L 10 with | false => rfl | true => rw [((hcl 6 ((hcl 7 ((hcl 10 h9).dep 7 (by kernel_rfl))).dep 6 (by kernel_rfl))).dep 5 (by kernel_rfl))] at hl; cases hl
      refine wpOp_plain rfl (fun _ => rfl) fun K hK => ?_
      simp only [d4, cX_y]
      go_simp
      exact hK _ _ ⟨(by simp only [Nat.reduceBEq, Bool.false_or, Bool.true_or, cX_y, d4]), (fun k0 => (h0 (show L 10 = false from k0))), (fun k0 => absurd (show L 10 = true from k0) (by rw [e10]; simp))⟩
     | 6, _ =>
      have d5 := hd.dep 5 (by kernel_rfl)
      have e6 := hl
      have e10 : L 10 = false := by cases h9 : L 10 with | false => rfl | true => rw [((hcl 7 ((hcl 10 h9).dep 7 (by kernel_rfl))).dep 6 (by kernel_rfl))] at hl; cases hl
      obtain ⟨o2, o9, oz⟩ := KC.out W (h0 e10)
      refine wpOp_plain rfl (fun _ => rfl) fun K hK => ?_
      simp only [d5, cX_y]
      go_simp
      exact hK _ _ ⟨(by simp only [Nat.reduceBEq, Bool.false_or, Bool.true_or, cX_y, d5]), (fun k0 => (h0 (show L 10 = false from k0))), (fun k0 => absurd (show L 10 = true from k0) (by rw [e10]; simp))⟩
     | 7, _ =>
      have d6 := hd.dep 6 (by kernel_rfl)
      have e7 := hl
      have e10 : L 10 = false := by cases h9 : L 10 with | false => rfl | true => rw [((hcl 10 h9).dep 7 (by kernel_rfl))] at hl; cases hl
      refine wpOp_plain rfl (fun _ => rfl) fun K hK => ?_
      simp only [d6, cX_y]
      go_simp
      exact hK _ _ ⟨(by simp only [Nat.reduceBEq, Bool.false_or, Bool.true_or, cX_y, d6]), (fun k0 => (h0 (show L 10 = false from k0))), (fun k0 => absurd (show L 10 = true from k0) (by rw [e10]; simp))⟩
     | 8, _ =>
      have d1 := hd.dep 1 (by kernel_rfl)
      have e8 := hl
      have e10 : L 10 = false := by cases h9 : L 10 with | false => rfl | true => rw [((hcl 9 ((hcl 10 h9).dep 9 (by kernel_rfl))).dep 8 (by kernel_rfl))] at hl; cases hl
      refine wpOp_plain rfl (fun _ => rfl) fun K hK => ?_
      simp only [d1, cX_y]
      go_simp
      exact hK _ _ ⟨(by simp only [Nat.reduceBEq, Bool.false_or, Bool.true_or, cX_y, d1]), (fun k0 => (h0 (show L 10 = false from k0))), (fun k0 => absurd (show L 10 = true from k0) (by rw [e10]; simp))⟩
     | 9, _ =>
      have d8 := hd.dep 8 (by kernel_rfl)
      have e9 := hl
      have e10 : L 10 = false := by cases h9 : L 10 with | false => rfl | true => rw [((hcl 10 h9).dep 9 (by kernel_rfl))] at hl; cases hl
      refine wpOp_plain rfl (fun _ => rfl) fun K hK => ?_
      simp only [d8, cX_y]
      go_simp
      exact hK _ _ ⟨(by simp only [Nat.reduceBEq, Bool.false_or, Bool.true_or, cX_y, d8]), (fun k0 => (h0 (show L 10 = false from k0))), (fun k0 => absurd (show L 10 = true from k0) (by rw [e10]; simp))⟩
     | 10, _ =>
      have d9 := hd.dep 9 (by kernel_rfl)
      have d7 := hd.dep 7 (by kernel_rfl)
      have e10 := hl
      obtain ⟨o2, o9, oz⟩ := KC.out W (h0 e10)
      refine wpOp_plain rfl (fun _ => rfl) fun K hK => ?_
      simp only [d9, d7, cX_y]
      go_simp
      exact hK _ _ ⟨(by simp only [Nat.reduceBEq, Bool.false_or, d9, d7, cX_y]), (fun k0 => by cases k0), (fun k0 => ⟨W, h0 e10, rfl⟩)⟩
     | n9 + 11, h => exact absurd h (by simp)
    ·intro L a9 W hall hI9
     obtain ⟨rfl, h0, h1⟩ := hI9
     have e0 := hall 0 (by decide)
     have e1 := hall 1 (by decide)
     have e2 := hall 2 (by decide)
     have e3 := hall 3 (by decide)
     have e4 := hall 4 (by decide)
     have e5 := hall 5 (by decide)
     have e6 := hall 6 (by decide)
     have e7 := hall 7 (by decide)
     have e8 := hall 8 (by decide)
     have e9 := hall 9 (by decide)
     have e10 := hall 10 (by decide)
     simp only [e0, e1, e2, e3, e4, e5, e6, e7, e8, e9, cX_y]
     exact (HRc1.out _ _).2 ⟨rfl, h1 e10⟩
   have b1 : (q == 1) = false := by simpa using e1
   by_cases e2 : q = 2
   ·subst e2
    have KX : Hid (NdX w0 w6 w8 g X E LB a0 n cap id f m va vc S F) := ⟨K9.out.1.b, K9.out.1.c, K9.out.1.x, K9.out.1.o, K9.out.1.d, K9.out.2⟩
    go_wp2_with fail
    go_loopw [] (fun wr => ∃ (m1 : Nat) (a1 : Option Addr) (c1 : Nat) (S1 : Nat → Sl) (F1 : Nat → Prop), Hid (NdX w0 w6 wr g X E LB a0 n cap id f m1 a1 c1 S1 F1 ∧ (∀ j, j < m1 → (S1 j).h = (S1 j).e ∧ SlK (S1 j)) ∧ m1 ≤ 41)) (fun wr => 41 - lenAt wr X)
    case atStart => exact ⟨m, va, vc, S, F, KX.out, KSL.out, by omega⟩
    case round =>
     obtain ⟨m1, a1, c1, S1, F1, HI⟩ := hrel
     have HLen : Hid (lenAt wr X = m1) := lenAt_is HI.out.1.x
     have m41 : m1 ≤ 41 := HI.out.2.2
     have KXW : Hid (∀ W, wr.grownBy W (some g) → Cur W g a0 n cap → NdX w0 w6 W g X E LB a0 n cap id f m1 a1 c1 S1 F1) := fun W hW hc => HI.out.1.kept hW hc lgX lXE lgL
     have KC : Hid (∀ W, wr.grownBy W (some g) → Cur W g a0 n cap → W.cell? ⟨X, 2, none⟩ = some (.slice a1 m1 c1)) := fun W hW hc => by
      have h1 := (KXW.out W hW hc).x.cell 2
      simpa using h1
     go_wp2_with fail
     obtain ⟨Rc18, HRc18⟩ : ∃ R : Act → World → Prop, Hid (∀ A9 W, R A9 W ↔ ∃ (bq : Int) (x87 : Value), A9 = ⟨(List.toArray (α := Value) ((.pointer (some ⟨g, 0, none⟩)) :: undef :: (.pointer (some ⟨D, 0, none⟩)) :: (.slice none 0 0) :: (.int .i64 f) :: (.int .i64 id) :: (.pointer (some ⟨X, 0, none⟩)) :: (.bool true) :: (.slice (some ⟨G, 0, none⟩) N cc) :: (.bool ok6) :: (.int .i64 (i : Int)) :: (.int .i64 (i : Int)) :: u12 :: u13 :: (.pointer (some ⟨g, 0, none⟩)) :: (.int .i64 xf) :: (.int .i64 f) :: (.pointer (some ⟨g, 0, none⟩)) :: (.int .i64 f) :: (.int .i64 (al8 f)) :: (.int .i64 id) :: (.tuple #[ndV id f (.slice none 0 0), .bool true]) :: (.int .i64 id) :: (.int .i64 f) :: (.tuple #[ndV id f (.slice none 0 0), .bool true]) :: (ndV id f (.slice none 0 0)) :: (.bool true) :: (.tuple #[.slice (some ⟨G, 0, none⟩) N cc, .bool ok6]) :: (.pointer (some ⟨g, 0, none⟩)) :: (.pointer (some ⟨g, 0, none⟩)) :: (.int .i64 (l4 : Int)) :: (.string sb) :: (.int .i64 f) :: (.int .i64 (f + 1)) :: (.int .i64 f) :: (.int .i64 (al8 f)) :: (.tuple #[.slice (some ⟨G, 0, none⟩) N cc, .bool ok6]) :: (.slice (some ⟨G, 0, none⟩) N cc) :: (.bool ok6) :: (.pointer (some ⟨g, 0, none⟩)) :: (.int .i64 (i : Int)) :: (.int .i64 (i : Int)) :: (.int .i64 (i : Int)) :: (.bool false) :: u44 :: u45 :: u46 :: u47 :: u48 :: u49 :: u50 :: u51 :: u52 :: u53 :: u54 :: u55 :: u56 :: (.pointer (some ⟨g, 0, none⟩)) :: (.int .i64 2) :: (.bool false) :: (.bool false) :: undef :: undef :: undef :: undef :: (.bool false) :: (.bool false) :: undef :: undef :: undef :: undef :: undef :: undef :: undef :: undef :: undef :: undef :: undef :: undef :: undef :: undef :: (.bool true) :: (.bool true) :: (.pointer (some ⟨X, 2, none⟩)) :: (.slice a1 m1 c1) :: (.int .i64 (m1 : Int)) :: (.pointer (some ⟨g, 0, none⟩)) :: x87 :: (.int .i64 (40 + bq)) :: (.bool (decide ((m1 : Int) < 40 + bq))) :: u90 :: u91 :: u92 :: u93 :: u94 :: u95 :: u96 :: u97 :: u98 :: u99 :: u100 :: undef :: undef :: undef :: undef :: undef :: undef :: undef :: undef :: undef :: undef :: undef :: undef :: undef :: undef :: undef :: undef :: undef :: undef :: undef :: [])), []⟩ ∧ (wr.grownBy W (some g) ∧ Cur W g a0 n cap) ∧ (x87 = .int .i64 bq ∧ 0 ≤ bq ∧ bq < 2)) := ⟨fun A9 W => _, fun _ _ => Iff.rfl⟩
     refine wp_region_post Rc18 ?_ ?_
     rotate_left
     ·intro a9 wx hR9
      obtain ⟨bq, x87, rfl, hf0, hf1⟩ := (HRc18.out a9 wx).1 hR9
      clear hR9 HRc18
      obtain ⟨rfl, bq0, bq1⟩ := hf1
      have KXx : Hid (NdX w0 w6 wx g X E LB a0 n cap id f m1 a1 c1 S1 F1) := KXW.out wx hf0.1 hf0.2
      clear hf0
      by_cases hlt : (m1 : Int) < 40 + bq
      ·have K9X : Hid (∀ W, Below wx.heap.size wx W → NdX w0 w6 W g X E LB a0 n cap id f m1 a1 c1 S1 F1) := fun W hW => KXx.out.kept (grownB g hW) (curBelow KXx.out.c hW) lgX lXE lgL
       have KC9 : Hid (∀ W, Below wx.heap.size wx W → W.cell? ⟨X, 2, none⟩ = some (.slice a1 m1 c1) ∧ W.frozen? ⟨X, 2, none⟩ = false) := fun W hW => by
        have h1 := (K9X.out W hW).x.cell 2
        simp at h1
        exact ⟨h1, (K9X.out W hW).x.free 2⟩
       rw [decide_eq_true hlt]
       obtain ⟨DS, HDS⟩ : ∃ x, Hid (its (m1 : Int) = x) := ⟨_, rfl⟩
       obtain ⟨LS, HLs⟩ : ∃ x, Hid (Gt.lf DS = x) := ⟨_, rfl⟩
       have hds : DS.size ≤ 21 := by rw [← HDS.out]; exact (its_size _ (by omega) (by omega)).1
       have HLS : Hid (LS.size = 16) := by show LS.size = 16; rw [← HLs.out]; exact Gt.lf_size DS
       have KDec : Hid (∀ W, Calls Tryz.prog 54 #[.int .i64 (m1 : Int)] W fun e w' => e = .returned (.string DS) ∧ w' = W) := fun W => by
        have := sDecI_any (m1 : Int) W (by omega) (by omega)
        rw [HDS.out] at this
        exact this
       have KLf : Hid (∀ W, Calls Tryz.prog 29 #[.string DS] W fun e w' => e = .returned (.string LS) ∧ Below W.heap.size W w') := fun W => by
        have := sleaf_any DS W (by omega)
        rw [HLs.out] at this
        exact this
       obtain ⟨i0, hi0, hz0, hz1, hz2⟩ := info_parts Tryz.infoSlZ
       go_wp2_with fail
       obtain ⟨Rc19, HRc19⟩ : ∃ R : Act → World → Prop, Hid (∀ A9 W, R A9 W ↔ ∃ (x98 : Value) (x99 : Value), A9 = ⟨(List.toArray (α := Value) ((.pointer (some ⟨g, 0, none⟩)) :: undef :: (.pointer (some ⟨D, 0, none⟩)) :: (.slice none 0 0) :: (.int .i64 f) :: (.int .i64 id) :: (.pointer (some ⟨X, 0, none⟩)) :: (.bool true) :: (.slice (some ⟨G, 0, none⟩) N cc) :: (.bool ok6) :: (.int .i64 (i : Int)) :: (.int .i64 (i : Int)) :: u12 :: u13 :: (.pointer (some ⟨g, 0, none⟩)) :: (.int .i64 xf) :: (.int .i64 f) :: (.pointer (some ⟨g, 0, none⟩)) :: (.int .i64 f) :: (.int .i64 (al8 f)) :: (.int .i64 id) :: (.tuple #[ndV id f (.slice none 0 0), .bool true]) :: (.int .i64 id) :: (.int .i64 f) :: (.tuple #[ndV id f (.slice none 0 0), .bool true]) :: (ndV id f (.slice none 0 0)) :: (.bool true) :: (.tuple #[.slice (some ⟨G, 0, none⟩) N cc, .bool ok6]) :: (.pointer (some ⟨g, 0, none⟩)) :: (.pointer (some ⟨g, 0, none⟩)) :: (.int .i64 (l4 : Int)) :: (.string sb) :: (.int .i64 f) :: (.int .i64 (f + 1)) :: (.int .i64 f) :: (.int .i64 (al8 f)) :: (.tuple #[.slice (some ⟨G, 0, none⟩) N cc, .bool ok6]) :: (.slice (some ⟨G, 0, none⟩) N cc) :: (.bool ok6) :: (.pointer (some ⟨g, 0, none⟩)) :: (.int .i64 (i : Int)) :: (.int .i64 (i : Int)) :: (.int .i64 (i : Int)) :: (.bool false) :: u44 :: u45 :: u46 :: u47 :: u48 :: u49 :: u50 :: u51 :: u52 :: u53 :: u54 :: u55 :: u56 :: (.pointer (some ⟨g, 0, none⟩)) :: (.int .i64 2) :: (.bool false) :: (.bool false) :: undef :: undef :: undef :: undef :: (.bool false) :: (.bool false) :: undef :: undef :: undef :: undef :: undef :: undef :: undef :: undef :: undef :: undef :: undef :: undef :: undef :: undef :: (.bool true) :: (.bool true) :: (.pointer (some ⟨X, 2, none⟩)) :: (.slice a1 m1 c1) :: (.int .i64 (m1 : Int)) :: (.pointer (some ⟨g, 0, none⟩)) :: (.int .i64 bq) :: (.int .i64 (40 + bq)) :: (.bool true) :: (.pointer (some ⟨X, 2, none⟩)) :: (.slice a1 m1 c1) :: (.pointer (some ⟨X, 2, none⟩)) :: (.slice a1 m1 c1) :: (.int .i64 (m1 : Int)) :: (.string DS) :: (.string LS) :: (.agg #[.string LS, .string ⟨#[]⟩, .int .i64 0, .int .i64 0, .int .i64 0, .string ⟨#[]⟩, .slice none 0 0, .bool false, .bool false, .bool false, .bool false, .slice none 0 0, .slice none 0 0]) :: x98 :: x99 :: (.pointer (some ⟨X, 2, none⟩)) :: undef :: undef :: undef :: undef :: undef :: undef :: undef :: undef :: undef :: undef :: undef :: undef :: undef :: undef :: undef :: undef :: undef :: undef :: undef :: [])), []⟩ ∧ (∃ g8 c8, x99 = .slice (some ⟨g8, 0, none⟩) (m1 + 1) c8 ∧ ∃ F8, NdX w0 w6 W g X E LB a0 n cap id f (m1 + 1) (some ⟨g8, 0, none⟩) c8 (slF S1 LS m1) F8)) := ⟨fun A9 W => _, fun _ _ => Iff.rfl⟩
       refine wp_region_post Rc19 ?_ ?_
       rotate_left
       ·intro a9 wx8 hR9
        obtain ⟨x98, x99, rfl, hf4⟩ := (HRc19.out a9 wx8).1 hR9
        clear hR9 HRc19
        obtain ⟨g8, c8, rfl, F8, KN8⟩ := hf4
        have HLen8 : Hid (lenAt wx8 X = m1 + 1) := lenAt_is KN8.x
        have KI8 : Hid (NdX w0 w6 wx8 g X E LB a0 n cap id f (m1 + 1) (some ⟨g8, 0, none⟩) c8 (slF S1 LS m1) F8 ∧ (∀ j, j < m1 + 1 → (slF S1 LS m1 j).h = (slF S1 LS m1 j).e ∧ SlK (slF S1 LS m1 j)) ∧ m1 + 1 ≤ 41) := ⟨KN8, fun j hj => by
         unfold slF
         by_cases e : j = m1
         ·rw [if_pos e]
          exact ⟨rfl, by have := HLS.out; show LS.size ≤ 1048576; omega, by simp [slR], by simp [slR], by simp [slR], fun i hi => absurd hi (Nat.not_lt_zero i), by simp [slR], by simp [slR]⟩
         ·rw [if_neg e]
          exact HI.out.2.1 j (by omega), by omega⟩
        clear KN8 KC9 K9X KDec KLf HI KXW KC
        go_wp2_with fail
        go_roundw
        case rel => exact ⟨m1 + 1, some ⟨g8, 0, none⟩, c8, slF S1 LS m1, F8, KI8⟩
        case measure => have h1 := HLen.out; have h2 := HLen8.out; rw [h1, h2]; omega
       refine wp_region_cl Tryz.mixed (by kernel_rfl) (fun L A9 W => ∃ (x98 : Value) (x99 : Value), A9 = ⟨(List.toArray (α := Value) ((.pointer (some ⟨g, 0, none⟩)) :: undef :: (.pointer (some ⟨D, 0, none⟩)) :: (.slice none 0 0) :: (.int .i64 f) :: (.int .i64 id) :: (.pointer (some ⟨X, 0, none⟩)) :: (.bool true) :: (.slice (some ⟨G, 0, none⟩) N cc) :: (.bool ok6) :: (.int .i64 (i : Int)) :: (.int .i64 (i : Int)) :: u12 :: u13 :: (.pointer (some ⟨g, 0, none⟩)) :: (.int .i64 xf) :: (.int .i64 f) :: (.pointer (some ⟨g, 0, none⟩)) :: (.int .i64 f) :: (.int .i64 (al8 f)) :: (.int .i64 id) :: (.tuple #[ndV id f (.slice none 0 0), .bool true]) :: (.int .i64 id) :: (.int .i64 f) :: (.tuple #[ndV id f (.slice none 0 0), .bool true]) :: (ndV id f (.slice none 0 0)) :: (.bool true) :: (.tuple #[.slice (some ⟨G, 0, none⟩) N cc, .bool ok6]) :: (.pointer (some ⟨g, 0, none⟩)) :: (.pointer (some ⟨g, 0, none⟩)) :: (.int .i64 (l4 : Int)) :: (.string sb) :: (.int .i64 f) :: (.int .i64 (f + 1)) :: (.int .i64 f) :: (.int .i64 (al8 f)) :: (.tuple #[.slice (some ⟨G, 0, none⟩) N cc, .bool ok6]) :: (.slice (some ⟨G, 0, none⟩) N cc) :: (.bool ok6) :: (.pointer (some ⟨g, 0, none⟩)) :: (.int .i64 (i : Int)) :: (.int .i64 (i : Int)) :: (.int .i64 (i : Int)) :: (.bool false) :: u44 :: u45 :: u46 :: u47 :: u48 :: u49 :: u50 :: u51 :: u52 :: u53 :: u54 :: u55 :: u56 :: (.pointer (some ⟨g, 0, none⟩)) :: (.int .i64 2) :: (.bool false) :: (.bool false) :: undef :: undef :: undef :: undef :: (.bool false) :: (.bool false) :: undef :: undef :: undef :: undef :: undef :: undef :: undef :: undef :: undef :: undef :: undef :: undef :: undef :: undef :: (.bool true) :: (.bool true) :: (.pointer (some ⟨X, 2, none⟩)) :: (.slice a1 m1 c1) :: (.int .i64 (m1 : Int)) :: (.pointer (some ⟨g, 0, none⟩)) :: (.int .i64 bq) :: (.int .i64 (40 + bq)) :: (.bool true) :: (cX (L 0) (.pointer (some ⟨X, 2, none⟩)) u90) :: (cX (L 1) (.slice a1 m1 c1) u91) :: (cX (L 2) (.pointer (some ⟨X, 2, none⟩)) u92) :: (cX (L 3) (.slice a1 m1 c1) u93) :: (cX (L 4) (.int .i64 (m1 : Int)) u94) :: (cX (L 5) (.string DS) u95) :: (cX (L 6) (.string LS) u96) :: (cX (L 7) (.agg #[.string LS, .string ⟨#[]⟩, .int .i64 0, .int .i64 0, .int .i64 0, .string ⟨#[]⟩, .slice none 0 0, .bool false, .bool false, .bool false, .bool false, .slice none 0 0, .slice none 0 0]) u97) :: x98 :: x99 :: (cX (L 10) (.pointer (some ⟨X, 2, none⟩)) u100) :: undef :: undef :: undef :: undef :: undef :: undef :: undef :: undef :: undef :: undef :: undef :: undef :: undef :: undef :: undef :: undef :: undef :: undef :: undef :: [])), []⟩ ∧ (L 8 = false → Below wx.heap.size wx W) ∧ (L 11 = false → W.cell? ⟨X, 2, none⟩ = some (.slice a1 m1 c1) ∧ W.frozen? ⟨X, 2, none⟩ = false) ∧ (L 8 = true → L 9 = false → ∃ Y, x98 = .slice (some ⟨Y, 0, none⟩) 1 1 ∧ Row W Y 65 (slRC LS) ∧ Below wx.heap.size wx W) ∧ (L 9 = true → L 11 = false → ∃ g8 c8, x99 = .slice (some ⟨g8, 0, none⟩) (m1 + 1) c8 ∧ ∃ F8, NdX w0 w6 (W.setCell ⟨X, 2, none⟩ x99) g X E LB a0 n cap id f (m1 + 1) (some ⟨g8, 0, none⟩) c8 (slF S1 LS m1) F8) ∧ (L 11 = true → ∃ g8 c8, x99 = .slice (some ⟨g8, 0, none⟩) (m1 + 1) c8 ∧ ∃ F8, NdX w0 w6 W g X E LB a0 n cap id f (m1 + 1) (some ⟨g8, 0, none⟩) c8 (slF S1 LS m1) F8)) ?_ ?_ ?_
       ·exact ⟨u98, u99, rfl, (fun _ => below_drew _), (fun _ => KC9.out _ (below_drew _)), (fun h => by cases h), (fun h => by cases h), (fun h => by cases h)⟩
       ·intro q9 hq9 L a9 W hl hd hcl hI9
        obtain ⟨x98, x99, rfl, h0, h1, h2, h3, h4⟩ := hI9
        match q9, hq9 with
        | 0, _ =>
         have e0 := hl
         have e9 : L 9 = false := by cases h9 : L 9 with | false => rfl | true => rw [((hcl 1 ((hcl 9 h9).dep 1 (by kernel_rfl))).dep 0 (by kernel_rfl))] at hl; cases hl
         have e11 : L 11 = false := by cases h9 : L 11 with | false => rfl | true => rw [((hcl 1 ((hcl 9 ((hcl 11 h9).dep 9 (by kernel_rfl))).dep 1 (by kernel_rfl))).dep 0 (by kernel_rfl))] at hl; cases hl
         refine wpOp_plain rfl (fun _ => rfl) fun K hK => ?_
         go_simp
         exact hK _ _ ⟨x98, x99, (by simp only [Nat.reduceBEq, Bool.false_or, Bool.true_or, cX_y]), (fun k0 => (h0 (show L 8 = false from k0))), (fun k0 => (h1 (show L 11 = false from k0))), (fun k0 k1 => (h2 (show L 8 = true from k0) (show L 9 = false from k1))), (fun k0 k1 => absurd (show L 9 = true from k0) (by rw [e9]; simp)), (fun k0 => absurd (show L 11 = true from k0) (by rw [e11]; simp))⟩
        | 1, _ =>
         have d0 := hd.dep 0 (by kernel_rfl)
         have e1 := hl
         have e9 : L 9 = false := by cases h9 : L 9 with | false => rfl | true => rw [((hcl 9 h9).dep 1 (by kernel_rfl))] at hl; cases hl
         have e11 : L 11 = false := by cases h9 : L 11 with | false => rfl | true => rw [((hcl 9 ((hcl 11 h9).dep 9 (by kernel_rfl))).dep 1 (by kernel_rfl))] at hl; cases hl
         obtain ⟨o2, oz⟩ := h1 e11
         refine wpOp_plain rfl (fun _ => rfl) fun K hK => ?_
         simp only [d0, cX_y]
         go_simp
         exact hK _ _ ⟨x98, x99, (by simp only [Nat.reduceBEq, Bool.false_or, Bool.true_or, cX_y, d0]), (fun k0 => (h0 (show L 8 = false from k0))), (fun k0 => (h1 (show L 11 = false from k0))), (fun k0 k1 => (h2 (show L 8 = true from k0) (show L 9 = false from k1))), (fun k0 k1 => absurd (show L 9 = true from k0) (by rw [e9]; simp)), (fun k0 => absurd (show L 11 = true from k0) (by rw [e11]; simp))⟩
        | 2, _ =>
         have e2 := hl
         have e8 : L 8 = false := by cases h9 : L 8 with | false => rfl | true => rw [((hcl 3 ((hcl 4 ((hcl 5 ((hcl 6 ((hcl 7 ((hcl 8 h9).dep 7 (by kernel_rfl))).dep 6 (by kernel_rfl))).dep 5 (by kernel_rfl))).dep 4 (by kernel_rfl))).dep 3 (by kernel_rfl))).dep 2 (by kernel_rfl))] at hl; cases hl
         have e9 : L 9 = false := by cases h9 : L 9 with | false => rfl | true => rw [((hcl 3 ((hcl 4 ((hcl 5 ((hcl 6 ((hcl 7 ((hcl 8 ((hcl 9 h9).dep 8 (by kernel_rfl))).dep 7 (by kernel_rfl))).dep 6 (by kernel_rfl))).dep 5 (by kernel_rfl))).dep 4 (by kernel_rfl))).dep 3 (by kernel_rfl))).dep 2 (by kernel_rfl))] at hl; cases hl
         have e11 : L 11 = false := by cases h9 : L 11 with | false => rfl | true => rw [((hcl 3 ((hcl 4 ((hcl 5 ((hcl 6 ((hcl 7 ((hcl 8 ((hcl 9 ((hcl 11 h9).dep 9 (by kernel_rfl))).dep 8 (by kernel_rfl))).dep 7 (by kernel_rfl))).dep 6 (by kernel_rfl))).dep 5 (by kernel_rfl))).dep 4 (by kernel_rfl))).dep 3 (by kernel_rfl))).dep 2 (by kernel_rfl))] at hl; cases hl
         refine wpOp_plain rfl (fun _ => rfl) fun K hK => ?_
         go_simp
         exact hK _ _ ⟨x98, x99, (by simp only [Nat.reduceBEq, Bool.false_or, Bool.true_or, cX_y]), (fun k0 => (h0 (show L 8 = false from k0))), (fun k0 => (h1 (show L 11 = false from k0))), (fun k0 k1 => absurd (show L 8 = true from k0) (by rw [e8]; simp)), (fun k0 k1 => absurd (show L 9 = true from k0) (by rw [e9]; simp)), (fun k0 => absurd (show L 11 = true from k0) (by rw [e11]; simp))⟩
        | 3, _ =>
         have d2 := hd.dep 2 (by kernel_rfl)
         have e3 := hl
         have e8 : L 8 = false := by cases h9 : L 8 with | false => rfl | true => rw [((hcl 4 ((hcl 5 ((hcl 6 ((hcl 7 ((hcl 8 h9).dep 7 (by kernel_rfl))).dep 6 (by kernel_rfl))).dep 5 (by kernel_rfl))).dep 4 (by kernel_rfl))).dep 3 (by kernel_rfl))] at hl; cases hl
         have e9 : L 9 = false := by cases h9 : L 9 with | false => rfl | true => rw [((hcl 4 ((hcl 5 ((hcl 6 ((hcl 7 ((hcl 8 ((hcl 9 h9).dep 8 (by kernel_rfl))).dep 7 (by kernel_rfl))).dep 6 (by kernel_rfl))).dep 5 (by kernel_rfl))).dep 4 (by kernel_rfl))).dep 3 (by kernel_rfl))] at hl; cases hl
         have e11 : L 11 = false := by cases h9 : L 11 with | false => rfl | true => rw [((hcl 4 ((hcl 5 ((hcl 6 ((hcl 7 ((hcl 8 ((hcl 9 ((hcl 11 h9).dep 9 (by kernel_rfl))).dep 8 (by kernel_rfl))).dep 7 (by kernel_rfl))).dep 6 (by kernel_rfl))).dep 5 (by kernel_rfl))).dep 4 (by kernel_rfl))).dep 3 (by kernel_rfl))] at hl; cases hl
         obtain ⟨o2, oz⟩ := h1 e11
         refine wpOp_plain rfl (fun _ => rfl) fun K hK => ?_
         simp only [d2, cX_y]
         go_simp
         exact hK _ _ ⟨x98, x99, (by simp only [Nat.reduceBEq, Bool.false_or, Bool.true_or, cX_y, d2]), (fun k0 => (h0 (show L 8 = false from k0))), (fun k0 => (h1 (show L 11 = false from k0))), (fun k0 k1 => absurd (show L 8 = true from k0) (by rw [e8]; simp)), (fun k0 k1 => absurd (show L 9 = true from k0) (by rw [e9]; simp)), (fun k0 => absurd (show L 11 = true from k0) (by rw [e11]; simp))⟩
        | 4, _ =>
         have d3 := hd.dep 3 (by kernel_rfl)
         have e4 := hl
         have e8 : L 8 = false := by cases h9 : L 8 with | false => rfl | true => rw [((hcl 5 ((hcl 6 ((hcl 7 ((hcl 8 h9).dep 7 (by kernel_rfl))).dep 6 (by kernel_rfl))).dep 5 (by kernel_rfl))).dep 4 (by kernel_rfl))] at hl; cases hl
         have e9 : L 9 = false := by cases h9 : L 9 with | false => rfl | true => rw [((hcl 5 ((hcl 6 ((hcl 7 ((hcl 8 ((hcl 9 h9).dep 8 (by kernel_rfl))).dep 7 (by kernel_rfl))).dep 6 (by kernel_rfl))).dep 5 (by kernel_rfl))).dep 4 (by kernel_rfl))] at hl; cases hl
         have e11 : L 11 = false := by cases h9 : L 11 with | false => rfl | true => rw [((hcl 5 ((hcl 6 ((hcl 7 ((hcl 8 ((hcl 9 ((hcl 11 h9).dep 9 (by kernel_rfl))).dep 8 (by kernel_rfl))).dep 7 (by kernel_rfl))).dep 6 (by kernel_rfl))).dep 5 (by kernel_rfl))).dep 4 (by kernel_rfl))] at hl; cases hl
         refine wpOp_plain rfl (fun _ => rfl) fun K hK => ?_
         simp only [d3, cX_y]
         go_simp
         exact hK _ _ ⟨x98, x99, (by simp only [Nat.reduceBEq, Bool.false_or, Bool.true_or, cX_y, d3]), (fun k0 => (h0 (show L 8 = false from k0))), (fun k0 => (h1 (show L 11 = false from k0))), (fun k0 k1 => absurd (show L 8 = true from k0) (by rw [e8]; simp)), (fun k0 k1 => absurd (show L 9 = true from k0) (by rw [e9]; simp)), (fun k0 => absurd (show L 11 = true from k0) (by rw [e11]; simp))⟩
        | 5, _ =>
         have d4 := hd.dep 4 (by kernel_rfl)
         have e5 := hl
         have e8 : L 8 = false := by cases h9 : L 8 with | false => rfl | true => rw [((hcl 6 ((hcl 7 ((hcl 8 h9).dep 7 (by kernel_rfl))).dep 6 (by kernel_rfl))).dep 5 (by kernel_rfl))] at hl; cases hl
         have e9 : L 9 = false := by cases h9 : L 9 with | false => rfl | true => rw [((hcl 6 ((hcl 7 ((hcl 8 ((hcl 9 h9).dep 8 (by kernel_rfl))).dep 7 (by kernel_rfl))).dep 6 (by kernel_rfl))).dep 5 (by kernel_rfl))] at hl; cases hl
         have e11 : L 11 = false := by cases h9 : L 11 with | false => rfl | true => rw [((hcl 6 ((hcl 7 ((hcl 8 ((hcl 9 ((hcl 11 h9).dep 9 (by kernel_rfl))).dep 8 (by kernel_rfl))).dep 7 (by kernel_rfl))).dep 6 (by kernel_rfl))).dep 5 (by kernel_rfl))] at hl; cases hl
         refine wpOp_plain rfl (fun _ => rfl) fun K hK => ?_
         simp only [d4, cX_y]
         go_simp
         refine Calls.mono (KDec.out W) ?_
         rintro e w9 ⟨rfl, hw9⟩
         obtain rfl := hw9.symm
         clear hw9
         exact hK _ _ ⟨x98, x99, (by simp only [Nat.reduceBEq, Bool.false_or, Bool.true_or, cX_y, d4]), (fun k0 => (h0 (show L 8 = false from k0))), (fun k0 => (h1 (show L 11 = false from k0))), (fun k0 k1 => absurd (show L 8 = true from k0) (by rw [e8]; simp)), (fun k0 k1 => absurd (show L 9 = true from k0) (by rw [e9]; simp)), (fun k0 => absurd (show L 11 = true from k0) (by rw [e11]; simp))⟩
        | 6, _ =>
         have d5 := hd.dep 5 (by kernel_rfl)
         have e6 := hl
         have e8 : L 8 = false := by cases h9 : L 8 with | false => rfl | true => rw [((hcl 7 ((hcl 8 h9).dep 7 (by kernel_rfl))).dep 6 (by kernel_rfl))] at hl; cases hl
         have e9 : L 9 = false := by cases h9 : L 9 with | false => rfl | true => rw [((hcl 7 ((hcl 8 ((hcl 9 h9).dep 8 (by kernel_rfl))).dep 7 (by kernel_rfl))).dep 6 (by kernel_rfl))] at hl; cases hl
         have e11 : L 11 = false := by cases h9 : L 11 with | false => rfl | true => rw [((hcl 7 ((hcl 8 ((hcl 9 ((hcl 11 h9).dep 9 (by kernel_rfl))).dep 8 (by kernel_rfl))).dep 7 (by kernel_rfl))).dep 6 (by kernel_rfl))] at hl; cases hl
         have hB6 := h0 e8
         refine wpOp_plain rfl (fun _ => rfl) fun K hK => ?_
         simp only [d5, cX_y]
         go_simp
         refine Calls.mono (KLf.out W) ?_
         rintro e w9 ⟨rfl, hb9⟩
         have hB9 := below2 hB6 hb9
         exact hK _ _ ⟨x98, x99, (by simp only [Nat.reduceBEq, Bool.false_or, Bool.true_or, cX_y, d5]), (fun k0 => hB9), (fun k0 => KC9.out _ hB9), (fun k0 k1 => absurd (show L 8 = true from k0) (by rw [e8]; simp)), (fun k0 k1 => absurd (show L 9 = true from k0) (by rw [e9]; simp)), (fun k0 => absurd (show L 11 = true from k0) (by rw [e11]; simp))⟩
        | 7, _ =>
         have d6 := hd.dep 6 (by kernel_rfl)
         have e7 := hl
         have e8 : L 8 = false := by cases h9 : L 8 with | false => rfl | true => rw [((hcl 8 h9).dep 7 (by kernel_rfl))] at hl; cases hl
         have e9 : L 9 = false := by cases h9 : L 9 with | false => rfl | true => rw [((hcl 8 ((hcl 9 h9).dep 8 (by kernel_rfl))).dep 7 (by kernel_rfl))] at hl; cases hl
         have e11 : L 11 = false := by cases h9 : L 11 with | false => rfl | true => rw [((hcl 8 ((hcl 9 ((hcl 11 h9).dep 9 (by kernel_rfl))).dep 8 (by kernel_rfl))).dep 7 (by kernel_rfl))] at hl; cases hl
         refine wpOp_plain rfl (fun _ => rfl) fun K hK => ?_
         simp only [d6, cX_y]
         go_simp
         exact hK _ _ ⟨x98, x99, (by simp only [Nat.reduceBEq, Bool.false_or, Bool.true_or, cX_y, d6]), (fun k0 => (h0 (show L 8 = false from k0))), (fun k0 => (h1 (show L 11 = false from k0))), (fun k0 k1 => absurd (show L 8 = true from k0) (by rw [e8]; simp)), (fun k0 k1 => absurd (show L 9 = true from k0) (by rw [e9]; simp)), (fun k0 => absurd (show L 11 = true from k0) (by rw [e11]; simp))⟩
        | 8, _ =>
         have d7 := hd.dep 7 (by kernel_rfl)
         have e8 := hl
         have e9 : L 9 = false := by cases h9 : L 9 with | false => rfl | true => rw [((hcl 9 h9).dep 8 (by kernel_rfl))] at hl; cases hl
         have e11 : L 11 = false := by cases h9 : L 11 with | false => rfl | true => rw [((hcl 9 ((hcl 11 h9).dep 9 (by kernel_rfl))).dep 8 (by kernel_rfl))] at hl; cases hl
         have hB7 := h0 e8
         have hB8 : Below wx.heap.size wx (W.alloc (.cells (slRC LS) 65)) := below2 hB7 ((Below.refl _ _).alloc (Nat.le_refl _) _)
         refine wpOp_plain rfl (fun _ => rfl) fun K hK => ?_
         simp only [d7, cX_y]
         go_simp
         exact hK _ _ ⟨_, x99, (by simp only [Nat.reduceBEq, Bool.false_or, d7, cX_y]), (fun k0 => by cases k0), (fun k0 => KC9.out _ hB8), (fun k0 k1 => ⟨W.heap.size, rfl, Row.new W _ _, hB8⟩), (fun k0 k1 => absurd (show L 9 = true from k0) (by rw [e9]; simp)), (fun k0 => absurd (show L 11 = true from k0) (by rw [e11]; simp))⟩
        | 9, _ =>
         have d1 := hd.dep 1 (by kernel_rfl)
         have d8 := hd.dep 8 (by kernel_rfl)
         have e9 := hl
         have e11 : L 11 = false := by cases h9 : L 11 with | false => rfl | true => rw [((hcl 11 h9).dep 9 (by kernel_rfl))] at hl; cases hl
         obtain ⟨Y, rfl, RY, hB⟩ := h2 d8 e9
         have KW := K9X.out W hB
         have lgW : g + 1 ≤ W.heap.size := KW.c.lt
         refine wpOp_plain rfl (fun _ => rfl) fun K hK => ?_
         simp only [d1, cX_y]
         refine wp_snoc W _ _ 35 rfl (g + 1) 65 i0 (.agg zcS.toArray) 13 _ Tryz.underlying35 hi0 hz0 hz1 hz2 rfl (by decide) (.slice a1 m1 c1) m1 _ F1 rfl KW.o ⟨Y, 0, none⟩ 1 (slRC LS).toList rfl rfl (World.news_of_block (t := 65) (fr := (0, 0)) RY) (by simp [Value.oneCell']) (slD (slR LS)) (fun _ _ => False) (fun q hq => ow_slR q hq) (fun _ _ _ h => h.elim) (fun _ _ _ _ _ h => h.elim) (by unfold maxLen; omega) (by omega) lgW fun g8 c8 w9 O8 b8 T8 => ?_
         have O9 : Ow w9 (g + 1) (slsD (m1 + 1) (slF S1 LS m1)) (.slice (some ⟨g8, 0, none⟩) (m1 + 1) c8) (fun x => F1 x ∨ W.heap.size ≤ x) := (O8.mono (fun x hx => by
          rcases hx.2 with (h | ⟨_, _, h⟩) | h
          ·exact .inl h
          ·exact h.elim
          ·exact .inr h)).congr (fun i q hi _ => slot_more i q hi)
         obtain ⟨RX9, KN9⟩ := nd_more KW hab lgX lXE lwX HE.out lXL O9 (fun b hb => by rcases hb with hb | hb; exact KW.d b hb; have := KW.fr.1; have := HE.out; omega) T8 b8
         have p2 := RX9.cell 2
         simp at p2
         have pz := RX9.free 2
         exact hK _ _ ⟨.slice (some ⟨Y, 0, none⟩) 1 1, .slice (some ⟨g8, 0, none⟩) (m1 + 1) c8, (by simp [Act.put, cX_y, d1]), (fun k0 => absurd (show L 8 = false from k0) (by rw [d8]; simp)), (fun k0 => ⟨p2, pz⟩), (fun k0 k1 => by cases k1), (fun k0 k1 => ⟨g8, c8, rfl, _, KN9⟩), (fun k0 => absurd (show L 11 = true from k0) (by rw [e11]; simp))⟩
        | 10, _ =>
         have e10 := hl
         have e11 : L 11 = false := by cases h9 : L 11 with | false => rfl | true => rw [((hcl 11 h9).dep 10 (by kernel_rfl))] at hl; cases hl
         refine wpOp_plain rfl (fun _ => rfl) fun K hK => ?_
         go_simp
         exact hK _ _ ⟨x98, x99, (by simp only [Nat.reduceBEq, Bool.false_or, Bool.true_or, cX_y]), (fun k0 => (h0 (show L 8 = false from k0))), (fun k0 => (h1 (show L 11 = false from k0))), (fun k0 k1 => (h2 (show L 8 = true from k0) (show L 9 = false from k1))), (fun k0 k1 => (h3 (show L 9 = true from k0) (show L 11 = false from k1))), (fun k0 => absurd (show L 11 = true from k0) (by rw [e11]; simp))⟩
        | 11, _ =>
         have d10 := hd.dep 10 (by kernel_rfl)
         have d9 := hd.dep 9 (by kernel_rfl)
         have d8 := (hcl 9 d9).dep 8 (by kernel_rfl)
         have e11 := hl
         obtain ⟨o2, oz⟩ := h1 e11
         obtain ⟨g8, c8, rfl, F8, KN8⟩ := h3 d9 e11
         refine wpOp_plain rfl (fun _ => rfl) fun K hK => ?_
         simp only [d10, cX_y]
         go_simp
         exact hK _ _ ⟨x98, _, (by simp only [Nat.reduceBEq, Bool.false_or, d10, cX_y]), (fun k0 => absurd (show L 8 = false from k0) (by rw [d8]; simp)), (fun k0 => by cases k0), (fun k0 k1 => absurd (show L 9 = false from k1) (by rw [d9]; simp)), (fun k0 k1 => by cases k1), (fun k0 => ⟨g8, c8, rfl, F8, KN8⟩)⟩
        | n9 + 12, h => exact absurd h (by simp)
       ·intro L a9 W hall hI9
        obtain ⟨x98, x99, rfl, h0, h1, h2, h3, h4⟩ := hI9
        have e0 := hall 0 (by decide)
        have e1 := hall 1 (by decide)
        have e2 := hall 2 (by decide)
        have e3 := hall 3 (by decide)
        have e4 := hall 4 (by decide)
        have e5 := hall 5 (by decide)
        have e6 := hall 6 (by decide)
        have e7 := hall 7 (by decide)
        have e8 := hall 8 (by decide)
        have e9 := hall 9 (by decide)
        have e10 := hall 10 (by decide)
        have e11 := hall 11 (by decide)
        simp only [e0, e1, e2, e3, e4, e5, e6, e7, e10, cX_y]
        exact (HRc19.out _ _).2 ⟨x98, x99, rfl, h4 e11⟩
      ·have RXe : Hid (Row wx X 37 #[.int .i64 id, .int .i64 f, .slice a1 m1 c1]) := KXx.out.x
       have RDe : Hid _ := KRD.out _ KXx.out.b
       obtain ⟨FR, FP⟩ := FIN.out _ f m1 a1 c1 S1 F1 KXx.out.b KXx.out.c KXx.out.o KXx.out.d HI.out.2.1 (by omega) KXx.out.fr _ rfl
       go_wp2_with (first | (refine wpList_load_row (by rfl) 37 _ (by rfl) X (by rfl) 37 #[.int .i64 id, .int .i64 f, .slice a1 m1 c1] (0, 0) _ ?_ Tryz.underlying37 (by rfl) Tryz.infoNd ?_; exact RXe.out) | (refine wpList_store_row (by rfl) 37 _ _ (by rfl) D #[.int .i64 id, .int .i64 f, .slice a1 m1 c1] (by rfl) (by rfl) 37 #[.int .i64 0, .int .i64 0, .slice none 0 0] ?_ Tryz.infoNd rfl (by simp [Value.oneCell']) ?_; exact RDe.out))
       exact bodyPost_ret (v := .tuple #[ndV id f (.slice a1 m1 c1), .slice (some ⟨G, 0, none⟩) N cc]) (by
        have p0 := FR.cell 0
        have p1 := FR.cell 1
        have p2 := FR.cell 2
        simp at p0 p1 p2
        simp [results, Tryz.results27, go_sem, p0, p1, p2]) rfl FP
     refine wp_region_cl Tryz.mixed (by kernel_rfl) (fun L A9 W => ∃ (bq : Int) (x87 : Value), A9 = ⟨(List.toArray (α := Value) ((.pointer (some ⟨g, 0, none⟩)) :: undef :: (.pointer (some ⟨D, 0, none⟩)) :: (.slice none 0 0) :: (.int .i64 f) :: (.int .i64 id) :: (.pointer (some ⟨X, 0, none⟩)) :: (.bool true) :: (.slice (some ⟨G, 0, none⟩) N cc) :: (.bool ok6) :: (.int .i64 (i : Int)) :: (.int .i64 (i : Int)) :: u12 :: u13 :: (.pointer (some ⟨g, 0, none⟩)) :: (.int .i64 xf) :: (.int .i64 f) :: (.pointer (some ⟨g, 0, none⟩)) :: (.int .i64 f) :: (.int .i64 (al8 f)) :: (.int .i64 id) :: (.tuple #[ndV id f (.slice none 0 0), .bool true]) :: (.int .i64 id) :: (.int .i64 f) :: (.tuple #[ndV id f (.slice none 0 0), .bool true]) :: (ndV id f (.slice none 0 0)) :: (.bool true) :: (.tuple #[.slice (some ⟨G, 0, none⟩) N cc, .bool ok6]) :: (.pointer (some ⟨g, 0, none⟩)) :: (.pointer (some ⟨g, 0, none⟩)) :: (.int .i64 (l4 : Int)) :: (.string sb) :: (.int .i64 f) :: (.int .i64 (f + 1)) :: (.int .i64 f) :: (.int .i64 (al8 f)) :: (.tuple #[.slice (some ⟨G, 0, none⟩) N cc, .bool ok6]) :: (.slice (some ⟨G, 0, none⟩) N cc) :: (.bool ok6) :: (.pointer (some ⟨g, 0, none⟩)) :: (.int .i64 (i : Int)) :: (.int .i64 (i : Int)) :: (.int .i64 (i : Int)) :: (.bool false) :: u44 :: u45 :: u46 :: u47 :: u48 :: u49 :: u50 :: u51 :: u52 :: u53 :: u54 :: u55 :: u56 :: (.pointer (some ⟨g, 0, none⟩)) :: (.int .i64 2) :: (.bool false) :: (.bool false) :: undef :: undef :: undef :: undef :: (.bool false) :: (.bool false) :: undef :: undef :: undef :: undef :: undef :: undef :: undef :: undef :: undef :: undef :: undef :: undef :: undef :: undef :: (.bool true) :: (.bool true) :: (cX (L 0) (.pointer (some ⟨X, 2, none⟩)) u83) :: (cX (L 1) (.slice a1 m1 c1) u84) :: (cX (L 2) (.int .i64 (m1 : Int)) u85) :: (cX (L 3) (.pointer (some ⟨g, 0, none⟩)) u86) :: x87 :: (cX (L 5) (.int .i64 (40 + bq)) u88) :: (cX (L 6) (.bool (decide ((m1 : Int) < 40 + bq))) u89) :: u90 :: u91 :: u92 :: u93 :: u94 :: u95 :: u96 :: u97 :: u98 :: u99 :: u100 :: undef :: undef :: undef :: undef :: undef :: undef :: undef :: undef :: undef :: undef :: undef :: undef :: undef :: undef :: undef :: undef :: undef :: undef :: undef :: [])), []⟩ ∧ (wr.grownBy W (some g) ∧ Cur W g a0 n cap) ∧ (L 4 = true → x87 = .int .i64 bq ∧ 0 ≤ bq ∧ bq < 2)) ?_ ?_ ?_
     ·exact ⟨0, u87, rfl, ⟨grownB g (below_drew _), curBelow HI.out.1.c (below_drew _)⟩, (fun h => by cases h)⟩
     ·intro q9 hq9 L a9 W hl hd hcl hI9
      obtain ⟨bq, x87, rfl, h0, h1⟩ := hI9
      match q9, hq9 with
      | 0, _ =>
       have e0 := hl
       refine wpOp_plain rfl (fun _ => rfl) fun K hK => ?_
       go_simp
       exact hK _ _ ⟨bq, x87, (by simp only [Nat.reduceBEq, Bool.false_or, Bool.true_or, cX_y]), (h0), (fun k0 => (h1 (show L 4 = true from k0)))⟩
      | 1, _ =>
       have d0 := hd.dep 0 (by kernel_rfl)
       have e1 := hl
       have o2 := KC.out W h0.1 h0.2
       refine wpOp_plain rfl (fun _ => rfl) fun K hK => ?_
       simp only [d0, cX_y]
       go_simp
       exact hK _ _ ⟨bq, x87, (by simp only [Nat.reduceBEq, Bool.false_or, Bool.true_or, cX_y, d0]), (h0), (fun k0 => (h1 (show L 4 = true from k0)))⟩
      | 2, _ =>
       have d1 := hd.dep 1 (by kernel_rfl)
       have e2 := hl
       refine wpOp_plain rfl (fun _ => rfl) fun K hK => ?_
       simp only [d1, cX_y]
       go_simp
       exact hK _ _ ⟨bq, x87, (by simp only [Nat.reduceBEq, Bool.false_or, Bool.true_or, cX_y, d1]), (h0), (fun k0 => (h1 (show L 4 = true from k0)))⟩
      | 3, _ =>
       have e3 := hl
       have e4 : L 4 = false := by cases h9 : L 4 with | false => rfl | true => rw [((hcl 4 h9).dep 3 (by kernel_rfl))] at hl; cases hl
       refine wpOp_plain rfl (fun _ => rfl) fun K hK => ?_
       go_simp
       exact hK _ _ ⟨bq, x87, (by simp only [Nat.reduceBEq, Bool.false_or, Bool.true_or, cX_y]), (h0), (fun k0 => absurd (show L 4 = true from k0) (by rw [e4]; simp))⟩
      | 4, _ =>
       have d3 := hd.dep 3 (by kernel_rfl)
       have e4 := hl
       have e5 : L 5 = false := by cases h9 : L 5 with | false => rfl | true => rw [((hcl 5 h9).dep 4 (by kernel_rfl))] at hl; cases hl
       have e6 : L 6 = false := by cases h9 : L 6 with | false => rfl | true => rw [((hcl 5 ((hcl 6 h9).dep 5 (by kernel_rfl))).dep 4 (by kernel_rfl))] at hl; cases hl
       refine wpOp_plain rfl (fun _ => rfl) fun K hK => ?_
       simp only [d3, cX_y]
       go_simp
       refine Calls.mono (KB.out 2 W h0.2) ?_
       rintro e w9 ⟨b9, j0, j1, _, rfl, kg, kc⟩
       exact hK _ _ ⟨b9, _, (by simp only [Nat.reduceBEq, Bool.false_or, cX_y, cX_n, d3, e5, e6]), (⟨grownBy_trans h0.1 kg, kc⟩), (fun k0 => ⟨rfl, j0, j1 (by omega)⟩)⟩
      | 5, _ =>
       have d4 := hd.dep 4 (by kernel_rfl)
       have e5 := hl
       obtain ⟨rfl, hb0, hb1⟩ := h1 d4
       have ew : IntKind.i64.wrap (40 + bq) = 40 + bq := by rw [IntKind.wrap_i64]; omega
       refine wpOp_plain rfl (fun _ => rfl) fun K hK => ?_
       go_simp
       exact hK _ _ ⟨bq, _, (by simp only [Nat.reduceBEq, Bool.false_or, Bool.true_or, cX_y]), (h0), (fun k0 => (h1 (show L 4 = true from k0)))⟩
      | 6, _ =>
       have d2 := hd.dep 2 (by kernel_rfl)
       have d5 := hd.dep 5 (by kernel_rfl)
       have d4 := (hcl 5 d5).dep 4 (by kernel_rfl)
       have e6 := hl
       obtain ⟨rfl, hb0, hb1⟩ := h1 d4
       refine wpOp_plain rfl (fun _ => rfl) fun K hK => ?_
       simp only [d2, d5, cX_y]
       go_simp
       exact hK _ _ ⟨bq, _, (by simp only [Nat.reduceBEq, Bool.false_or, Bool.true_or, cX_y, d2, d5]), (h0), (fun k0 => (h1 (show L 4 = true from k0)))⟩
      | n9 + 7, h => exact absurd h (by simp)
     ·intro L a9 W hall hI9
      obtain ⟨bq, x87, rfl, h0, h1⟩ := hI9
      have e0 := hall 0 (by decide)
      have e1 := hall 1 (by decide)
      have e2 := hall 2 (by decide)
      have e3 := hall 3 (by decide)
      have e4 := hall 4 (by decide)
      have e5 := hall 5 (by decide)
      have e6 := hall 6 (by decide)
      simp only [e0, e1, e2, e3, e5, e6, cX_y]
      exact (HRc18.out _ _).2 ⟨bq, x87, rfl, h0, h1 e4⟩
   have b2 : (q == 2) = false := by simpa using e2
   by_cases e3 : q = 3
   ·subst e3
    have x2 := K9.out.1.x.cell 2
    simp at x2
    by_cases hm0 : m = 0
    ·subst hm0
     have RXe : Hid (Row w8 X 37 #[.int .i64 id, .int .i64 f, .slice va 0 vc]) := K9.out.1.x
     have RDe : Hid _ := KRD.out _ K9.out.1.b
     obtain ⟨FR, FP⟩ := FIN.out _ f 0 va vc S F K9.out.1.b K9.out.1.c K9.out.1.o K9.out.1.d KSL.out (by omega) K9.out.2 _ rfl
     go_wp2_with (first | (refine wpList_load_row (by rfl) 37 _ (by rfl) X (by rfl) 37 #[.int .i64 id, .int .i64 f, .slice va 0 vc] (0, 0) _ ?_ Tryz.underlying37 (by rfl) Tryz.infoNd ?_; exact RXe.out) | (refine wpList_store_row (by rfl) 37 _ _ (by rfl) D #[.int .i64 id, .int .i64 f, .slice va 0 vc] (by rfl) (by rfl) 37 #[.int .i64 0, .int .i64 0, .slice none 0 0] ?_ Tryz.infoNd rfl (by simp [Value.oneCell']) ?_; exact RDe.out))
     exact bodyPost_ret (v := .tuple #[ndV id f (.slice va 0 vc), .slice (some ⟨G, 0, none⟩) N cc]) (by
      have p0 := FR.cell 0
      have p1 := FR.cell 1
      have p2 := FR.cell 2
      simp at p0 p1 p2
      simp [results, Tryz.results27, go_sem, p0, p1, p2]) rfl FP
    have hm1 : 0 < m := by omega
    have hmi : (0 : Int) < (m : Int) := by omega
    obtain ⟨G1, rfl⟩ := ow_some K9.out.1.o hm1
    have KX : Hid (NdX w0 w6 w8 g X E LB a0 n cap id f m (some ⟨G1, 0, none⟩) vc S F) := ⟨K9.out.1.b, K9.out.1.c, K9.out.1.x, K9.out.1.o, K9.out.1.d, K9.out.2⟩
    have KXW : Hid (∀ W, Below w8.heap.size w8 W → NdX w0 w6 W g X E LB a0 n cap id f m (some ⟨G1, 0, none⟩) vc S F) := fun W hW => KX.out.kept (grownB g hW) (curBelow KX.out.c hW) lgX lXE lgL
    obtain ⟨e1, ce, cz, fz, hoz, hez, hEG, hlG, _⟩ := nd_echo KX.out hab lgX lXE lwX HE.out hm1
    obtain ⟨zs, HZs⟩ : ∃ x, Hid ((S 0).ze = x) := ⟨_, rfl⟩
    obtain ⟨lz, HLz⟩ : ∃ x, Hid (zs.length = x) := ⟨_, rfl⟩
    rw [HZs.out, HLz.out] at cz hoz
    have lz9 : lz ≤ 9 := by rw [← HLz.out, ← HZs.out]; exact Nat.le_trans (K9.out.1.s 0 hm1).ze iB
    have KEc : Hid (∀ W, Below w8.heap.size w8 W → ∀ W1 g2 c2, W.grownBy W1 (Value.slice e1 lz ce).ownBlock → W1.ownsRow (g + 1) 3 1 (.slice (some ⟨g2, 0, none⟩) (lz + 1) c2) (lz + 1) ((zs ++ [0]).map (Value.int .i64)) → ((Value.slice e1 lz ce).ownBlock = some g2 ∨ g2 = W.heap.size) → ∃ F1, NdX w0 w6 (W1.setCell ⟨G1, 11, none⟩ (.slice (some ⟨g2, 0, none⟩) (lz + 1) c2)) g X E LB a0 n cap id f m (some ⟨G1, 0, none⟩) vc (fun i => if i = 0 then { S 0 with ze := zs ++ [0] } else S i) F1) := fun W hW => by
     obtain ⟨e1x, cex, czx, _, _, _, _, _, hput⟩ := nd_echo (KXW.out W hW) hab lgX lXE lwX HE.out hm1
     rw [HZs.out, HLz.out] at czx hput
     have e9 : some (Value.slice e1x lz cex) = some (Value.slice e1 lz ce) := czx.symm.trans ((hW.cell (p := ⟨G1, 11, none⟩) hlG).trans cz)
     simp only [Option.some.injEq, Value.slice.injEq, true_and] at e9
     rw [e9.1, e9.2] at hput
     exact hput
    have KC : Hid (∀ W, Below w8.heap.size w8 W → (W.cell? ⟨X, 2, none⟩ = some (.slice (some ⟨G1, 0, none⟩) m vc) ∧ W.cell? ⟨G1, 11, none⟩ = some (.slice e1 lz ce) ∧ W.frozen? ⟨G1, 11, none⟩ = false) ∧ W.ownsRow (g + 1) 3 1 (.slice e1 lz ce) lz (zs.map (Value.int .i64))) := fun W hW => by
     have h1 := (KXW.out W hW).x.cell 2
     simp at h1
     exact ⟨⟨h1, (hW.cell (p := ⟨G1, 11, none⟩) hlG).trans cz, (hW.frozen (p := ⟨G1, 11, none⟩) hlG).trans fz⟩, own_fr hoz (fun b _ hb => hW.block b hb)⟩
    have lX8 : X < w8.heap.size := KX.out.x.lt
    have lg8 : g + 1 ≤ w8.heap.size := by omega
    have HEz : Hid (∀ x, e1 = some x → E ≤ x.block ∧ x.block ≠ G1) := hez
    have HEG : Hid (E ≤ G1 ∧ G1 < w8.heap.size) := ⟨hEG, hlG⟩
    obtain ⟨i0, hi0, hz0, hz1, hz2⟩ : ∃ i0, Tryz.prog.info? 3 = some i0 ∧ i0.zero = some (.int .i64 0) ∧ i0.size = 1 ∧ i0.bytes = 8 := ⟨_, rfl, rfl, rfl, rfl⟩
    clear cz fz hoz hez hEG hlG
    go_wp2_with fail
    obtain ⟨Rc3, HRc3⟩ : ∃ R : Act → World → Prop, Hid (∀ A9 W, R A9 W ↔ ∃ (x114 : Value) (x115 : Value), A9 = ⟨(List.toArray (α := Value) ((.pointer (some ⟨g, 0, none⟩)) :: undef :: (.pointer (some ⟨D, 0, none⟩)) :: (.slice none 0 0) :: (.int .i64 f) :: (.int .i64 id) :: (.pointer (some ⟨X, 0, none⟩)) :: (.bool true) :: (.slice (some ⟨G, 0, none⟩) N cc) :: (.bool ok6) :: (.int .i64 (i : Int)) :: (.int .i64 (i : Int)) :: u12 :: u13 :: (.pointer (some ⟨g, 0, none⟩)) :: (.int .i64 xf) :: (.int .i64 f) :: (.pointer (some ⟨g, 0, none⟩)) :: (.int .i64 f) :: (.int .i64 (al8 f)) :: (.int .i64 id) :: (.tuple #[ndV id f (.slice none 0 0), .bool true]) :: (.int .i64 id) :: (.int .i64 f) :: (.tuple #[ndV id f (.slice none 0 0), .bool true]) :: (ndV id f (.slice none 0 0)) :: (.bool true) :: (.tuple #[.slice (some ⟨G, 0, none⟩) N cc, .bool ok6]) :: (.pointer (some ⟨g, 0, none⟩)) :: (.pointer (some ⟨g, 0, none⟩)) :: (.int .i64 (l4 : Int)) :: (.string sb) :: (.int .i64 f) :: (.int .i64 (f + 1)) :: (.int .i64 f) :: (.int .i64 (al8 f)) :: (.tuple #[.slice (some ⟨G, 0, none⟩) N cc, .bool ok6]) :: (.slice (some ⟨G, 0, none⟩) N cc) :: (.bool ok6) :: (.pointer (some ⟨g, 0, none⟩)) :: (.int .i64 (i : Int)) :: (.int .i64 (i : Int)) :: (.int .i64 (i : Int)) :: (.bool false) :: u44 :: u45 :: u46 :: u47 :: u48 :: u49 :: u50 :: u51 :: u52 :: u53 :: u54 :: u55 :: u56 :: (.pointer (some ⟨g, 0, none⟩)) :: (.int .i64 3) :: (.bool false) :: (.bool false) :: undef :: undef :: undef :: undef :: (.bool false) :: (.bool false) :: undef :: undef :: undef :: undef :: undef :: undef :: undef :: undef :: undef :: undef :: undef :: undef :: undef :: undef :: (.bool false) :: (.bool false) :: undef :: undef :: undef :: undef :: undef :: undef :: undef :: undef :: undef :: undef :: undef :: undef :: undef :: undef :: undef :: undef :: undef :: undef :: (.bool true) :: (.bool true) :: (.pointer (some ⟨X, 2, none⟩)) :: (.slice (some ⟨G1, 0, none⟩) m vc) :: (.int .i64 (m : Int)) :: (.bool true) :: (.pointer (some ⟨X, 2, none⟩)) :: (.slice (some ⟨G1, 0, none⟩) m vc) :: (.pointer (some ⟨X, 2, none⟩)) :: (.slice (some ⟨G1, 0, none⟩) m vc) :: (.pointer (some ⟨G1, 0, none⟩)) :: (.pointer (some ⟨G1, 11, none⟩)) :: (.slice e1 lz ce) :: x114 :: x115 :: (.pointer (some ⟨G1, 0, none⟩)) :: (.pointer (some ⟨G1, 11, none⟩)) :: undef :: undef :: [])), []⟩ ∧ (∃ W1, W = W1.setCell ⟨G1, 11, none⟩ x115 ∧ ∃ g2 c2 W0, x115 = .slice (some ⟨g2, 0, none⟩) (lz + 1) c2 ∧ Below w8.heap.size w8 W0 ∧ W0.grownBy W1 (Value.slice e1 lz ce).ownBlock ∧ World.ownsRow W1 (g + 1) 3 1 (.slice (some ⟨g2, 0, none⟩) (lz + 1) c2) (lz + 1) ((zs ++ [0]).map (Value.int .i64)) ∧ ((Value.slice e1 lz ce).ownBlock = some g2 ∨ g2 = W0.heap.size))) := ⟨fun A9 W => _, fun _ _ => Iff.rfl⟩
    refine wp_region_post Rc3 ?_ ?_
    rotate_left
    ·intro a9 wx hR9
     obtain ⟨x114, x115, rfl, hf4⟩ := (HRc3.out a9 wx).1 hR9
     clear hR9 HRc3
     obtain ⟨W1, ewx, g2, c2, W0, rfl, hB0, k3, k2, k4⟩ := hf4
     obtain ⟨F1, KZ⟩ := KEc.out W0 hB0 W1 g2 c2 k3 k2 k4
     rw [← ewx] at KZ
     obtain ⟨S1, HS1⟩ : ∃ x, Hid (x = fun i => if i = 0 then { S 0 with ze := zs ++ [0] } else S i) := ⟨_, rfl⟩
     rw [← HS1.out] at KZ
     have KZh : Hid (NdX w0 w6 wx g X E LB a0 n cap id f m (some ⟨G1, 0, none⟩) vc S1 F1) := KZ
     have KSL1 : Hid (∀ j, j < m → (S1 j).h = (S1 j).e ∧ SlK (S1 j)) := fun j hj => by
      rw [HS1.out]
      by_cases e : j = 0
      ·subst e
       exact ⟨(KSL.out 0 hj).1, slK_ze (KSL.out 0 hj).2 _ (by have := HLz.out; simp; omega)⟩
      ·simp only [e, if_false]
       exact KSL.out j hj
     have RXe : Hid (Row wx X 37 #[.int .i64 id, .int .i64 f, .slice (some ⟨G1, 0, none⟩) m vc]) := KZh.out.x
     have RDe : Hid _ := KRD.out _ KZh.out.b
     clear KZ ewx hB0 k3 k2 k4 KC KXW HS1 KEc
     obtain ⟨FR, FP⟩ := FIN.out _ f m _ vc S1 F1 KZh.out.b KZh.out.c KZh.out.o KZh.out.d KSL1.out (by omega) KZh.out.fr _ rfl
     go_wp2_with (first | (refine wpList_load_row (by rfl) 37 _ (by rfl) X (by rfl) 37 #[.int .i64 id, .int .i64 f, .slice (some ⟨G1, 0, none⟩) m vc] (0, 0) _ ?_ Tryz.underlying37 (by rfl) Tryz.infoNd ?_; exact RXe.out) | (refine wpList_store_row (by rfl) 37 _ _ (by rfl) D #[.int .i64 id, .int .i64 f, .slice (some ⟨G1, 0, none⟩) m vc] (by rfl) (by rfl) 37 #[.int .i64 0, .int .i64 0, .slice none 0 0] ?_ Tryz.infoNd rfl (by simp [Value.oneCell']) ?_; exact RDe.out))
     exact bodyPost_ret (v := .tuple #[ndV id f (.slice (some ⟨G1, 0, none⟩) m vc), .slice (some ⟨G, 0, none⟩) N cc]) (by
      have p0 := FR.cell 0
      have p1 := FR.cell 1
      have p2 := FR.cell 2
      simp at p0 p1 p2
      simp [results, Tryz.results27, go_sem, p0, p1, p2]) rfl FP
    refine wp_region_cl Tryz.mixed (by kernel_rfl) (fun L A9 W => ∃ (x114 : Value) (x115 : Value), A9 = ⟨(List.toArray (α := Value) ((.pointer (some ⟨g, 0, none⟩)) :: undef :: (.pointer (some ⟨D, 0, none⟩)) :: (.slice none 0 0) :: (.int .i64 f) :: (.int .i64 id) :: (.pointer (some ⟨X, 0, none⟩)) :: (.bool true) :: (.slice (some ⟨G, 0, none⟩) N cc) :: (.bool ok6) :: (.int .i64 (i : Int)) :: (.int .i64 (i : Int)) :: u12 :: u13 :: (.pointer (some ⟨g, 0, none⟩)) :: (.int .i64 xf) :: (.int .i64 f) :: (.pointer (some ⟨g, 0, none⟩)) :: (.int .i64 f) :: (.int .i64 (al8 f)) :: (.int .i64 id) :: (.tuple #[ndV id f (.slice none 0 0), .bool true]) :: (.int .i64 id) :: (.int .i64 f) :: (.tuple #[ndV id f (.slice none 0 0), .bool true]) :: (ndV id f (.slice none 0 0)) :: (.bool true) :: (.tuple #[.slice (some ⟨G, 0, none⟩) N cc, .bool ok6]) :: (.pointer (some ⟨g, 0, none⟩)) :: (.pointer (some ⟨g, 0, none⟩)) :: (.int .i64 (l4 : Int)) :: (.string sb) :: (.int .i64 f) :: (.int .i64 (f + 1)) :: (.int .i64 f) :: (.int .i64 (al8 f)) :: (.tuple #[.slice (some ⟨G, 0, none⟩) N cc, .bool ok6]) :: (.slice (some ⟨G, 0, none⟩) N cc) :: (.bool ok6) :: (.pointer (some ⟨g, 0, none⟩)) :: (.int .i64 (i : Int)) :: (.int .i64 (i : Int)) :: (.int .i64 (i : Int)) :: (.bool false) :: u44 :: u45 :: u46 :: u47 :: u48 :: u49 :: u50 :: u51 :: u52 :: u53 :: u54 :: u55 :: u56 :: (.pointer (some ⟨g, 0, none⟩)) :: (.int .i64 3) :: (.bool false) :: (.bool false) :: undef :: undef :: undef :: undef :: (.bool false) :: (.bool false) :: undef :: undef :: undef :: undef :: undef :: undef :: undef :: undef :: undef :: undef :: undef :: undef :: undef :: undef :: (.bool false) :: (.bool false) :: undef :: undef :: undef :: undef :: undef :: undef :: undef :: undef :: undef :: undef :: undef :: undef :: undef :: undef :: undef :: undef :: undef :: undef :: (.bool true) :: (.bool true) :: (.pointer (some ⟨X, 2, none⟩)) :: (.slice (some ⟨G1, 0, none⟩) m vc) :: (.int .i64 (m : Int)) :: (.bool true) :: (cX (L 0) (.pointer (some ⟨X, 2, none⟩)) undef) :: (cX (L 1) (.slice (some ⟨G1, 0, none⟩) m vc) undef) :: (cX (L 2) (.pointer (some ⟨X, 2, none⟩)) undef) :: (cX (L 3) (.slice (some ⟨G1, 0, none⟩) m vc) undef) :: (cX (L 4) (.pointer (some ⟨G1, 0, none⟩)) undef) :: (cX (L 5) (.pointer (some ⟨G1, 11, none⟩)) undef) :: (cX (L 6) (.slice e1 lz ce) undef) :: x114 :: x115 :: (cX (L 9) (.pointer (some ⟨G1, 0, none⟩)) undef) :: (cX (L 10) (.pointer (some ⟨G1, 11, none⟩)) undef) :: undef :: undef :: [])), []⟩ ∧ (L 7 = false → Below w8.heap.size w8 W) ∧ (L 11 = false → W.cell? ⟨X, 2, none⟩ = some (.slice (some ⟨G1, 0, none⟩) m vc) ∧ W.cell? ⟨G1, 11, none⟩ = some (.slice e1 lz ce) ∧ W.frozen? ⟨G1, 11, none⟩ = false) ∧ (L 7 = true → L 8 = false → ∃ Y, x114 = .slice (some ⟨Y, 0, none⟩) 1 1 ∧ Row W Y 3 #[.int .i64 0] ∧ Below w8.heap.size w8 W) ∧ (L 8 = true → L 11 = false → ∃ g2 c2 W0, x115 = .slice (some ⟨g2, 0, none⟩) (lz + 1) c2 ∧ Below w8.heap.size w8 W0 ∧ W0.grownBy W (Value.slice e1 lz ce).ownBlock ∧ World.ownsRow W (g + 1) 3 1 (.slice (some ⟨g2, 0, none⟩) (lz + 1) c2) (lz + 1) ((zs ++ [0]).map (Value.int .i64)) ∧ ((Value.slice e1 lz ce).ownBlock = some g2 ∨ g2 = W0.heap.size)) ∧ (L 11 = true → ∃ W1, W = W1.setCell ⟨G1, 11, none⟩ x115 ∧ ∃ g2 c2 W0, x115 = .slice (some ⟨g2, 0, none⟩) (lz + 1) c2 ∧ Below w8.heap.size w8 W0 ∧ W0.grownBy W1 (Value.slice e1 lz ce).ownBlock ∧ World.ownsRow W1 (g + 1) 3 1 (.slice (some ⟨g2, 0, none⟩) (lz + 1) c2) (lz + 1) ((zs ++ [0]).map (Value.int .i64)) ∧ ((Value.slice e1 lz ce).ownBlock = some g2 ∨ g2 = W0.heap.size))) ?_ ?_ ?_
    ·exact ⟨undef, undef, rfl, (fun _ => below_drew _), (fun _ => (KC.out _ (below_drew _)).1), (fun h => by cases h), (fun h => by cases h), (fun h => by cases h)⟩
    ·intro q9 hq9 L a9 W hl hd hcl hI9
     obtain ⟨x114, x115, rfl, h0, h1, h2, h3, h4⟩ := hI9
     match q9, hq9 with
     | 0, _ =>
      have e0 := hl
      have e11 : L 11 = false := by cases h9 : L 11 with | false => rfl | true => rw [((hcl 1 ((hcl 9 ((hcl 10 ((hcl 11 h9).dep 10 (by kernel_rfl))).dep 9 (by kernel_rfl))).dep 1 (by kernel_rfl))).dep 0 (by kernel_rfl))] at hl; cases hl
      refine wpOp_plain rfl (fun _ => rfl) fun K hK => ?_
      go_simp
      exact hK _ _ ⟨x114, x115, (by simp only [Nat.reduceBEq, Bool.false_or, Bool.true_or, cX_y]), (fun k0 => (h0 (show L 7 = false from k0))), (fun k0 => (h1 (show L 11 = false from k0))), (fun k0 k1 => (h2 (show L 7 = true from k0) (show L 8 = false from k1))), (fun k0 k1 => (h3 (show L 8 = true from k0) (show L 11 = false from k1))), (fun k0 => absurd (show L 11 = true from k0) (by rw [e11]; simp))⟩
     | 1, _ =>
      have d0 := hd.dep 0 (by kernel_rfl)
      have e1 := hl
      have e11 : L 11 = false := by cases h9 : L 11 with | false => rfl | true => rw [((hcl 9 ((hcl 10 ((hcl 11 h9).dep 10 (by kernel_rfl))).dep 9 (by kernel_rfl))).dep 1 (by kernel_rfl))] at hl; cases hl
      obtain ⟨o2, o11, oz⟩ := h1 e11
      refine wpOp_plain rfl (fun _ => rfl) fun K hK => ?_
      simp only [d0, cX_y]
      go_simp
      exact hK _ _ ⟨x114, x115, (by simp only [Nat.reduceBEq, Bool.false_or, Bool.true_or, cX_y, d0]), (fun k0 => (h0 (show L 7 = false from k0))), (fun k0 => (h1 (show L 11 = false from k0))), (fun k0 k1 => (h2 (show L 7 = true from k0) (show L 8 = false from k1))), (fun k0 k1 => (h3 (show L 8 = true from k0) (show L 11 = false from k1))), (fun k0 => absurd (show L 11 = true from k0) (by rw [e11]; simp))⟩
     | 2, _ =>
      have e2 := hl
      have e8 : L 8 = false := by cases h9 : L 8 with | false => rfl | true => rw [((hcl 3 ((hcl 4 ((hcl 5 ((hcl 6 ((hcl 8 h9).dep 6 (by kernel_rfl))).dep 5 (by kernel_rfl))).dep 4 (by kernel_rfl))).dep 3 (by kernel_rfl))).dep 2 (by kernel_rfl))] at hl; cases hl
      have e11 : L 11 = false := by cases h9 : L 11 with | false => rfl | true => rw [((hcl 3 ((hcl 4 ((hcl 5 ((hcl 6 ((hcl 8 ((hcl 11 h9).dep 8 (by kernel_rfl))).dep 6 (by kernel_rfl))).dep 5 (by kernel_rfl))).dep 4 (by kernel_rfl))).dep 3 (by kernel_rfl))).dep 2 (by kernel_rfl))] at hl; cases hl
      refine wpOp_plain rfl (fun _ => rfl) fun K hK => ?_
      go_simp
      exact hK _ _ ⟨x114, x115, (by simp only [Nat.reduceBEq, Bool.false_or, Bool.true_or, cX_y]), (fun k0 => (h0 (show L 7 = false from k0))), (fun k0 => (h1 (show L 11 = false from k0))), (fun k0 k1 => (h2 (show L 7 = true from k0) (show L 8 = false from k1))), (fun k0 k1 => absurd (show L 8 = true from k0) (by rw [e8]; simp)), (fun k0 => absurd (show L 11 = true from k0) (by rw [e11]; simp))⟩
     | 3, _ =>
      have d2 := hd.dep 2 (by kernel_rfl)
      have e3 := hl
      have e8 : L 8 = false := by cases h9 : L 8 with | false => rfl | true => rw [((hcl 4 ((hcl 5 ((hcl 6 ((hcl 8 h9).dep 6 (by kernel_rfl))).dep 5 (by kernel_rfl))).dep 4 (by kernel_rfl))).dep 3 (by kernel_rfl))] at hl; cases hl
      have e11 : L 11 = false := by cases h9 : L 11 with | false => rfl | true => rw [((hcl 4 ((hcl 5 ((hcl 6 ((hcl 8 ((hcl 11 h9).dep 8 (by kernel_rfl))).dep 6 (by kernel_rfl))).dep 5 (by kernel_rfl))).dep 4 (by kernel_rfl))).dep 3 (by kernel_rfl))] at hl; cases hl
      obtain ⟨o2, o11, oz⟩ := h1 e11
      refine wpOp_plain rfl (fun _ => rfl) fun K hK => ?_
      simp only [d2, cX_y]
      go_simp
      exact hK _ _ ⟨x114, x115, (by simp only [Nat.reduceBEq, Bool.false_or, Bool.true_or, cX_y, d2]), (fun k0 => (h0 (show L 7 = false from k0))), (fun k0 => (h1 (show L 11 = false from k0))), (fun k0 k1 => (h2 (show L 7 = true from k0) (show L 8 = false from k1))), (fun k0 k1 => absurd (show L 8 = true from k0) (by rw [e8]; simp)), (fun k0 => absurd (show L 11 = true from k0) (by rw [e11]; simp))⟩
     | 4, _ =>
      have d3 := hd.dep 3 (by kernel_rfl)
      have e4 := hl
      have e8 : L 8 = false := by cases h9 : L 8 with | false => rfl | true => rw [((hcl 5 ((hcl 6 ((hcl 8 h9).dep 6 (by kernel_rfl))).dep 5 (by kernel_rfl))).dep 4 (by kernel_rfl))] at hl; cases hl
      have e11 : L 11 = false := by cases h9 : L 11 with | false => rfl | true => rw [((hcl 5 ((hcl 6 ((hcl 8 ((hcl 11 h9).dep 8 (by kernel_rfl))).dep 6 (by kernel_rfl))).dep 5 (by kernel_rfl))).dep 4 (by kernel_rfl))] at hl; cases hl
      refine wpOp_plain rfl (fun _ => rfl) fun K hK => ?_
      simp only [d3, cX_y]
      go_simp
      exact hK _ _ ⟨x114, x115, (by simp only [Nat.reduceBEq, Bool.false_or, Bool.true_or, cX_y, d3]), (fun k0 => (h0 (show L 7 = false from k0))), (fun k0 => (h1 (show L 11 = false from k0))), (fun k0 k1 => (h2 (show L 7 = true from k0) (show L 8 = false from k1))), (fun k0 k1 => absurd (show L 8 = true from k0) (by rw [e8]; simp)), (fun k0 => absurd (show L 11 = true from k0) (by rw [e11]; simp))⟩
     | 5, _ =>
      have d4 := hd.dep 4 (by kernel_rfl)
      have e5 := hl
      have e8 : L 8 = false := by cases h9 : L 8 with | false => rfl | true => rw [((hcl 6 ((hcl 8 h9).dep 6 (by kernel_rfl))).dep 5 (by kernel_rfl))] at hl; cases hl
      have e11 : L 11 = false := by cases h9 : L 11 with | false => rfl | true => rw [((hcl 6 ((hcl 8 ((hcl 11 h9).dep 8 (by kernel_rfl))).dep 6 (by kernel_rfl))).dep 5 (by kernel_rfl))] at hl; cases hl
      refine wpOp_plain rfl (fun _ => rfl) fun K hK => ?_
      simp only [d4, cX_y]
      go_simp
      exact hK _ _ ⟨x114, x115, (by simp only [Nat.reduceBEq, Bool.false_or, Bool.true_or, cX_y, d4]), (fun k0 => (h0 (show L 7 = false from k0))), (fun k0 => (h1 (show L 11 = false from k0))), (fun k0 k1 => (h2 (show L 7 = true from k0) (show L 8 = false from k1))), (fun k0 k1 => absurd (show L 8 = true from k0) (by rw [e8]; simp)), (fun k0 => absurd (show L 11 = true from k0) (by rw [e11]; simp))⟩
     | 6, _ =>
      have d5 := hd.dep 5 (by kernel_rfl)
      have e6 := hl
      have e8 : L 8 = false := by cases h9 : L 8 with | false => rfl | true => rw [((hcl 8 h9).dep 6 (by kernel_rfl))] at hl; cases hl
      have e11 : L 11 = false := by cases h9 : L 11 with | false => rfl | true => rw [((hcl 8 ((hcl 11 h9).dep 8 (by kernel_rfl))).dep 6 (by kernel_rfl))] at hl; cases hl
      obtain ⟨o2, o11, oz⟩ := h1 e11
      refine wpOp_plain rfl (fun _ => rfl) fun K hK => ?_
      simp only [d5, cX_y]
      go_simp
      exact hK _ _ ⟨x114, x115, (by simp only [Nat.reduceBEq, Bool.false_or, Bool.true_or, cX_y, d5]), (fun k0 => (h0 (show L 7 = false from k0))), (fun k0 => (h1 (show L 11 = false from k0))), (fun k0 k1 => (h2 (show L 7 = true from k0) (show L 8 = false from k1))), (fun k0 k1 => absurd (show L 8 = true from k0) (by rw [e8]; simp)), (fun k0 => absurd (show L 11 = true from k0) (by rw [e11]; simp))⟩
     | 7, _ =>
      have e7 := hl
      have e8 : L 8 = false := by cases h9 : L 8 with | false => rfl | true => rw [((hcl 8 h9).dep 7 (by kernel_rfl))] at hl; cases hl
      have e11 : L 11 = false := by cases h9 : L 11 with | false => rfl | true => rw [((hcl 8 ((hcl 11 h9).dep 8 (by kernel_rfl))).dep 7 (by kernel_rfl))] at hl; cases hl
      have hB7 := h0 e7
      have hB8 : Below w8.heap.size w8 (W.alloc (.cells #[.int .i64 0] 3)) := below2 hB7 ((Below.refl _ _).alloc (Nat.le_refl _) _)
      refine wpOp_plain rfl (fun _ => rfl) fun K hK => ?_
      go_simp
      exact hK _ _ ⟨_, x115, (by simp only [Nat.reduceBEq, Bool.false_or]), (fun k0 => by cases k0), (fun k0 => (KC.out _ hB8).1), (fun k0 k1 => ⟨W.heap.size, rfl, Row.new W _ _, hB8⟩), (fun k0 k1 => absurd (show L 8 = true from k0) (by rw [e8]; simp)), (fun k0 => absurd (show L 11 = true from k0) (by rw [e11]; simp))⟩
     | 8, _ =>
      have d6 := hd.dep 6 (by kernel_rfl)
      have d7 := hd.dep 7 (by kernel_rfl)
      have e8 := hl
      have e11 : L 11 = false := by cases h9 : L 11 with | false => rfl | true => rw [((hcl 11 h9).dep 8 (by kernel_rfl))] at hl; cases hl
      obtain ⟨Y, rfl, RY, hB⟩ := h2 d7 e8
      refine wpOp_plain rfl (fun _ => rfl) fun K hK => ?_
      simp only [d6, cX_y]
      refine wp_append_lies W _ _ 45 rfl (g + 1) 3 i0 (.int .i64 0) 1 8 Tryz.underlying45 hi0 hz0 hz1 hz2 rfl (by decide) (.slice e1 lz ce) lz (zs.map (Value.int .i64)) rfl (KC.out W hB).2 ⟨Y, 0, none⟩ 1 1 [.int .i64 0] rfl rfl (World.news_of_block (t := 3) (fr := (0, 0)) RY) (by simp [Value.oneCell']) (by omega) (by unfold maxLen; omega) (by omega) (Nat.le_trans lg8 hB.size) W.heap.size rfl fun g2 c2 w9 k2 k3 k4 k5 => ?_
      have ne : ∀ b, b < E ∨ b = G1 → some b ≠ (Value.slice e1 lz ce).ownBlock := fun b hb e => by
       cases e1 with
       | none => cases e
       | some x =>
        injection e with e
        have h9 := HEz.out x rfl
        omega
      obtain ⟨o2, o11, oz⟩ := h1 e11
      have hs8 := hB.size
      have hG8 := HEG.out.2
      have p2 : w9.cell? ⟨X, 2, none⟩ = some (.slice (some ⟨G1, 0, none⟩) m vc) := (World.cell?_of_block (k3.block X (by omega) (ne X (.inl lXE)))).trans o2
      have p11 : w9.cell? ⟨G1, 11, none⟩ = some (.slice e1 lz ce) := (World.cell?_of_block (k3.block G1 (by omega) (ne G1 (.inr rfl)))).trans o11
      have pz : w9.frozen? ⟨G1, 11, none⟩ = false := (World.frozen?_of_block (k3.block G1 (by omega) (ne G1 (.inr rfl)))).trans oz
      exact hK _ _ ⟨.slice (some ⟨Y, 0, none⟩) 1 1, .slice (some ⟨g2, 0, none⟩) (lz + 1) c2, (by simp [Act.put, cX_y, d6]), (fun k0 => absurd (show L 7 = false from k0) (by rw [d7]; simp)), (fun k0 => ⟨p2, p11, pz⟩), (fun k0 k1 => by cases k1), (fun k0 k1 => ⟨g2, c2, W, rfl, hB, k3, by simpa using k2, k4⟩), (fun k0 => absurd (show L 11 = true from k0) (by rw [e11]; simp))⟩
     | 9, _ =>
      have d1 := hd.dep 1 (by kernel_rfl)
      have e9 := hl
      have e11 : L 11 = false := by cases h9 : L 11 with | false => rfl | true => rw [((hcl 10 ((hcl 11 h9).dep 10 (by kernel_rfl))).dep 9 (by kernel_rfl))] at hl; cases hl
      refine wpOp_plain rfl (fun _ => rfl) fun K hK => ?_
      simp only [d1, cX_y]
      go_simp
      exact hK _ _ ⟨x114, x115, (by simp only [Nat.reduceBEq, Bool.false_or, Bool.true_or, cX_y, d1]), (fun k0 => (h0 (show L 7 = false from k0))), (fun k0 => (h1 (show L 11 = false from k0))), (fun k0 k1 => (h2 (show L 7 = true from k0) (show L 8 = false from k1))), (fun k0 k1 => (h3 (show L 8 = true from k0) (show L 11 = false from k1))), (fun k0 => absurd (show L 11 = true from k0) (by rw [e11]; simp))⟩
     | 10, _ =>
      have d9 := hd.dep 9 (by kernel_rfl)
      have e10 := hl
      have e11 : L 11 = false := by cases h9 : L 11 with | false => rfl | true => rw [((hcl 11 h9).dep 10 (by kernel_rfl))] at hl; cases hl
      refine wpOp_plain rfl (fun _ => rfl) fun K hK => ?_
      simp only [d9, cX_y]
      go_simp
      exact hK _ _ ⟨x114, x115, (by simp only [Nat.reduceBEq, Bool.false_or, Bool.true_or, cX_y, d9]), (fun k0 => (h0 (show L 7 = false from k0))), (fun k0 => (h1 (show L 11 = false from k0))), (fun k0 k1 => (h2 (show L 7 = true from k0) (show L 8 = false from k1))), (fun k0 k1 => (h3 (show L 8 = true from k0) (show L 11 = false from k1))), (fun k0 => absurd (show L 11 = true from k0) (by rw [e11]; simp))⟩
     | 11, _ =>
      have d10 := hd.dep 10 (by kernel_rfl)
      have d8 := hd.dep 8 (by kernel_rfl)
      have d7 := (hcl 8 d8).dep 7 (by kernel_rfl)
      have e11 := hl
      obtain ⟨o2, o11, oz⟩ := h1 e11
      obtain ⟨g2, c2, W0, rfl, hB0, k3, k2, k4⟩ := h3 d8 e11
      refine wpOp_plain rfl (fun _ => rfl) fun K hK => ?_
      simp only [d10, cX_y]
      go_simp
      exact hK _ _ ⟨x114, _, (by simp only [Nat.reduceBEq, Bool.false_or, d10, cX_y]), (fun k0 => absurd (show L 7 = false from k0) (by rw [d7]; simp)), (fun k0 => by cases k0), (fun k0 k1 => absurd (show L 8 = false from k1) (by rw [d8]; simp)), (fun k0 k1 => by cases k1), (fun k0 => ⟨W, rfl, g2, c2, W0, rfl, hB0, k3, k2, k4⟩)⟩
     | n9 + 12, h => exact absurd h (by simp)
    ·intro L a9 W hall hI9
     obtain ⟨x114, x115, rfl, h0, h1, h2, h3, h4⟩ := hI9
     have e0 := hall 0 (by decide)
     have e1 := hall 1 (by decide)
     have e2 := hall 2 (by decide)
     have e3 := hall 3 (by decide)
     have e4 := hall 4 (by decide)
     have e5 := hall 5 (by decide)
     have e6 := hall 6 (by decide)
     have e7 := hall 7 (by decide)
     have e8 := hall 8 (by decide)
     have e9 := hall 9 (by decide)
     have e10 := hall 10 (by decide)
     have e11 := hall 11 (by decide)
     simp only [e0, e1, e2, e3, e4, e5, e6, e9, e10, cX_y]
     exact (HRc3.out _ _).2 ⟨x114, x115, rfl, h4 e11⟩
   have b3 : (q == 3) = false := by simpa using e3
   have RXe : Hid (Row w8 X 37 #[.int .i64 id, .int .i64 f, .slice va m vc]) := K9.out.1.x
   have RDe : Hid _ := KRD.out _ K9.out.1.b
   obtain ⟨FR, FP⟩ := FIN.out _ f m va vc S F K9.out.1.b K9.out.1.c K9.out.1.o K9.out.1.d KSL.out (by omega) K9.out.2 _ rfl
   go_wp2_with (first | (refine wpList_load_row (by rfl) 37 _ (by rfl) X (by rfl) 37 #[.int .i64 id, .int .i64 f, .slice va m vc] (0, 0) _ ?_ Tryz.underlying37 (by rfl) Tryz.infoNd ?_; exact RXe.out) | (refine wpList_store_row (by rfl) 37 _ _ (by rfl) D #[.int .i64 id, .int .i64 f, .slice va m vc] (by rfl) (by rfl) 37 #[.int .i64 0, .int .i64 0, .slice none 0 0] ?_ Tryz.infoNd rfl (by simp [Value.oneCell']) ?_; exact RDe.out))
   exact bodyPost_ret (v := .tuple #[ndV id f (.slice va m vc), .slice (some ⟨G, 0, none⟩) N cc]) (by
    have p0 := FR.cell 0
    have p1 := FR.cell 1
    have p2 := FR.cell 2
    simp at p0 p1 p2
    simp [results, Tryz.results27, go_sem, p0, p1, p2]) rfl FP
end Go.Proofs.YtaenoiffamgcfaaGreatDoor
