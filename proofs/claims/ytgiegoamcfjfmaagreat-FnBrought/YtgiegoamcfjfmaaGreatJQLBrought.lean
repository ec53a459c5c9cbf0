/- For every input: who brings a text says to each node its own piece, that it takes; the program answers as its model does. No condition. -/
import Derived.Test.YtgiegoamcfjfmaaGreatJ50
import Derived.Test.YtgiegoamcfjfmaaGreatJ33
import Derived.Test.YtgiegoamcfjfmaaGreatJ8
import Derived.Test.YtgiegoamcfjfmaaGreatJ10
import Derived.Test.YtgiegoamcfjfmaaGreatRows
import Derived.Deep.CutRange
namespace Go.Proofs.YtgiegoamcfjfmaaGreat
set_option maxRecDepth 2000
open Go.ChangeShapes Go.WideShapes Go.ChangeAt Go.RowKit

set_option maxHeartbeats 8000000 in
theorem walk_FnBrought (a0 : Option Addr) (len0 cap0 : Nat) (z0 : List Int) (w : World) (w0 : IsRow .u8 w a0 len0 cap0 z0) :
    Calls Tryz.prog 4 #[.slice a0 len0 cap0] w fun e w' => e = .returned (.bool true) ∧ Below w.heap.size w w' := by
  by_cases h0 : 1048576 < len0
  · clear w0
    have h0' : (1048576 : Int) < (len0 : Int) := by omega
    go_enter Tryz.func4, Tryz.ntmps4
    go_wp2_with (go_at_call 23; refine (big_any _ _ _ _).mono ?_; rintro e w' ⟨rfl, rfl⟩)
    go_ret
    exact ⟨rfl, Below.refl _ _⟩
  have hc := w0.code (by omega)
  clear w0
  have h0' : ¬ (1048576 : Int) < (len0 : Int) := by omega
  go_enter Tryz.func4, Tryz.ntmps4
  go_wp2_with fail
  refine (big_any _ _ _ _).mono ?_
  rintro e w' ⟨rfl, hw⟩
  obtain rfl := hw.symm
  clear hw
  go_wp2_with fail
  refine (drawBring_any _ _ _ _ hc).mono ?_
  rintro e v1 ⟨s, f, hs, hf, rfl, b1⟩
  have K1 : Hid (CodeAt v1 a0 len0) := hc.below b1
  have HS : Hid (s.size ≤ 1048576) := by show s.size ≤ 1048576; omega
  have HFf : Hid (-1 ≤ f ∧ f ≤ 4) := hf
  clear hc h0 h0' hs hf
  go_wp2_with fail
  refine Calls.mono (bring_any s f _ HS.out) ?_
  rintro e v2 ⟨g, cap, rfl, O2, b2⟩
  have KO2 : Hid (Rd v2 (sysD (brN s f) (brS s f)) (.slice (some ⟨g, 0, none⟩) (brN s f) cap)) := O2.rd
  have KB2 : Hid (Below w.heap.size w v2) := below2 b1 b2
  have K2 : Hid (CodeAt v2 a0 len0) := K1.out.below b2
  obtain ⟨rt, HRT⟩ : ∃ x, Hid (brR s f = x) := ⟨_, rfl⟩
  obtain ⟨okf, HOK⟩ : ∃ x, Hid (brB s f = x) := ⟨_, rfl⟩
  obtain ⟨nL, HNL⟩ : ∃ x, Hid (brN s f = x) := ⟨_, rfl⟩
  obtain ⟨P, HP⟩ : ∃ x, Hid (brS s f = x) := ⟨_, rfl⟩
  rw [HRT.out, HOK.out, HNL.out]
  rw [HNL.out, HP.out] at KO2
  have KSB : Hid (∀ W, Calls Tryz.prog 26 #[.string s, .int .i64 f] W fun e w' => ∃ a cap, e = .returned (.tuple #[.slice a nL cap, .string rt, .bool okf]) ∧ Rd w' (sysD nL P) (.slice a nL cap) ∧ Below W.heap.size W w') := fun W => by
    have := sBring_any s f W HS.out
    rw [HRT.out, HOK.out, HNL.out, HP.out] at this
    exact this
  have HM1 : Hid (nL ≤ 16 ∧ ∀ i, i < nL → (P i).p.m ≤ 1048576) := by
    refine ⟨?_, fun i _ => ?_⟩
    · show nL ≤ 16
      rw [← HNL.out]
      unfold brN
      split
      · rename_i h; have := br_f h; omega
      · omega
    · rw [← HP.out]
      have : (brS s f i).p.m ≤ 16 := pfR_le _ _ _
      omega
  clear b1 b2 O2 K1
  go_wp2_with fail
  refine Calls.mono (KSB.out _) ?_
  rintro e v3 ⟨aS, cS, rfl, R3, b3⟩
  have KO3 : Hid (Rd v3 (sysD nL P) (.slice (some ⟨g, 0, none⟩) nL cap) ∧ Rd v3 (sysD nL P) (.slice aS nL cS)) := ⟨KO2.out.below b3, R3⟩
  have KB3 : Hid (Below w.heap.size w v3) := below2 KB2.out b3
  have K3 : Hid (CodeAt v3 a0 len0) := K2.out.below b3
  clear b3 R3 KO2 KB2 K2 KSB
  go_wp2_with fail
  refine (drawNodeStart_any _ _ _ _ K3.out).mono ?_
  rintro e v4 ⟨na, nb, rfl, b4⟩
  have KO4 : Hid (Rd v4 (sysD nL P) (.slice (some ⟨g, 0, none⟩) nL cap) ∧ Rd v4 (sysD nL P) (.slice aS nL cS)) := ⟨KO3.out.1.below b4, KO3.out.2.below b4⟩
  have KB4 : Hid (Below w.heap.size w v4) := below2 KB3.out b4
  obtain ⟨xi, HXI⟩ : ∃ x : Int, Hid ((if seB na nb then na else 0) = x) := ⟨_, rfl⟩
  obtain ⟨xf, HXF⟩ : ∃ x : Int, Hid ((if seB na nb then nb else 0) = x) := ⟨_, rfl⟩
  obtain ⟨sb, HSB⟩ : ∃ x, Hid (seB na nb = x) := ⟨_, rfl⟩
  have KN1 : Hid (∀ W, Calls Tryz.prog 28 #[.int .i64 na, .int .i64 nb] W fun e w' => ∃ a : Option Addr, e = .returned (.tuple #[ndV xi xf (.slice a 0 0), .bool sb]) ∧ Below W.heap.size W w') := fun W => by
    have := nodeStart_any na nb W
    rw [HXI.out, HXF.out, HSB.out] at this
    exact this.mono fun e w' ⟨a, h1, _, h3⟩ => ⟨a, h1, h3⟩
  have KN2 : Hid (∀ W, Calls Tryz.prog 29 #[.int .i64 na, .int .i64 nb] W fun e w' => e = .returned (.tuple #[ndV xi xf (.slice none 0 0), .bool sb]) ∧ Below W.heap.size W w') := fun W => by
    have := sNodeStart_any na nb W
    rw [HXI.out, HXF.out, HSB.out] at this
    exact this
  clear b4 KO3 KB3 K3 HXI HXF HSB
  go_wp2_with fail
  refine Calls.mono (KN1.out _) ?_
  rintro e v5 ⟨aX, rfl, b5⟩
  obtain ⟨X, HX⟩ : ∃ x, Hid (x = v5.heap.size) := ⟨_, rfl⟩
  obtain ⟨v6, HV6⟩ : ∃ x, Hid (x = v5.alloc (.cells #[.int .i64 xi, .int .i64 xf, .slice aX 0 0] 34)) := ⟨_, rfl⟩
  have b56 : Below v5.heap.size v5 v6 := by rw [HV6.out]; exact (Below.refl _ _).alloc (Nat.le_refl _) _
  have RX6 : Hid (Row v6 X 34 #[.int .i64 xi, .int .i64 xf, .slice aX 0 0]) := by show Row _ _ _ _; rw [HV6.out, HX.out]; exact Row.new v5 _ _
  have b46 := below2 b5 b56
  have KO6 : Hid (Rd v6 (sysD nL P) (.slice (some ⟨g, 0, none⟩) nL cap) ∧ Rd v6 (sysD nL P) (.slice aS nL cS)) := ⟨KO4.out.1.below b46, KO4.out.2.below b46⟩
  have KB6 : Hid (Below w.heap.size w v6) := below2 KB4.out b46
  clear b5 b56 b46 KO4 KB4
  go_upto_region 8 with fail
  rw [← HV6.out, ← HX.out]
  go_wp2_with fail
  refine Calls.mono (KN2.out _) ?_
  rintro e v7 ⟨rfl, b7⟩
  obtain ⟨Z, HZ⟩ : ∃ x, Hid (x = v7.heap.size) := ⟨_, rfl⟩
  obtain ⟨v8, HV8⟩ : ∃ x, Hid (x = v7.alloc (.cells #[.int .i64 xi, .int .i64 xf, .slice none 0 0] 34)) := ⟨_, rfl⟩
  have b78 : Below v7.heap.size v7 v8 := by rw [HV8.out]; exact (Below.refl _ _).alloc (Nat.le_refl _) _
  have RZ8 : Hid (Row v8 Z 34 #[.int .i64 xi, .int .i64 xf, .slice none 0 0]) := by show Row _ _ _ _; rw [HV8.out, HZ.out]; exact Row.new v7 _ _
  have b68 := below2 b7 b78
  have RX8 : Hid (Row v8 X 34 #[.int .i64 xi, .int .i64 xf, .slice aX 0 0]) := RX6.out.below b68 RX6.out.lt
  have KO8 : Hid (Rd v8 (sysD nL P) (.slice (some ⟨g, 0, none⟩) nL cap) ∧ Rd v8 (sysD nL P) (.slice aS nL cS)) := ⟨KO6.out.1.below b68, KO6.out.2.below b68⟩
  have KB8 : Hid (Below w.heap.size w v8) := below2 KB6.out b68
  have KS8 : Hid _ := sameSys_same (some ⟨g, 0, none⟩) aS nL cap cS P v8 KO8.out.1 KO8.out.2 (by have := HM1.out.1; omega) HM1.out.2
  have hff : (okf != okf) = false := by simp
  have hft : (rt.toList != rt.toList) = false := by simp
  have hft' := ba_beq rt
  have hfs : (sb != sb) = false := by simp
  clear b7 b78 b68 RX6 KO6 KB6 HV6 HX KN1 KN2
  go_upto_region 9 with fail
  rw [← HV8.out, ← HZ.out]
  go_wp2_with fail
  refine Calls.mono KS8.out ?_
  rintro e v9 ⟨rfl, b9⟩
  have RX9 := RX8.out.below b9 RX8.out.lt
  have RZ9 := RZ8.out.below b9 RZ8.out.lt
  have x0 := RX9.cell 0
  have x1 := RX9.cell 1
  have x2 := RX9.cell 2
  have z0 := RZ9.cell 0
  have z1 := RZ9.cell 1
  have z2 := RZ9.cell 2
  simp at x0 x1 x2 z0 z1 z2
  have KO9 : Hid (Rd v9 (sysD nL P) (.slice (some ⟨g, 0, none⟩) nL cap)) := KO8.out.1.below b9
  have KB9 : Hid (Below w.heap.size w v9) := below2 KB8.out b9
  clear b9 RX9 RZ9 RX8 RZ8 KO8 KB8 KS8 HV8 HZ
  go_wp2_with fail
  refine Calls.mono (sameNd_none xi xf aX none 0 0 _) ?_
  rintro e v10 ⟨rfl, b10⟩
  have KO10 : Hid (Rd v10 (sysD nL P) (.slice (some ⟨g, 0, none⟩) nL cap)) := KO9.out.below b10
  have KB10 : Hid (Below w.heap.size w v10) := below2 KB9.out b10
  clear b10 x0 x1 x2 z0 z1 z2 KO9 KB9
  cases okf with
  | false =>
    have er : rt = ByteArray.empty := by rw [← HRT.out]; unfold brR; rw [HOK.out]; rfl
    have en : nL = 0 := by rw [← HNL.out]; unfold brN; rw [HOK.out]; rfl
    subst er en
    have hem : (ByteArray.empty.toList == (⟨#[]⟩ : ByteArray).toList) = true := by rw [show (⟨#[]⟩ : ByteArray) = ByteArray.empty from rfl]; simp
    go_wp2
    go_ret
    exact ⟨rfl, KB10.out⟩
  | true =>
    have HBT : Hid (brB s f = true) := HOK.out
    have hff1 := br_f HBT.out
    have hnA := nAll_is hff1
    have HNA : Hid (nL = nAll f) := by show nL = nAll f; rw [← HNL.out]; unfold brN; rw [HBT.out]; rfl
    have HF : Hid (1 ≤ f ∧ f ≤ 3) := hff1
    have e3 : IntKind.i64.wrap (3 * f) = 3 * f := by rw [IntKind.wrap_i64]; omega
    have e31 : IntKind.i64.wrap (3 * f + 1) = (nL : Int) := by have := HNA.out; rw [IntKind.wrap_i64]; omega
    have enn : ((nL : Int) == (nL : Int)) = true := by simp
    have enf : ((nL : Int) != (nL : Int)) = false := by simp
    have HLE : Hid (nL ≤ 16) := HM1.out.1
    clear hff1 hnA
    go_wp2_with fail
    go_loopw [17] (fun vi wr => ∃ k : Nat, k ≤ nL ∧ vi = .int .i64 (k : Int) ∧ Hid (Rd wr (sysD nL P) (.slice (some ⟨g, 0, none⟩) nL cap) ∧ Below w.heap.size w wr)) (fun vi _ => nL - (intOf vi).toNat)
    case atStart => exact ⟨0, Nat.zero_le _, rfl, KO10.out, KB10.out⟩
    case round =>
      obtain ⟨k, hk, rfl, HI⟩ := hrel
      clear KO10 KB10
      by_cases hlt : k < nL
      · have hki : (k : Int) < (nL : Int) := by omega
        have HKA : Hid (k < nAll f) := by show k < nAll f; have := HNA.out; omega
        have KN : Hid (Calls Tryz.prog 28 #[.int .i64 (k : Int), .int .i64 f] wr fun e w' => ∃ a : Option Addr, e = .returned (.tuple #[ndV (k : Int) f (.slice a 0 0), .bool true]) ∧ Below wr.heap.size wr w') := by
          have hse : seB (k : Int) f = true := by unfold seB; exact decide_eq_true (by have := HF.out; have := nAll_is HF.out; have := HKA.out; omega)
          have := nodeStart_any (k : Int) f wr
          rw [hse] at this
          exact this.mono fun e w' ⟨a, h1, _, h3⟩ => ⟨a, h1, h3⟩
        go_wp2_with fail
        refine Calls.mono KN.out ?_
        rintro e u1 ⟨aN, rfl, b1⟩
        obtain ⟨B1, HB1⟩ : ∃ x, Hid (x = u1.heap.size) := ⟨_, rfl⟩
        obtain ⟨u2, HU2⟩ : ∃ x, Hid (x = u1.alloc (.cells #[.int .i64 (k : Int), .int .i64 f, .slice aN 0 0] 34)) := ⟨_, rfl⟩
        have b2 : Below u1.heap.size u1 u2 := by rw [HU2.out]; exact (Below.refl _ _).alloc (Nat.le_refl _) _
        have b12 : Below wr.heap.size wr u2 := below2 b1 b2
        have RB : Hid (Row u2 B1 34 #[.int .i64 (k : Int), .int .i64 f, .slice aN 0 0]) := by show Row _ _ _ _; rw [HU2.out, HB1.out]; exact Row.new u1 _ _
        have KO2 : Hid (Rd u2 (sysD nL P) (.slice (some ⟨g, 0, none⟩) nL cap)) := HI.out.1.below b12
        have KB2 : Hid (Below w.heap.size w u2) := below2 HI.out.2 b12
        obtain ⟨bb, fb, a9, c9, e1, R1, t9⟩ := say_at KO2.out hlt
        cases e1
        have KT9 : Hid (TxtAt u2 a9 (P k).p.m (P k).p.S) := t9
        have KR1 : Hid (∀ W, Below u2.heap.size u2 W → W.rangeAt g (0 + k * 10) [.int .i64 (P k).k, .int .i64 (P k).f, .int .i64 (P k).t, .string (P k).r, .string (P k).p.r, .int .i64 (P k).p.k, .int .i64 (P k).p.n, .int .i64 (P k).p.i, .string (P k).p.b, .slice a9 (P k).p.m c9]) := fun W hW j v hv => (hW.cell (block_lt_of_cell (R1 j v hv))).trans (R1 j v hv)
        obtain ⟨SG, HSG⟩ : ∃ x, Hid (x = nhS (k : Int) f 0 (fun _ => slR rt) (brS s f k)) := ⟨_, rfl⟩
        obtain ⟨YG, HYG⟩ : ∃ x, Hid (x = nhY (k : Int) f 0 (fun _ => slR rt) (brS s f k)) := ⟨_, rfl⟩
        have KNH : Hid (∀ W, Below u2.heap.size u2 W → Calls Tryz.prog 14 #[ndV (k : Int) f (.slice aN 0 0), syV (P k) (.slice a9 (P k).p.m c9)] W fun e w' => NhA W w' (k : Int) f 1 SG nL YG e) := fun W hW => by
          have hh := br_hears HBT.out HKA.out (fun _ => slR rt)
          have := nodeHear_any (k : Int) f aN 0 0 (fun _ => slR rt) (brS s f k) a9 c9 W ⟨aN, 0, rfl, fun i hi => absurd hi (Nat.not_lt_zero i)⟩ (by rw [HP.out]; exact KT9.out.below hW) (br_bound HBT.out HKA.out _)
          rw [hh.1, hh.2.1, ← HSG.out, ← HYG.out, ← HNA.out, HP.out] at this
          exact this
        have HSO : Hid (soB SG rt 1 = true ∧ soS SG rt 1 = { slR (brP s f k).r with p := brP s f k, h := true, e := true }) := by
          have := br_slot HBT.out HKA.out (fun _ => slR rt)
          rw [HRT.out, ← HSG.out] at this
          exact this
        have HSK : Hid (∀ i, i < 1 → SlK (SG i)) := by
          intro i hi
          obtain rfl : i = 0 := by omega
          rw [HSG.out, (br_hears HBT.out HKA.out (fun _ => slR rt)).2.2]
          have hb := br_bound HBT.out HKA.out (fun _ => slR rt)
          exact ⟨hb.r, hb.pr, hb.pb, hb.m, hb.ps, by simp [slR], by simp [slR]⟩
        clear b1 b2 b12 R1 t9 KN HI HSG HYG
        go_upto_region 17 with fail
        rw [← HU2.out, ← HB1.out]
        go_cut [20, 21] from 108 to 116 (fun v20 v21 wx => Hid (∃ E a' c' sa sc, v20 = .pointer (some ⟨E, 0, none⟩) ∧ v21 = .slice sa nL sc ∧ Row wx E 34 #[.int .i64 (k : Int), .int .i64 f, .slice a' 1 c'] ∧ Rd wx (slsD 1 SG) (.slice a' 1 c') ∧ Rd wx (sysD nL YG) (.slice sa nL sc) ∧ Below u2.heap.size u2 wx))
        case first =>
          have lB := RB.out.lt
          have q_0 := RB.out.cell 0
          have q_1 := RB.out.cell 1
          have q_2 := RB.out.cell 2
          simp at q_0 q_1 q_2
          have KS : Hid (∀ W, Below u2.heap.size u2 W → (W.cell? ⟨B1, 0, none⟩ = some (.int .i64 (k : Int)) ∧ W.cell? ⟨B1, 1, none⟩ = some (.int .i64 f) ∧ W.cell? ⟨B1, 2, none⟩ = some (.slice aN 0 0)) ∧ W.cell? ⟨g, k * 10, none⟩ = some (.int .i64 (P k).k) ∧ W.cell? ⟨g, k * 10 + 1, none⟩ = some (.int .i64 (P k).f) ∧ W.cell? ⟨g, k * 10 + 2, none⟩ = some (.int .i64 (P k).t) ∧ W.cell? ⟨g, k * 10 + 3, none⟩ = some (.string (P k).r) ∧ W.cell? ⟨g, k * 10 + 4, none⟩ = some (.string (P k).p.r) ∧ W.cell? ⟨g, k * 10 + 5, none⟩ = some (.int .i64 (P k).p.k) ∧ W.cell? ⟨g, k * 10 + 6, none⟩ = some (.int .i64 (P k).p.n) ∧ W.cell? ⟨g, k * 10 + 7, none⟩ = some (.int .i64 (P k).p.i) ∧ W.cell? ⟨g, k * 10 + 8, none⟩ = some (.string (P k).p.b) ∧ W.cell? ⟨g, k * 10 + 9, none⟩ = some (.slice a9 (P k).p.m c9)) := fun W hW => by
            have R := KR1.out W hW
            rw [Nat.zero_add] at R
            exact ⟨⟨(hW.cell (p := ⟨B1, 0, none⟩) lB).trans q_0, (hW.cell (p := ⟨B1, 1, none⟩) lB).trans q_1, (hW.cell (p := ⟨B1, 2, none⟩) lB).trans q_2⟩, R 0 _ rfl, R 1 _ rfl, R 2 _ rfl, R 3 _ rfl, R 4 _ rfl, R 5 _ rfl, R 6 _ rfl, R 7 _ rfl, R 8 _ rfl, R 9 _ rfl⟩
          have hdr : Below u2.heap.size u2 u2.drew := below_drew u2
          have hdA : Below u2.heap.size u2 (u2.alloc (.cells #[.int .i64 0, .int .i64 0, .slice none 0 0] 34)).drew := below2 (alN_below u2) (below_drew _)
          have hdB : Below u2.heap.size u2 u2 := Below.refl _ _
          clear q_0 q_1 q_2
          obtain ⟨⟨q0, q1, q2⟩, y0, y1, y2, y3, y4, y5, y6, y7, y8, y9⟩ := KS.out u2 (Below.refl _ _)
          go_region_held3 (fun w' => (w'.cell? ⟨B1, 0, none⟩ = some (.int .i64 (k : Int)) ∧ w'.cell? ⟨B1, 1, none⟩ = some (.int .i64 f) ∧ w'.cell? ⟨B1, 2, none⟩ = some (.slice aN 0 0)) ∧ w'.cell? ⟨g, k * 10, none⟩ = some (.int .i64 (P k).k) ∧ w'.cell? ⟨g, k * 10 + 1, none⟩ = some (.int .i64 (P k).f) ∧ w'.cell? ⟨g, k * 10 + 2, none⟩ = some (.int .i64 (P k).t) ∧ w'.cell? ⟨g, k * 10 + 3, none⟩ = some (.string (P k).r) ∧ w'.cell? ⟨g, k * 10 + 4, none⟩ = some (.string (P k).p.r) ∧ w'.cell? ⟨g, k * 10 + 5, none⟩ = some (.int .i64 (P k).p.k) ∧ w'.cell? ⟨g, k * 10 + 6, none⟩ = some (.int .i64 (P k).p.n) ∧ w'.cell? ⟨g, k * 10 + 7, none⟩ = some (.int .i64 (P k).p.i) ∧ w'.cell? ⟨g, k * 10 + 8, none⟩ = some (.string (P k).p.b) ∧ w'.cell? ⟨g, k * 10 + 9, none⟩ = some (.slice a9 (P k).p.m c9)) (exact KS.out _ (by with_reducible assumption)) ((go_at_call 14; refine Calls.mono (KNH.out _ (by with_reducible assumption)) ?_; rintro e t9 ⟨gH, cE, sE, dE, F1, F2, rfl, o1, o2, _, b9'⟩; have KR9 : Hid (Rf _ _ _ _) := Rf.own o1; have KS9 : Hid (Rf _ _ _ _) := Rf.own o2; clear o1 o2; have b9 : Below u2.heap.size u2 t9 := (by first | exact below2 hdr b9' | exact below2 hdA b9'); have b9A := below2 b9 (alN_below t9); (first | (have RE9 := ReN.new hdB (below_of_drew b9'); have FN : Hid _ := RE9.fin (alN_lt u2) KR9.out KS9.out b9 (k : Int) f (.slice (some ⟨gH, 0, none⟩) 1 cE); obtain ⟨⟨i0, i1, i2⟩, i3, i4, i5⟩ := RE9.cells; clear RE9; have bS := FN.out.2.2.2) | (have FN : Hid _ := fresh_fin KR9.out KS9.out b9 (k : Int) f (.slice (some ⟨gH, 0, none⟩) 1 cE); have bS := FN.out.2.2.2)); clear b9'))
          all_goals
            go_wp2_with fail
            go_meet
            exact ⟨_, some ⟨gH, 0, none⟩, cE, sE, dE, rfl, rfl, FN.out⟩
        obtain ⟨E, aE, cE, sE, dE, rfl, rfl, hE, hR1, hR2, hb⟩ := hcut.out
        obtain ⟨u3, hu3⟩ : ∃ x, x = wc := ⟨_, rfl⟩
        subst hu3
        have RE3 : Hid (Row u3 E 34 #[.int .i64 (k : Int), .int .i64 f, .slice aE 1 cE]) := hE
        have KO3 : Hid (Rd u3 (sysD nL P) (.slice (some ⟨g, 0, none⟩) nL cap)) := KO2.out.below hb
        have KB3 : Hid (Below w.heap.size w u3) := below2 KB2.out hb
        obtain ⟨T, HT⟩ : ∃ x, Hid (soS SG rt 1 = x) := ⟨_, rfl⟩
        have HTT : Hid (T.h = true ∧ T.e = true ∧ T.d = false) := by
          rw [← HT.out, HSO.out.2]
          exact ⟨rfl, rfl, rfl⟩
        have KSL : Hid (Calls Tryz.prog 32 #[ndV (k : Int) f (.slice aE 1 cE), .string rt] u3 fun e w' => ∃ (a6 a11 a12 : Option Addr) (c6 c11 c12 : Nat) (F6 F11 F12 : Nat → Prop), e = .returned (.tuple #[slV T (.slice a6 T.p.m c6) (.slice a11 T.ze.length c11) (.slice a12 T.zr.length c12), .bool true]) ∧ SlO w' u3.heap.size T (.slice a6 T.p.m c6) (.slice a11 T.ze.length c11) (.slice a12 T.zr.length c12) F6 F11 F12 ∧ Below u3.heap.size u3 w') := by
          have := slotOf_any (k : Int) f aE 1 cE SG rt u3 hR1 (by omega) HSK.out
          rw [HT.out, HSO.out.1] at this
          exact this
        clear hcut hE hR1 hR2 hb RB KO2 KB2 KT9 KR1 KNH HSO HSK HT HU2 HB1
        go_wp2_with (refine wpList_load_row (by rfl) 34 _ (by rfl) E (by rfl) 34 #[.int .i64 (k : Int), .int .i64 f, .slice aE 1 cE] (0, 0) _ ?_ Tryz.underlying34 (by rfl) Tryz.infoNd ?_; exact RE3.out)
        refine Calls.mono KSL.out ?_
        rintro e u4 ⟨a6, a11, a12, c6, c11, c12, F6, F11, F12, rfl, _, b4⟩
        obtain ⟨G, HG⟩ : ∃ v, Hid (v = u4.heap.size) := ⟨_, rfl⟩
        obtain ⟨u5, HU5⟩ : ∃ v, Hid (v = u4.alloc (.cells (slC T (.slice a6 T.p.m c6) (.slice a11 T.ze.length c11) (.slice a12 T.zr.length c12)) 62)) := ⟨_, rfl⟩
        have b5 : Below u4.heap.size u4 u5 := by rw [HU5.out]; exact (Below.refl _ _).alloc (Nat.le_refl _) _
        have RG : Hid (Row u5 G 62 (slC T (.slice a6 T.p.m c6) (.slice a11 T.ze.length c11) (.slice a12 T.zr.length c12))) := by show Row _ _ _ _; rw [HU5.out, HG.out]; exact Row.new u4 _ _
        have KI5 : Hid (Rd u5 (sysD nL P) (.slice (some ⟨g, 0, none⟩) nL cap) ∧ Below w.heap.size w u5) := ⟨KO3.out.below (below2 b4 b5), below2 KB3.out (below2 b4 b5)⟩
        have y7 := RG.out.cell 7
        have y8 := RG.out.cell 8
        have y9 := RG.out.cell 9
        simp at y7 y8 y9
        rw [HTT.out.1] at y7
        rw [HTT.out.2.1] at y8
        rw [HTT.out.2.2] at y9
        clear b4 b5 KO3 KB3 KSL
        have hle := HLE.out
        go_upto_region 19 with fail
        rw [← HU5.out, ← HG.out]
        go_wp2
        go_roundw
        case rel => exact ⟨k + 1, by omega, by go_num, KI5⟩
        case measure => simp [intOf]; omega
      · obtain rfl : nL = k := by omega
        have HB : Hid (Below w.heap.size w wr) := HI.out.2
        clear HI
        go_wp2
        go_ret
        exact ⟨rfl, HB.out⟩
end Go.Proofs.YtgiegoamcfjfmaaGreat
namespace Go.Proofs.YtgiegoamcfjfmaaGreat.fnBrought
open Go.ChangeShapes Go.WideShapes Go.ChangeAt Go.RowKit
open Go.ChangeMaps (open_string shut_string)
set_option linter.unusedVariables false
theorem own : ownKnob Tryz.prog.godebug = none := by kernel_rfl
theorem laidOut : laidOutB Tryz.prog = true := by kernel_rfl
set_option maxRecDepth 100000 in
theorem lifted (os : Os) (started : os.Started) (H : Type) (enc : TypeId × Value → H) :
    ReturnsInHanded {} Tryz.checked os 4 .any (Rows.fnBroughtSpec.pre6 enc Tryz.prog Tryz.f4 Rows.fnBroughtRow.domain false) (Rows.fnBroughtSpec.post enc Tryz.prog Tryz.f4 false true false false) := by
  refine returnsInHanded_of_change (C := Tryz.checked) own started (by kernel_rfl) Tryz.func4
    (ChangeSpec.witness6 (enc := enc) (C := Tryz.checked) false ⟨#[], #[.slice none 0 0], []⟩ 8 (by kernel_rfl) (by kernel_rfl) (by kernel_rfl) (by kernel_rfl)) ?_
  intro W base args ds gs before hval0 hW hcnd _
  have hval : ∀ (j : Nat) t v, Tryz.f4.params[j]? = some t → args[j]? = some v → Value.okWide Tryz.prog W .any base t v := hval0
  have hW' := hW
  obtain ⟨p, q, hA0, hV, rfl, hfz, hnd⟩ := hW
  have hA : DataW.TrodAll enc Tryz.prog W 0 (fun _ => true) true Tryz.f4.params.toList args.toList ds p := hA0
  rw [Tryz.params4] at hA hval
  obtain ⟨v0, vs0, d0, ds0, p0, q0, hargs, rfl, rfl, h0, r0⟩ := trodAll_cons hA
  obtain ⟨rfl, rfl, rfl⟩ := trodAll_nil r0
  obtain rfl : args = #[v0] := by cases args; simp_all
  obtain ⟨rfl, rfl⟩ := trodVars_none hV
  obtain ⟨a0, len0, cap0, rfl⟩ := okWide_slice Tryz.underlying50 (hval 0 50 v0 rfl rfl)
  have k0 := h0
  have lt0 : ∀ x ∈ p0, x.block < W.heap.size := by obtain ⟨m, hm⟩ := k0; exact DataW.trod_lt m _ _ _ hm
  obtain ⟨z0, w0⟩ : ∃ zs, IsRow .u8 W a0 len0 cap0 zs := by
    obtain ⟨fuel, hf⟩ := h0
    rcases open_ints Tryz.underlying50 Tryz.underlying5 (by kernel_rfl) hf with ⟨hcs, _⟩ | ⟨x, l, c, zs, hcs, _, hl, hm, hz, _, hcell, hwz⟩
    · simp [Value.cells] at hcs
      obtain ⟨rfl, rfl, rfl⟩ := hcs
      exact ⟨[], .inl ⟨rfl, rfl, rfl, rfl⟩⟩
    · simp [Value.cells] at hcs
      obtain ⟨rfl, rfl, rfl⟩ := hcs
      exact ⟨zs, .inr ⟨_, rfl, hl, hm, by simpa using hz, hcell, hwz⟩⟩
  clear hA0 hval0
  refine (walk_FnBrought a0 len0 cap0 z0 W w0).mono fun e W' ⟨he, bel⟩ => ?_
  subst he
  exact ⟨_, rfl, _, _, _, [], _, [], hW', trodAll_mk1 (shut_bool Tryz.underlying4 _), (trodAll_cons_mk (Below.trod laidOut (by kernel_rfl) (of_decide_eq_true (by kernel_rfl)) k0 bel lt0) trodAll_mk0), rfl, bel.frame _, fun h => by cases h⟩
theorem over : Rows.fnBroughtRow.holds Tryz.pinned (OpenSpec.ofChange Rows.fnBroughtSpec) :=
  OpenClaim.holds_of_wide 4 Tryz.f4 rfl rfl rfl rfl rfl rfl rfl ⟨rfl, rfl, rfl, rfl, rfl⟩ rfl rfl rfl rfl rfl (by kernel_rfl) Tryz.func4 (by kernel_rfl)
    (of_decide_eq_true (by kernel_rfl)) (by unfold Func.isWrapper; first | (rw [if_pos (by decide +kernel)]; kernel_rfl) | (rw [if_neg (by decide +kernel)]; exact ⟨rfl, rfl⟩))
    (fun os started H enc _ => lifted os started H enc)
theorem proved : Rows.FnBroughtSaid := over
#print axioms proved
end Go.Proofs.YtgiegoamcfjfmaaGreat.fnBrought
