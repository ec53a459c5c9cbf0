import Derived.Test.YtihklfkhjpnjkaaGreatDoorU37
import Derived.Test.YtihklfkhjpnjkaaGreatDoorU36
import Derived.Test.YtihklfkhjpnjkaaGreatDoorU13
import Derived.Test.YtihklfkhjpnjkaaGreatDoorU7
import Derived.Lib.QuietBelow
import Derived.BigQuiet
import Derived.Test.YtihklfkhjpnjkaaGreatDoorU32
import Derived.Test.YtihklfkhjpnjkaaGreatDoorU31
import Derived.Test.YtihklfkhjpnjkaaGreatDoorU30
import Derived.Test.YtihklfkhjpnjkaaGreatDoorU19
set_option maxHeartbeats 8000000
set_option maxRecDepth 2000
namespace Go.Proofs.YtihklfkhjpnjkaaGreatDoor
open Go.ChangeShapes Go.WideShapes Go.ChangeAt Go.RowKit Go.Sort
theorem sum_ok {p : Pc} (h : okQ p = true) : p.r.size + p.b.size + (p.m + tot (fun j => (p.S j).size) p.m) ≤ 1048576 := by
 obtain ⟨⟨_, _, _, _, hb⟩, _, _, hr, hm, hS⟩ := okP_parts (show okP p.r p.k p.n p.i p.b p.m p.S = true from h)
 have key : ∀ c, c ≤ p.m → tot (fun j => (p.S j).size) c ≤ c * 16 := fun c => by
  induction c with
  | zero => intro _; exact Nat.le_refl _
  | succ c ih =>
   intro hc
   have a1 := ih (by omega)
   have a2 := hS c (by omega)
   show tot _ c + (p.S c).size ≤ _
   omega
 have h2 := key p.m (Nat.le_refl _)
 have h3 : p.m * 16 ≤ 6 * 16 := Nat.mul_le_mul_right _ hm
 omega
theorem ok_max {p : Pc} (h : okQ p = true) : ∀ i, i < p.m → (p.S i).size ≤ maxLen := fun i hi => by
 have := (okP_parts (show okP p.r p.k p.n p.i p.b p.m p.S = true from h)).2.2.2.2.2 i hi
 unfold maxLen
 omega
theorem cut_lvB {s : ByteArray} {k n : Int} (h : encOk s k n = true) : lvB n.toNat (lvs k n.toNat (encS s k.toNat)) = true := by
 obtain ⟨h1, h2, h3, h4⟩ := encOk_parts h
 unfold lvB
 rw [Bool.and_eq_true]
 refine ⟨aS_yes (fun i hi => ?_), ?_⟩
 ·unfold lvs
  obtain ⟨k', hk'⟩ : ∃ k' : Nat, k = (k' : Int) := ⟨k.toNat, by omega⟩
  rw [hk', plf_yes _ (by omega) (by omega) (by omega)]
  exact Gt.lf_size _
 ·unfold inB
  exact decide_eq_true (by omega)
theorem cut_ok {s : ByteArray} {k n : Int} (h : encOk s k n = true) {i : Nat} (hi : i < n.toNat) : okQ (cutP k n.toNat (encS s k.toNat) i) = true := by
 obtain ⟨h1, h2, h3, h4⟩ := encOk_parts h
 have hb : (encS s k.toNat i).size = blen s.size k.toNat := txt_size _ _
 have hle := encS_le h i
 have hge : 1 ≤ (encS s k.toNat i).size := by
  rw [hb]
  have := blen_ge (s := s.size) (k := k.toNat) (by omega)
  rcases Nat.eq_zero_or_pos (blen s.size k.toNat) with e | e
  ·rw [e] at this; omega
  ·exact e
 have hk : kOk k ((n.toNat : Nat) : Int) (encS s k.toNat i) := ⟨by omega, by omega, by omega, hge, hle⟩
 show okP (rtS n.toNat (lvs k n.toNat (encS s k.toNat))) k ((n.toNat : Nat) : Int) (i : Int) (encS s k.toNat i) (pfR n.toNat (lvs k n.toNat (encS s k.toNat)) (i : Int)) (pfF n.toNat (lvs k n.toNat (encS s k.toNat)) (i : Int)) = true
 rw [okP_yes hk]
 refine pv_true ?_
 unfold pfB
 rw [Bool.and_eq_true]
 exact ⟨cut_lvB h, by unfold inT; exact decide_eq_true (by omega)⟩
theorem cut_all {s : ByteArray} {k n : Int} {i : Nat} (hi : i < cutR s k n) : okQ (cutP k n.toNat (encS s k.toNat) i) = true ∧ (cutP k n.toNat (encS s k.toNat) i).r = rof s k n ∧ (cutP k n.toNat (encS s k.toNat) i).i = (i : Int) := by
 unfold cutR at hi
 by_cases h : encOk s k n = true
 ·rw [if_pos h] at hi
  refine ⟨cut_ok h hi, ?_, rfl⟩
  unfold rof
  rw [if_pos h]
  rfl
 ·rw [if_neg h] at hi; omega
theorem cut_none {s : ByteArray} {k n : Int} (h : encOk s k n = false) : cutR s k n = 0 := by
 unfold cutR
 rw [h]
 rfl
theorem cut_few (s : ByteArray) (k n : Int) : cutR s k n ≤ 16 := by
 unfold cutR
 by_cases h : encOk s k n = true
 ·rw [if_pos h]
  have := encOk_parts h
  omega
 ·rw [if_neg h]; omega
theorem walk_FnCut (a0 : Option Addr) (len0 cap0 : Nat) (z0 : List Int) (w : World) (w0 : IsRow .u8 w a0 len0 cap0 z0) (hN : NumW w) (hE : ErrT w) (hT : TabOk w) :
  Calls Tryz.prog 3 #[.slice a0 len0 cap0] w fun e w' => e = .returned (.bool true) ∧ Below w.heap.size w w' := by
 by_cases h0 : 1048576 < len0
 ·clear w0
  have h0' : (1048576 : Int) < (len0 : Int) := by omega
  go_enter Tryz.func3, Tryz.ntmps3
  go_wp2_with (go_at_call 6; refine (big_any _ _ _ _).mono ?_; rintro e w' ⟨rfl, rfl⟩)
  go_ret
  exact ⟨rfl, Below.refl _ _⟩
 have hc := w0.code (by omega)
 have KI : Hid (∀ u W, u.size ≤ 1048576 → Below w.heap.size w W → Calls Tryz.prog 14 #[.string u] W fun e w' => RdA u W w' e ∧ Below W.heap.size W w') := fun u W hu hW => readPiece_any u W hu (hN.below hW) (hE.below hW) (hT.below hW)
 have KTb : Hid (∀ W, Below w.heap.size w W → TabOk W) := fun W hW => hT.below hW
 have HC : Hid (∀ W, Below w.heap.size w W → CodeAt W a0 len0) := fun W hW => hc.below hW
 clear w0 hN hE hT
 have h0' : ¬ (1048576 : Int) < (len0 : Int) := by omega
 go_enter Tryz.func3, Tryz.ntmps3
 go_wp2_with fail
 refine (big_any _ _ _ _).mono ?_
 rintro e w' ⟨rfl, hw⟩
 obtain rfl := hw.symm
 clear hw
 go_wp2_with fail
 refine (drawCut_any _ _ _ _ hc).mono ?_
 rintro e v1 ⟨s, x, y, hs, rfl, b1⟩
 have hs' : s.size ≤ 1048576 := by omega
 have B1 : Hid (Below w.heap.size w v1) := b1
 have K1 : Hid _ := pcut_any s x y v1 hs'
 have HAll : Hid (∀ i, i < cutR s x y → okQ (cutP x y.toNat (encS s x.toNat) i) = true ∧ (cutP x y.toNat (encS s x.toNat) i).r = rof s x y ∧ (cutP x y.toNat (encS s x.toNat) i).i = (i : Int)) := fun i hi => cut_all hi
 have HNo : Hid (encOk s x y = false → cutR s x y = 0) := cut_none
 have hN16 : cutR s x y ≤ 16 := cut_few s x y
 have KRi : Hid (∀ W, Calls Tryz.prog 10 #[.string s, .int .i64 x, .int .i64 y] W fun e w' => e = .returned (.string (rof s x y)) ∧ Below W.heap.size W w') := fun W => rootOf_any s x y W hs'
 have KRs : Hid (∀ W, Calls Tryz.prog 11 #[.string s, .int .i64 x, .int .i64 y] W fun e w' => e = .returned (.string (rof s x y)) ∧ Below W.heap.size W w') := fun W => sRootOf_any s x y W hs'
 have KS2 : Hid (∀ W, Calls Tryz.prog 9 #[.string s, .int .i64 x, .int .i64 y] W fun e w' => ∃ v, e = .returned (.tuple #[v, .bool (encOk s x y)]) ∧ ResP W w' v (cutR s x y) (cutP x y.toNat (encS s x.toNat)) ∧ Below W.heap.size W w') := fun W => sCut_any s x y W hs'
 obtain ⟨rt, HRt⟩ : ∃ r, Hid (rof s x y = r) := ⟨_, rfl⟩
 obtain ⟨ok, HOk⟩ : ∃ r, Hid (encOk s x y = r) := ⟨_, rfl⟩
 obtain ⟨N, HN⟩ : ∃ r, Hid (cutR s x y = r) := ⟨_, rfl⟩
 obtain ⟨P, HP⟩ : ∃ r, Hid (cutP x y.toNat (encS s x.toNat) = r) := ⟨_, rfl⟩
 rw [HRt.out, HN.out, HP.out] at HAll
 rw [HOk.out, HN.out] at HNo
 rw [HN.out] at hN16
 rw [HRt.out] at KRi KRs
 rw [HOk.out, HN.out, HP.out] at KS2 K1
 clear hc h0 h0' b1 hs hs' HRt HOk HN HP
 go_wp2_with fail
 refine Calls.mono K1.out ?_
 rintro e v2 ⟨v, rfl, ⟨g1, c1, A1, C1, rfl, O1⟩, b2⟩
 have K2 : Hid _ := KS2.out v2
 have HO1 : Hid (OwnP v2 v1.heap.size (some ⟨g1, 0, none⟩) N c1 A1 C1 P) := O1
 have B2 : Hid (Below w.heap.size w v2) := below2 B1.out b2
 clear O1 b2 K1 KS2
 go_wp2_with fail
 refine Calls.mono K2.out ?_
 rintro e v3 ⟨v, rfl, ⟨g2, c2, A2, C2, rfl, O2⟩, b3⟩
 have B3 : Hid (Below w.heap.size w v3) := below2 B2.out b3
 have HO1' : OwnP v3 v1.heap.size (some ⟨g1, 0, none⟩) N c1 A1 C1 P := HO1.out.below b3
 have HCel : Hid (∀ W, Below v3.heap.size v3 W → ∀ i, i < N → (∀ q, q < 6 → W.cell? ⟨g1, i * 6 + q, none⟩ = some (cel (P i) (.slice (A1 i) (P i).m (C1 i)) q)) ∧ (∀ q, q < 6 → W.cell? ⟨g2, i * 6 + q, none⟩ = some (cel (P i) (.slice (A2 i) (P i).m (C2 i)) q)) ∧ TxtAt W (A1 i) (P i).m (P i).S ∧ TxtAt W (A2 i) (P i).m (P i).S) := fun W hW i hi =>
  ⟨fun q hq => (HO1'.below hW).1.cell hi hq, fun q hq => (O2.below hW).1.cell hi hq, OwnT.at ((HO1'.below hW).2.1 i hi), OwnT.at ((O2.below hW).2.1 i hi)⟩
 have f1 : (ok != ok) = false := by simp
 have f2 : ((N : Int) != (N : Int)) = false := by simp
 have f3 : (rt.toList != rt.toList) = false := by simp
 clear HO1' O2 b3 K2 HO1
 go_wp2_with fail
 refine Calls.mono (KRi.out v3) ?_
 rintro e v4 ⟨rfl, b4⟩
 have D4 : Hid (Below v3.heap.size v3 v4) := b4
 clear b4
 go_wp2_with fail
 refine Calls.mono (KRs.out v4) ?_
 rintro e v5 ⟨rfl, b5⟩
 have D5 : Hid (Below v3.heap.size v3 v5) := below2 D4.out b5
 clear b5
 go_wp2_with fail
 go_loopw [10, 11, 12] (fun v10 v11 v12 wr => ∃ i : Nat, v10 = .int .i64 (i : Int) ∧ Hid (i ≤ N ∧ Below v3.heap.size v3 wr)) (fun v10 _ _ _ => N - (intOf v10).toNat)
 case atStart => exact ⟨0, rfl, Nat.zero_le _, D5.out⟩
 case round =>
  obtain ⟨i, rfl, HI⟩ := hrel
  have hiN := HI.out.1
  by_cases hlt : i < N
  ·have hli : (i : Int) < (N : Int) := by omega
   have hl0 : (0 : Int) ≤ (i : Int) := by omega
   have Dr : Hid (Below v3.heap.size v3 wr) := HI.out.2
   have hall := HAll.out i hlt
   have HCi : Hid (∀ W, Below v3.heap.size v3 W → (∀ q, q < 6 → W.cell? ⟨g1, i * 6 + q, none⟩ = some (cel (P i) (.slice (A1 i) (P i).m (C1 i)) q)) ∧ (∀ q, q < 6 → W.cell? ⟨g2, i * 6 + q, none⟩ = some (cel (P i) (.slice (A2 i) (P i).m (C2 i)) q)) ∧ TxtAt W (A1 i) (P i).m (P i).S ∧ TxtAt W (A2 i) (P i).m (P i).S) := fun W hW => HCel.out W hW i hlt
   obtain ⟨p, HP⟩ : ∃ r, Hid (P i = r) := ⟨_, rfl⟩
   obtain ⟨a1, HA1⟩ : ∃ r, Hid (A1 i = r) := ⟨_, rfl⟩
   obtain ⟨a2, HA2⟩ : ∃ r, Hid (A2 i = r) := ⟨_, rfl⟩
   obtain ⟨q1, HQ1⟩ : ∃ r, Hid (C1 i = r) := ⟨_, rfl⟩
   obtain ⟨q2, HQ2⟩ : ∃ r, Hid (C2 i = r) := ⟨_, rfl⟩
   rw [HP.out] at hall
   rw [HP.out, HA1.out, HA2.out, HQ1.out, HQ2.out] at HCi
   obtain ⟨hok, hrt, hidx⟩ := hall
   subst hrt
   have HOkp : Hid (okQ p = true) := hok
   have hpt := okP_parts (show okP p.r p.k p.n p.i p.b p.m p.S = true from hok)
   have hpm : p.m ≤ 1048576 := by omega
   have HTx : Hid (∀ W, Below v3.heap.size v3 W → TxtAt W a1 p.m p.S ∧ TxtAt W a2 p.m p.S) := fun W hW => (HCi.out W hW).2.2
   have HC1 : Hid (∀ W, Below v3.heap.size v3 W → W.cell? ⟨g1, i * 6, none⟩ = some (.string p.r) ∧ W.cell? ⟨g1, i * 6 + 1, none⟩ = some (.int .i64 p.k) ∧ W.cell? ⟨g1, i * 6 + 2, none⟩ = some (.int .i64 p.n) ∧ W.cell? ⟨g1, i * 6 + 3, none⟩ = some (.int .i64 (i : Int)) ∧ W.cell? ⟨g1, i * 6 + 4, none⟩ = some (.string p.b) ∧ W.cell? ⟨g1, i * 6 + 5, none⟩ = some (.slice a1 p.m q1)) := fun W hW => ⟨(HCi.out W hW).1 0 (by omega), (HCi.out W hW).1 1 (by omega), (HCi.out W hW).1 2 (by omega), (by rw [← hidx]; exact (HCi.out W hW).1 3 (by omega)), (HCi.out W hW).1 4 (by omega), (HCi.out W hW).1 5 (by omega)⟩
   have HC2 : Hid (∀ W, Below v3.heap.size v3 W → W.cell? ⟨g2, i * 6, none⟩ = some (.string p.r) ∧ W.cell? ⟨g2, i * 6 + 1, none⟩ = some (.int .i64 p.k) ∧ W.cell? ⟨g2, i * 6 + 2, none⟩ = some (.int .i64 p.n) ∧ W.cell? ⟨g2, i * 6 + 3, none⟩ = some (.int .i64 (i : Int)) ∧ W.cell? ⟨g2, i * 6 + 4, none⟩ = some (.string p.b) ∧ W.cell? ⟨g2, i * 6 + 5, none⟩ = some (.slice a2 p.m q2)) := fun W hW => ⟨(HCi.out W hW).2.1 0 (by omega), (HCi.out W hW).2.1 1 (by omega), (HCi.out W hW).2.1 2 (by omega), (by rw [← hidx]; exact (HCi.out W hW).2.1 3 (by omega)), (HCi.out W hW).2.1 4 (by omega), (HCi.out W hW).2.1 5 (by omega)⟩
   have HG : Hid (∀ d os, Below v3.heap.size v3 (grow (redrawn wr d) os)) := fun d os => below2 Dr.out (below_regrown wr d os)
   have KSm : Hid (∀ W b cb, Below v3.heap.size v3 W → TxtAt W b p.m p.S → ∀ c ct, TxtAt W c p.m p.S → Calls Tryz.prog 12 #[pcV p.r p.k p.n (i : Int) p.b (.slice b p.m cb), pcV p.r p.k p.n (i : Int) p.b (.slice c p.m ct)] W fun e w' => e = .returned (.bool true) ∧ Below W.heap.size W w') := fun W b cb _ hb c ct hc => samePc_same p.r p.k p.n (i : Int) p.b b c p.m cb ct p.S W hb hc hpm
   have KPo : Hid (∀ W, Below v3.heap.size v3 W → Calls Tryz.prog 13 #[pcV p.r p.k p.n (i : Int) p.b (.slice a1 p.m q1)] W fun e w' => e = .returned (.bool true) ∧ Below W.heap.size W w') := fun W hW => by
    have h1 := pieceOk_any p.r p.k p.n p.i p.b a1 p.m q1 p.S W (HTx.out W hW).1 hpm (ok_max HOkp.out)
    have h2 : okP p.r p.k p.n p.i p.b p.m p.S = true := HOkp.out
    rw [h2] at h1
    rw [← hidx]
    exact h1
   have KPt : Hid (∀ W, Below v3.heap.size v3 W → Calls Tryz.prog 15 #[pcV p.r p.k p.n (i : Int) p.b (.slice a1 p.m q1)] W fun e w' => e = .returned (.string (txQ p)) ∧ Below W.heap.size W w') := fun W hW => by rw [← hidx]; exact pieceText_any p.r p.k p.n p.i p.b a1 p.m q1 p.S W (HTx.out W hW).1 (sum_ok HOkp.out) (by omega) (by omega) (by omega) (KTb.out W (below2 B3.out hW))
   have HTz : Hid ((txQ p).size ≤ 1048576) := Nat.le_trans (text_short (show okP p.r p.k p.n p.i p.b p.m p.S = true from hok)) (by omega)
   have N1 : ∀ d os, Calls Tryz.prog 12 #[pcV p.r p.k p.n (i : Int) p.b (.slice a1 p.m q1), pcV p.r p.k p.n (i : Int) p.b (.slice a2 p.m q2)] (grow (redrawn wr d) os) fun e w' => e = .returned (.bool true) ∧ ∃ p : Regrown, w' = grow (redrawn wr p.d) p.os := fun d os => Calls.regrown_of (KSm.out _ a1 q1 (HG.out d os) (HTx.out _ (HG.out d os)).1 a2 q2 (HTx.out _ (HG.out d os)).2)
   have N2 : ∀ d os, Calls Tryz.prog 13 #[pcV p.r p.k p.n (i : Int) p.b (.slice a1 p.m q1)] (grow (redrawn wr d) os) fun e w' => e = .returned (.bool true) ∧ ∃ p : Regrown, w' = grow (redrawn wr p.d) p.os := fun d os => Calls.regrown_of (KPo.out _ (HG.out d os))
   have N3' : ∀ d os, Calls Tryz.prog 10 #[.string s, .int .i64 x, .int .i64 y] (grow (redrawn wr d) os) fun e w' => e = .returned (.string p.r) ∧ ∃ p : Regrown, w' = grow (redrawn wr p.d) p.os := fun d os => Calls.regrown_of (KRi.out _)
   have f5 : ((i : Int) != (i : Int)) = false := by simp
   have HIdx : Hid (p.i = (i : Int)) := hidx
   obtain ⟨y0, y1, y2, y3, y4, y5⟩ := HC1.out wr Dr.out
   obtain ⟨t0, t1, t2, t3, t4, t5⟩ := HC2.out wr Dr.out
   have X0 : ∀ d os, (grow (redrawn wr d) os).cell? ⟨g1, i * 6, none⟩ = _ := fun d os => cell_regrown y0 d os
   have X1 : ∀ d os, (grow (redrawn wr d) os).cell? ⟨g1, i * 6 + 1, none⟩ = _ := fun d os => cell_regrown y1 d os
   have X2 : ∀ d os, (grow (redrawn wr d) os).cell? ⟨g1, i * 6 + 2, none⟩ = _ := fun d os => cell_regrown y2 d os
   have X3 : ∀ d os, (grow (redrawn wr d) os).cell? ⟨g1, i * 6 + 3, none⟩ = _ := fun d os => cell_regrown y3 d os
   have X4 : ∀ d os, (grow (redrawn wr d) os).cell? ⟨g1, i * 6 + 4, none⟩ = _ := fun d os => cell_regrown y4 d os
   have X5 : ∀ d os, (grow (redrawn wr d) os).cell? ⟨g1, i * 6 + 5, none⟩ = _ := fun d os => cell_regrown y5 d os
   have Z0 : ∀ d os, (grow (redrawn wr d) os).cell? ⟨g2, i * 6, none⟩ = _ := fun d os => cell_regrown t0 d os
   have Z1 : ∀ d os, (grow (redrawn wr d) os).cell? ⟨g2, i * 6 + 1, none⟩ = _ := fun d os => cell_regrown t1 d os
   have Z2 : ∀ d os, (grow (redrawn wr d) os).cell? ⟨g2, i * 6 + 2, none⟩ = _ := fun d os => cell_regrown t2 d os
   have Z3 : ∀ d os, (grow (redrawn wr d) os).cell? ⟨g2, i * 6 + 3, none⟩ = _ := fun d os => cell_regrown t3 d os
   have Z4 : ∀ d os, (grow (redrawn wr d) os).cell? ⟨g2, i * 6 + 4, none⟩ = _ := fun d os => cell_regrown t4 d os
   have Z5 : ∀ d os, (grow (redrawn wr d) os).cell? ⟨g2, i * 6 + 5, none⟩ = _ := fun d os => cell_regrown t5 d os
   clear hok hidx hpt y0 y1 y2 y3 y4 y5 t0 t1 t2 t3 t4 t5 HI
   go_wp2_with fail
   refine wp_region_quiet_below (by kernel_rfl) (by kernel_rfl) ?_
   repeat (go_big_quiet_step (first | (with_reducible exact N1 _ _) | (with_reducible exact N2 _ _) | (with_reducible exact N3' _ _)))
   refine wpQuiet_nil ?_
   intro _ hw'
   obtain ⟨⟨dq, osq⟩, hw''⟩ := hw'
   subst hw''
   have D6' : Below v3.heap.size v3 (grow (redrawn wr dq) osq) := HG.out dq osq
   obtain ⟨v6, HV6⟩ : ∃ x, Hid (x = grow (redrawn wr dq) osq) := ⟨_, rfl⟩
   rw [← HV6.out] at D6'
   have D6 : Hid (Below v3.heap.size v3 v6) := D6'
   rw [← HV6.out]
   obtain ⟨y0, y1, y2, y3, y4, y5⟩ := HC1.out v6 D6.out
   clear X0 X1 X2 X3 X4 X5 Z0 Z1 Z2 Z3 Z4 Z5 N1 N2 N3' HG D6'
   go_wp2_with fail
   refine Calls.mono (KPt.out v6 D6.out) ?_
   rintro e v7 ⟨rfl, b7⟩
   have D7 : Hid (Below v3.heap.size v3 v7) := below2 D6.out b7
   have HRdp : Hid (RdS (txQ p) p true) := .inl ⟨rfl, HOkp.out, rfl⟩
   have K7 : Hid _ := KI.out (txQ p) v7 HTz.out (below2 B3.out D7.out)
   clear b7 y0 y1 y2 y3 y4 y5
   go_wp2_with fail
   refine Calls.mono K7.out ?_
   rintro e v8 ⟨⟨p8, c8, a8, cp8, rfl, O80, hRd8⟩, b8⟩
   obtain ⟨ep, ec, O8⟩ := rdS_as HRdp.out hRd8 O80
   subst ec
   rw [ep, HIdx.out]
   clear ep O80 hRd8
   obtain ⟨S8, HS8⟩ : ∃ x, Hid (x = v8.heap.size) := ⟨_, rfl⟩
   obtain ⟨v8', HV8⟩ : ∃ x, Hid (x = v8.alloc (.cells (pcC p.r p.k p.n (i : Int) p.b (.slice a8 p.m cp8)) 33)) := ⟨_, rfl⟩
   have b88 : Below v8.heap.size v8 v8' := by rw [HV8.out]; exact (Below.refl _ _).alloc (Nat.le_refl _) _
   have R8 : Hid (Row v8' S8 33 (pcC p.r p.k p.n (i : Int) p.b (.slice a8 p.m cp8))) := by show Row _ _ _ _; rw [HV8.out, HS8.out]; exact Row.new v8 _ _
   have T8 : Hid (TxtAt v8' a8 p.m p.S) := (OwnT.at O8).below b88
   have D8 : Hid (Below v3.heap.size v3 v8') := below2 D7.out (below2 b8 b88)
   have HG8 : Hid (∀ d os, Below v3.heap.size v3 (grow (redrawn v8' d) os)) := fun d os => below2 D8.out (below_regrown v8' d os)
   have M1 : ∀ d os, Calls Tryz.prog 12 #[pcV p.r p.k p.n (i : Int) p.b (.slice a8 p.m cp8), pcV p.r p.k p.n (i : Int) p.b (.slice a1 p.m q1)] (grow (redrawn v8' d) os) fun e w' => e = .returned (.bool true) ∧ ∃ p : Regrown, w' = grow (redrawn v8' p.d) p.os := fun d os => Calls.regrown_of (KSm.out _ a8 cp8 (HG8.out d os) (T8.out.below (below_regrown v8' d os)) a1 q1 (HTx.out _ (HG8.out d os)).1)
   obtain ⟨y0, y1, y2, y3, y4, y5⟩ := HC1.out v8' D8.out
   have k0 := R8.out.cell 0
   have k1 := R8.out.cell 1
   have k2 := R8.out.cell 2
   have k3 := R8.out.cell 3
   have k4 := R8.out.cell 4
   have k5 := R8.out.cell 5
   simp at k0 k1 k2 k3 k4 k5
   have X0 : ∀ d os, (grow (redrawn v8' d) os).cell? ⟨g1, i * 6, none⟩ = _ := fun d os => cell_regrown y0 d os
   have X1 : ∀ d os, (grow (redrawn v8' d) os).cell? ⟨g1, i * 6 + 1, none⟩ = _ := fun d os => cell_regrown y1 d os
   have X2 : ∀ d os, (grow (redrawn v8' d) os).cell? ⟨g1, i * 6 + 2, none⟩ = _ := fun d os => cell_regrown y2 d os
   have X3 : ∀ d os, (grow (redrawn v8' d) os).cell? ⟨g1, i * 6 + 3, none⟩ = _ := fun d os => cell_regrown y3 d os
   have X4 : ∀ d os, (grow (redrawn v8' d) os).cell? ⟨g1, i * 6 + 4, none⟩ = _ := fun d os => cell_regrown y4 d os
   have X5 : ∀ d os, (grow (redrawn v8' d) os).cell? ⟨g1, i * 6 + 5, none⟩ = _ := fun d os => cell_regrown y5 d os
   have Z0 : ∀ d os, (grow (redrawn v8' d) os).cell? ⟨S8, 0, none⟩ = _ := fun d os => cell_regrown k0 d os
   have Z1 : ∀ d os, (grow (redrawn v8' d) os).cell? ⟨S8, 1, none⟩ = _ := fun d os => cell_regrown k1 d os
   have Z2 : ∀ d os, (grow (redrawn v8' d) os).cell? ⟨S8, 2, none⟩ = _ := fun d os => cell_regrown k2 d os
   have Z3 : ∀ d os, (grow (redrawn v8' d) os).cell? ⟨S8, 3, none⟩ = _ := fun d os => cell_regrown k3 d os
   have Z4 : ∀ d os, (grow (redrawn v8' d) os).cell? ⟨S8, 4, none⟩ = _ := fun d os => cell_regrown k4 d os
   have Z5 : ∀ d os, (grow (redrawn v8' d) os).cell? ⟨S8, 5, none⟩ = _ := fun d os => cell_regrown k5 d os
   clear b8 b88 O8 K7 y0 y1 y2 y3 y4 y5 k0 k1 k2 k3 k4 k5
   go_wp2_with fail
   rw [← HV8.out, ← HS8.out]
   refine wp_region_quiet_below (by kernel_rfl) (by kernel_rfl) ?_
   repeat (go_big_quiet_step (first | (with_reducible exact M1 _ _)))
   refine wpQuiet_nil ?_
   intro _ hw'
   obtain ⟨⟨dq2, osq2⟩, hw''⟩ := hw'
   subst hw''
   have D9 : Hid (Below v3.heap.size v3 (grow (redrawn v8' dq2) osq2)) := HG8.out dq2 osq2
   clear X0 X1 X2 X3 X4 X5 Z0 Z1 Z2 Z3 Z4 Z5 M1 HG8
   go_wp2_with fail
   go_roundw
   case rel => exact ⟨i + 1, by go_num, by omega, D9.out⟩
   case measure => simp [intOf]; omega
  ·obtain rfl : i = N := by omega
   have hnn : ¬ (i : Int) < (i : Int) := by omega
   have Dr : Hid (Below v3.heap.size v3 wr) := HI.out.2
   have hc9 := HC.out wr (below2 B3.out Dr.out)
   clear HI HCel
   go_wp2_with fail
   refine (drawPieceLeaf_any _ _ _ _ hc9).mono ?_
   rintro e v9 ⟨k1, k2, k3, sb, hsb, rfl, b9⟩
   have B9 : Hid (Below w.heap.size w v9) := below2 B3.out (below2 Dr.out b9)
   clear b9 hc9
   go_wp2_with fail
   refine (pieceLeaf_any k1 k2 k3 sb v9 (by omega)).mono ?_
   rintro e v10 ⟨rfl, b10⟩
   have B10 : Hid (Below w.heap.size w v10) := below2 B9.out b10
   clear b10
   go_wp2_with fail
   refine (sPieceLeaf_any k1 k2 k3 sb v10 (by omega)).mono ?_
   rintro e v11 ⟨rfl, b11⟩
   have B11 : Hid (Below w.heap.size w v11) := below2 B10.out b11
   clear b11
   generalize plf k1 k2 k3 sb = tl
   have f6 : (tl.toList == tl.toList) = true := by simp
   cases ok with
   | true =>
    go_wp2
    go_ret
    exact ⟨rfl, B11.out⟩
   | false =>
    have hz : i = 0 := HNo.out rfl
    have f7 : ((i : Int) == 0) = true := by rw [hz]; rfl
    go_wp2
    go_ret
    exact ⟨rfl, B11.out⟩
end Go.Proofs.YtihklfkhjpnjkaaGreatDoor
