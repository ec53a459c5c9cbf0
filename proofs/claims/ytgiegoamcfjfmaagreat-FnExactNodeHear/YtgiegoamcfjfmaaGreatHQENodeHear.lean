/- For every input: the function NodeHear of the program answers as its model does, whatever the node and what it hears are; it leaves both as they were, and its answer owns its memory. No condition. -/
import Derived.Test.YtgiegoamcfjfmaaGreatH48
import Derived.Test.YtgiegoamcfjfmaaGreatH46
import Derived.Test.YtgiegoamcfjfmaaGreatH19
import Derived.Test.YtgiegoamcfjfmaaGreatH44
import Derived.Test.YtgiegoamcfjfmaaGreatH25
import Derived.Test.YtgiegoamcfjfmaaGreatH35
import Derived.Test.YtgiegoamcfjfmaaGreatH24
import Derived.Test.YtgiegoamcfjfmaaGreatRows
namespace Go.Proofs.YtgiegoamcfjfmaaGreat
set_option maxRecDepth 2000
open Go.ChangeShapes Go.WideShapes Go.ChangeAt Go.RowKit
/-- What stands in memory while the law is gone through. -/
structure NeF (w4 : World) (X0 X1 G bg : Nat) (id f : Int) (n gx : Nat) (y : Sy) (gy N gN d : Nat) (SG : Nat → Sl) (m : Nat) (sa : Option Addr) (sc : Nat) (YG : Nat → Sy) (W : World) : Prop where
  bw : Below w4.heap.size w4 W
  rx : Row W X0 34 #[.int .i64 id, .int .i64 f, .slice (some ⟨gx, 0, none⟩) n n]
  ry : Row W X1 41 (syC y (.slice (some ⟨gy, 0, none⟩) y.p.m y.p.m))
  rg : Row W G 34 #[.int .i64 id, .int .i64 f, .slice (some ⟨gN, 0, none⟩) N d]
  og : ∃ F1 F2 : Nat → Prop, Ow W bg (slsD N SG) (.slice (some ⟨gN, 0, none⟩) N d) F1 ∧ Ow W bg (sysD m YG) (.slice sa m sc) F2 ∧ (∀ x, F1 x → ¬ F2 x) ∧ ∀ x, F1 x ∨ F2 x → bg ≤ x ∧ x < G
section
variable {w4 W W' : World} {X0 X1 G bg : Nat} {id f : Int} {n gx : Nat} {y : Sy} {gy N gN d : Nat} {SG SH : Nat → Sl} {m : Nat} {sa : Option Addr} {sc : Nat} {YG YH : Nat → Sy}
theorem NeF.below (h : NeF w4 X0 X1 G bg id f n gx y gy N gN d SG m sa sc YG W) (hb : Below W.heap.size W W') : NeF w4 X0 X1 G bg id f n gx y gy N gN d SG m sa sc YG W' := by
  obtain ⟨F1, F2, o1, o2, hd, hl⟩ := h.og
  exact ⟨below2 h.bw hb, h.rx.below hb h.rx.lt, h.ry.below hb h.ry.lt, h.rg.below hb h.rg.lt, F1, F2, o1.below hb, o2.below hb, hd, hl⟩
theorem NeF.turn {F : Nat → Prop} (h : NeF w4 X0 X1 G bg id f n gx y gy N gN d SG m sa sc YG W) (ht : Trn W W' F) (hF : ∀ g, F g → w4.heap.size ≤ g ∧ g < bg ∧ g ≠ X0 ∧ g ≠ X1) (hG : bg ≤ G) : NeF w4 X0 X1 G bg id f n gx y gy N gN d SG m sa sc YG W' := by
  obtain ⟨F1, F2, o1, o2, hd, hl⟩ := h.og
  refine ⟨h.bw.trans (ht.below (fun g k => (hF g k).1) h.bw.size), (ht.block X0 h.rx.lt (fun k => (hF X0 k).2.2.1 rfl)).trans h.rx, (ht.block X1 h.ry.lt (fun k => (hF X1 k).2.2.2 rfl)).trans h.ry, (ht.block G h.rg.lt (fun k => by have := (hF G k).2.1; omega)).trans h.rg, F1, F2, o1.turned ht (fun g hg k => ?_), o2.turned ht (fun g hg k => ?_), hd, hl⟩
  · have h1 := hl g (.inl hg)
    have h2 := (hF g k).2.1
    omega
  · have h1 := hl g (.inr hg)
    have h2 := (hF g k).2.1
    omega
theorem NeF.marks (h : NeF w4 X0 X1 G bg id f n gx y gy N gN d SG m sa sc YG W) {F1 F2 F : Nat → Prop} (ht : Trn W W' F) (hF : ∀ g, F g → bg ≤ g ∧ g < G) (o1 : Ow W' bg (slsD N SH) (.slice (some ⟨gN, 0, none⟩) N d) F1) (o2 : Ow W' bg (sysD m YH) (.slice sa m sc) F2) (hd : ∀ x, F1 x → ¬ F2 x) (hl : ∀ x, F1 x ∨ F2 x → bg ≤ x ∧ x < G) (hb : w4.heap.size ≤ bg) (h0 : X0 < bg) (h1 : X1 < bg) : NeF w4 X0 X1 G bg id f n gx y gy N gN d SH m sa sc YH W' :=
  ⟨h.bw.trans (ht.below (fun g k => by have := hF g k; omega) h.bw.size), (ht.block X0 h.rx.lt (fun k => by have := hF X0 k; omega)).trans h.rx, (ht.block X1 h.ry.lt (fun k => by have := hF X1 k; omega)).trans h.ry, (ht.block G h.rg.lt (fun k => by have := hF G k; omega)).trans h.rg, F1, F2, o1, o2, hd, hl⟩
end
set_option maxHeartbeats 8000000 in
theorem walk_FnExactNodeHear (id f : Int) (a : Option Addr) (n c : Nat) (S : Nat → Sl) (y : Sy) (a9 : Option Addr) (c9 : Nat) (w : World) (w0 : Rd w (slsD n S) (.slice a n c) ∧ n ≤ maxLen ∧ ∀ i, i < n → SlB (S i)) (w1 : TxtAt w a9 y.p.m y.p.S ∧ SyB y) :
    Calls Tryz.prog 3 #[ndV id f (.slice a n c), syV y (.slice a9 y.p.m c9)] w fun e w' => e = .returned (.bool true) ∧ Below w.heap.size w w' := by
  obtain ⟨hT, hn, hB⟩ := w0
  obtain ⟨h9, hY⟩ := w1
  obtain ⟨B1, HB1⟩ : ∃ x, Hid (x = w.heap.size) := ⟨_, rfl⟩
  obtain ⟨B2, HB2⟩ : ∃ x, Hid (x = w.heap.size + 1) := ⟨_, rfl⟩
  obtain ⟨w0, HW0⟩ : ∃ x, Hid (x = (w.alloc (.cells #[.int .i64 id, .int .i64 f, .slice a n c] 24)).alloc (.cells (syC y (.slice a9 y.p.m c9)) 29)) := ⟨_, rfl⟩
  have HR0 : Hid (Row w0 B1 24 #[.int .i64 id, .int .i64 f, .slice a n c]) := by show Row _ _ _ _; rw [HW0.out, HB1.out]; exact Row.alloc (Row.new w _ _) _
  have HQ0 : Hid (Row w0 B2 29 (syC y (.slice a9 y.p.m c9))) := by
    show Row _ _ _ _
    rw [HW0.out, HB2.out]
    have := Row.new (w.alloc (.cells #[.int .i64 id, .int .i64 f, .slice a n c] 24)) (syC y (.slice a9 y.p.m c9)) 29
    simpa using this
  have hb0 : Below w.heap.size w w0 := by rw [HW0.out]; exact ((Below.refl _ _).alloc (Nat.le_refl _) _).alloc (by simp) _
  have KB0 : Hid (Below w.heap.size w w0) := hb0
  have KRd : Hid (∀ W, Below w.heap.size w W → Rd W (slsD n S) (.slice a n c)) := fun W hW => hT.below hW
  have KRt : Hid (∀ W, Below w.heap.size w W → TxtAt W a9 y.p.m y.p.S) := fun W hW => h9.below hW
  have KZ : Hid (Calls Tryz.prog 9 #[ndV id f (.slice a n c), .int .i64 ((1048576 : Nat) : Int)] w0 _) := szNd_any id f a n c S 1048576 w0 (hT.below hb0) (by omega) hn hB
  have KY : Hid (∀ (l : Nat) W, l ≤ 1048576 → Below w.heap.size w W → Calls Tryz.prog 10 #[syV y (.slice a9 y.p.m c9), .int .i64 (l : Int)] W fun e w' => e = .returned (.int .i64 (szN l (wtY y))) ∧ Below W.heap.size W w') := fun l W hl hW => szSy_any y a9 c9 l W (KRt.out W hW) hY hl
  clear hT hb0 hB hn h9 hY
  by_cases h0 : wtL n S ≤ 1048576
  case neg =>
    rw [szN_no h0] at KZ
    clear h0
    go_enter Tryz.func3, Tryz.ntmps3
    go_wp2_with (rw [← HW0.out, ← HB2.out, ← HB1.out]; refine wpList_load_row (by rfl) 24 _ (by rfl) B1 (by rfl) 24 #[.int .i64 id, .int .i64 f, .slice a n c] (0, 0) _ ?_ Tryz.underlying24 (by rfl) Tryz.infoNdL2 ?_; exact HR0.out)
    refine Calls.mono KZ.out ?_
    rintro e w1 ⟨rfl, b1⟩
    go_wp2
    go_ret
    exact ⟨rfl, below2 KB0.out b1⟩
  obtain ⟨left, hleft⟩ : ∃ q, 1048576 - wtL n S = q := ⟨_, rfl⟩
  rw [szN_yes h0, hleft] at KZ
  have neg0 : ¬ ((left : Int) < 0) := by omega
  have HLE : Hid (left ≤ 1048576) := by show left ≤ 1048576; omega
  by_cases h1 : wtY y ≤ left
  case neg =>
    have KY1 : Hid (∀ W, Below w.heap.size w W → Calls Tryz.prog 10 #[syV y (.slice a9 y.p.m c9), .int .i64 (left : Int)] W fun e w' => e = .returned (.int .i64 (-1)) ∧ Below W.heap.size W w') := fun W hW => by
      have := KY.out left W HLE.out hW
      rw [szN_no h1] at this
      exact this
    clear h0 h1 hleft
    go_enter Tryz.func3, Tryz.ntmps3
    go_wp2_with (rw [← HW0.out, ← HB2.out, ← HB1.out]; refine wpList_load_row (by rfl) 24 _ (by rfl) B1 (by rfl) 24 #[.int .i64 id, .int .i64 f, .slice a n c] (0, 0) _ ?_ Tryz.underlying24 (by rfl) Tryz.infoNdL2 ?_; exact HR0.out)
    refine Calls.mono KZ.out ?_
    rintro e w1 ⟨rfl, b1⟩
    have KB1 : Hid (Below w.heap.size w w1) := below2 KB0.out b1
    have HQ1 : Hid (Row w1 B2 29 (syC y (.slice a9 y.p.m c9))) := HQ0.out.below b1 HQ0.out.lt
    clear b1
    go_wp2_with (refine wpList_load_row (by rfl) 29 _ (by rfl) B2 (by rfl) 29 (syC y (.slice a9 y.p.m c9)) (0, 0) _ ?_ Tryz.underlying29 (by rfl) Tryz.infoSyL ?_; exact HQ1.out)
    refine Calls.mono (KY1.out _ KB1.out) ?_
    rintro e w2 ⟨rfl, b2⟩
    go_wp2
    go_ret
    exact ⟨rfl, below2 KB1.out b2⟩
  obtain ⟨left1, hleft1⟩ : ∃ q, left - wtY y = q := ⟨_, rfl⟩
  have neg1 : ¬ ((left1 : Int) < 0) := by omega
  have KY1 : Hid (∀ W, Below w.heap.size w W → Calls Tryz.prog 10 #[syV y (.slice a9 y.p.m c9), .int .i64 (left : Int)] W fun e w' => e = .returned (.int .i64 (left1 : Int)) ∧ Below W.heap.size W w') := fun W hW => by
    have := KY.out left W HLE.out hW
    rw [szN_yes h1, hleft1] at this
    exact this
  obtain ⟨hn1, hS, hK, hk⟩ := wtL_little (show wtL n S ≤ 1048576 by omega)
  have hwk : tot (fun i => wkS (S i)) n ≤ 12000000 := wk_small h0
  have hwy : wtY y ≤ 1048576 := by omega
  have hm1 : y.p.m ≤ 1048576 := by unfold wtY wtP at hwy; omega
  have hNB : NhB n S y := by
    unfold wtY wtP at hwy
    refine ⟨hn1, hK, by omega, by omega, by omega, by omega, fun i hi => ?_⟩
    have : (y.p.S i).size ≤ tot (fun j => (y.p.S j).size) y.p.m := tot_ge2 (g := fun j => (y.p.S j).size) hi
    omega
  have hL := nh_little (id := id) (f := f) hNB
  obtain ⟨N, HN⟩ : ∃ x, Hid (nhN id f n S y = x) := ⟨_, rfl⟩
  obtain ⟨SG, HSG⟩ : ∃ x, Hid (nhS id f n S y = x) := ⟨_, rfl⟩
  obtain ⟨m, HM⟩ : ∃ x, Hid (nhM id f n S y = x) := ⟨_, rfl⟩
  obtain ⟨YG, HYG⟩ : ∃ x, Hid (nhY id f n S y = x) := ⟨_, rfl⟩
  rw [HN.out, HSG.out, HM.out, HYG.out] at hL
  obtain ⟨mq, HMQ⟩ : ∃ x, 1 + tot (fun i => wkS (SG i)) N = x := ⟨_, rfl⟩
  obtain ⟨mr, HMR⟩ : ∃ x, ofy mq YG m = x := ⟨_, rfl⟩
  have hq1 : mq ≤ 40000000 := by have := hL.w; omega
  have hq2 : mr ≤ 40000000 := by have := hL.w; have := hL.m; have := ofy_none hL.p mq m; omega
  obtain ⟨k1, HK1⟩ : ∃ x, 1 + tot (fun i => wkS (S i)) n = x := ⟨_, rfl⟩
  obtain ⟨k2, HK2⟩ : ∃ x, k1 + y.p.m = x := ⟨_, rfl⟩
  have hmY : ∀ i, i < m → (YG i).p.m ≤ 1048576 := fun i _ => by rw [hL.p i]; omega
  have hm10 : m ≤ 1048576 := by have := hL.m; omega
  have KTo : Hid (∀ W, Rd W (slsD n S) (.slice a n c) → Calls Tryz.prog 12 #[ndV id f (.slice a n c)] W fun e w' => ∃ g, e = .returned (ndV id f (.slice (some ⟨g, 0, none⟩) n n)) ∧ Ow w' W.heap.size (slsD n S) (.slice (some ⟨g, 0, none⟩) n n) (rng W.heap.size w'.heap.size) ∧ Below W.heap.size W w') := fun W hW => toNd_any id f a n c S W hW hn1 hS
  have KTs : Hid (∀ W, TxtAt W a9 y.p.m y.p.S → Calls Tryz.prog 13 #[syV y (.slice a9 y.p.m c9)] W fun e w' => ∃ g, e = .returned (syV y (.slice (some ⟨g, 0, none⟩) y.p.m y.p.m)) ∧ Ow w' W.heap.size (txD y.p.m y.p.S) (.slice (some ⟨g, 0, none⟩) y.p.m y.p.m) (fun x => x = g) ∧ W.heap.size ≤ g ∧ g < w'.heap.size ∧ Below W.heap.size W w') := fun W hW => toSy_any y a9 c9 W hW hm1
  have KSp : Hid (∀ g g' W, Rd W (slsD n S) (.slice (some ⟨g, 0, none⟩) n n) → TxtAt W (some ⟨g', 0, none⟩) y.p.m y.p.S → Calls Tryz.prog 11 #[ndV id f (.slice (some ⟨g, 0, none⟩) n n), syV y (.slice (some ⟨g', 0, none⟩) y.p.m y.p.m)] W fun e w' => NhR W w' id f N SG m YG e) := fun g g' W h1 h2 => by
    have := sNodeHear_any id f (some ⟨g, 0, none⟩) n n S y (some ⟨g', 0, none⟩) y.p.m W h1 h2 hNB
    rw [HN.out, HSG.out, HM.out, HYG.out] at this
    exact this
  have KIm : Hid (∀ g g' W, Rd W (slsD n S) (.slice (some ⟨g, 0, none⟩) n n) → TxtAt W (some ⟨g', 0, none⟩) y.p.m y.p.S → Calls Tryz.prog 14 #[ndV id f (.slice (some ⟨g, 0, none⟩) n n), syV y (.slice (some ⟨g', 0, none⟩) y.p.m y.p.m)] W fun e w' => NhA W w' id f N SG m YG e) := fun g g' W h1 h2 => by
    have := nodeHear_any id f (some ⟨g, 0, none⟩) n n S y (some ⟨g', 0, none⟩) y.p.m W h1 h2 hNB
    rw [HN.out, HSG.out, HM.out, HYG.out] at this
    exact this
  have KEx : Hid (∀ a1 c1 a2 c2 W, Rd W (slsD n S) (.slice a1 n c1) → Rd W (slsD n S) (.slice a2 n c2) → Calls Tryz.prog 15 #[ndV id f (.slice a1 n c1), ndV id f (.slice a2 n c2)] W fun e w' => e = .returned (.bool true) ∧ Below W.heap.size W w') := fun a1 c1 a2 c2 W h1 h2 => eqNd_same id f a1 a2 n c1 c2 S W h1 h2 hn1 hS
  have KEy : Hid (∀ a1 c1 a2 c2 W, TxtAt W a1 y.p.m y.p.S → TxtAt W a2 y.p.m y.p.S → Calls Tryz.prog 17 #[syV y (.slice a1 y.p.m c1), syV y (.slice a2 y.p.m c2)] W fun e w' => e = .returned (.bool true) ∧ Below W.heap.size W w') := fun a1 c1 a2 c2 W h1 h2 => eqSy_same y a1 a2 c1 c2 W h1 h2 hm1
  have KEq : Hid (∀ a1 c1 a2 c2 W, Rd W (slsD N SG) (.slice a1 N c1) → Rd W (slsD N SG) (.slice a2 N c2) → Calls Tryz.prog 15 #[ndV id f (.slice a1 N c1), ndV id f (.slice a2 N c2)] W fun e w' => e = .returned (.bool true) ∧ Below W.heap.size W w') := fun a1 c1 a2 c2 W h1 h2 => eqNd_same id f a1 a2 N c1 c2 SG W h1 h2 hL.n hL.s
  have KEs : Hid (∀ a1 c1 a2 c2 W, Rd W (sysD m YG) (.slice a1 m c1) → Rd W (sysD m YG) (.slice a2 m c2) → Calls Tryz.prog 16 #[.slice a1 m c1, .slice a2 m c2] W fun e w' => e = .returned (.bool true) ∧ Below W.heap.size W w') := fun a1 c1 a2 c2 W h1 h2 => eqSys_same a1 a2 m c1 c2 YG W h1 h2 hm10 hmY
  have KM0 : Hid (∀ B a1 c1 F W, Ow W B (slsD n S) (.slice a1 n c1) F → Calls Tryz.prog 18 #[ndV id f (.slice a1 n c1), .int .i64 1] W fun e w' => e = .returned (.int .i64 (k1 : Int)) ∧ Trn W w' F) := fun B a1 c1 F W h => (markNdF_any id f B a1 n c1 S 1 k1 F W h hn1 hS HK1 (by omega)).mono fun e w' h => ⟨h.1, h.2.2⟩
  have KM1 : Hid (∀ B v F W, Ow W B (txD y.p.m y.p.S) v F → Calls Tryz.prog 19 #[syV y v, .int .i64 (k1 : Int)] W fun e w' => e = .returned (.int .i64 (k2 : Int)) ∧ Trn W w' F) := fun B v F W h => markSyO_any y B v k1 k2 F W h hm1 (by omega) HK2
  have KMk : Hid (∀ B a1 c1 F W, Ow W B (slsD N SG) (.slice a1 N c1) F → Calls Tryz.prog 18 #[ndV id f (.slice a1 N c1), .int .i64 1] W fun e w' => e = .returned (.int .i64 (mq : Int)) ∧ Ow w' B (slsD N (mkL 1 SG)) (.slice a1 N c1) F ∧ Trn W w' F) := fun B a1 c1 F W h => markNdF_any id f B a1 N c1 SG 1 mq F W h hL.n hL.s HMQ hq1
  have KMs : Hid (∀ B v F W, Ow W B (sysD m YG) v F → Calls Tryz.prog 20 #[v, .int .i64 (mq : Int)] W fun e w' => e = .returned (.int .i64 (mr : Int)) ∧ Ow w' B (sysD m (mkdY mq YG)) v F ∧ Trn W w' F) := fun B v F W h => by
    have := markD_sys B v m YG mq F W h hm10 hmY (by rw [HMR]; exact hq2)
    rw [HMR] at this
    exact this
  have KHe : Hid (∀ a1 c1 W, Rd W (slsD N (mkL 1 SG)) (.slice a1 N c1) → Calls Tryz.prog 21 #[ndV id f (.slice a1 N c1), .int .i64 1] W fun e w' => e = .returned (.int .i64 (mq : Int)) ∧ Below W.heap.size W w') := fun a1 c1 W h => heldNdF_any id f a1 N c1 SG 1 mq W h hL.n hL.s HMQ hq1
  have KHs : Hid (∀ a1 c1 W, Rd W (sysD m (mkdY mq YG)) (.slice a1 m c1) → Calls Tryz.prog 22 #[.slice a1 m c1, .int .i64 (mq : Int)] W fun e w' => e = .returned (.int .i64 (mr : Int)) ∧ Below W.heap.size W w') := fun a1 c1 W h => by
    have := heldSysF_any a1 m c1 YG mq W h hm10 hmY (by rw [HMR]; exact hq2)
    rw [HMR] at this
    exact this
  have nk : ¬ ((k2 : Int) < 0) := by omega
  have nq : ¬ ((mq : Int) < 0) := by omega
  have nr : ¬ ((mr : Int) < 0) := by omega
  have nrr : ((mr : Int) != (mr : Int)) = false := by simp
  clear h0 h1 hleft hleft1 hS hK hk hwk hwy hm1 hNB hL HN HSG HM HYG HMQ HMR hq1 hq2 HK1 HK2 hmY hm10 hn1 KY HLE
  go_enter Tryz.func3, Tryz.ntmps3
  go_wp2_with (rw [← HW0.out, ← HB2.out, ← HB1.out]; refine wpList_load_row (by rfl) 24 _ (by rfl) B1 (by rfl) 24 #[.int .i64 id, .int .i64 f, .slice a n c] (0, 0) _ ?_ Tryz.underlying24 (by rfl) Tryz.infoNdL2 ?_; exact HR0.out)
  refine Calls.mono KZ.out ?_
  rintro e w1 ⟨rfl, b1⟩
  have HR1 : Hid (Row w1 B1 24 #[.int .i64 id, .int .i64 f, .slice a n c]) := HR0.out.below b1 HR0.out.lt
  have HQ1 : Hid (Row w1 B2 29 (syC y (.slice a9 y.p.m c9))) := HQ0.out.below b1 HQ0.out.lt
  have KB1 : Hid (Below w.heap.size w w1) := below2 KB0.out b1
  clear b1 KZ HR0 HQ0 HW0 KB0 HB1 HB2
  go_wp2_with (refine wpList_load_row (by rfl) 29 _ (by rfl) B2 (by rfl) 29 (syC y (.slice a9 y.p.m c9)) (0, 0) _ ?_ Tryz.underlying29 (by rfl) Tryz.infoSyL ?_; exact HQ1.out)
  refine Calls.mono (KY1.out _ KB1.out) ?_
  rintro e w2 ⟨rfl, b2⟩
  have HR2 : Hid (Row w2 B1 24 #[.int .i64 id, .int .i64 f, .slice a n c]) := HR1.out.below b2 HR1.out.lt
  have HQ2 : Hid (Row w2 B2 29 (syC y (.slice a9 y.p.m c9))) := HQ1.out.below b2 HQ1.out.lt
  have KB2 : Hid (Below w.heap.size w w2) := below2 KB1.out b2
  clear b2 HR1 HQ1 KB1 KY1 neg0
  go_upto_region 8 with fail
  clear neg1
  go_cut [6, 7] from 27 to 34 (fun v6 v7 wx => Hid (∃ E a' c' sa sc, v6 = .pointer (some ⟨E, 0, none⟩) ∧ v7 = .slice sa m sc ∧ Row wx E 34 #[.int .i64 id, .int .i64 f, .slice a' N c'] ∧ Rd wx (slsD N SG) (.slice a' N c') ∧ Rd wx (sysD m YG) (.slice sa m sc) ∧ Below w2.heap.size w2 wx))
  case first =>
    have q_0 := HR2.out.cell 0
    have q_1 := HR2.out.cell 1
    have q_2 := HR2.out.cell 2
    have y_0 := HQ2.out.cell 0
    have y_1 := HQ2.out.cell 1
    have y_2 := HQ2.out.cell 2
    have y_3 := HQ2.out.cell 3
    have y_4 := HQ2.out.cell 4
    have y_5 := HQ2.out.cell 5
    have y_6 := HQ2.out.cell 6
    have y_7 := HQ2.out.cell 7
    have y_8 := HQ2.out.cell 8
    have y_9 := HQ2.out.cell 9
    simp at q_0 q_1 q_2 y_0 y_1 y_2 y_3 y_4 y_5 y_6 y_7 y_8 y_9
    have lB1 := HR2.out.lt
    have lB2 := HQ2.out.lt
    have KS : Hid (∀ W, Below w2.heap.size w2 W → (W.cell? ⟨B1, 0, none⟩ = some (.int .i64 id) ∧ W.cell? ⟨B1, 1, none⟩ = some (.int .i64 f) ∧ W.cell? ⟨B1, 2, none⟩ = some (.slice a n c)) ∧ W.cell? ⟨B2, 0, none⟩ = some (.int .i64 y.k) ∧ W.cell? ⟨B2, 1, none⟩ = some (.int .i64 y.f) ∧ W.cell? ⟨B2, 2, none⟩ = some (.int .i64 y.t) ∧ W.cell? ⟨B2, 3, none⟩ = some (.string y.r) ∧ W.cell? ⟨B2, 4, none⟩ = some (.string y.p.r) ∧ W.cell? ⟨B2, 5, none⟩ = some (.int .i64 y.p.k) ∧ W.cell? ⟨B2, 6, none⟩ = some (.int .i64 y.p.n) ∧ W.cell? ⟨B2, 7, none⟩ = some (.int .i64 y.p.i) ∧ W.cell? ⟨B2, 8, none⟩ = some (.string y.p.b) ∧ W.cell? ⟨B2, 9, none⟩ = some (.slice a9 y.p.m c9)) := fun W hW => ⟨⟨(hW.cell (p := ⟨B1, 0, none⟩) lB1).trans q_0, (hW.cell (p := ⟨B1, 1, none⟩) lB1).trans q_1, (hW.cell (p := ⟨B1, 2, none⟩) lB1).trans q_2⟩, (hW.cell (p := ⟨B2, 0, none⟩) lB2).trans y_0, (hW.cell (p := ⟨B2, 1, none⟩) lB2).trans y_1, (hW.cell (p := ⟨B2, 2, none⟩) lB2).trans y_2, (hW.cell (p := ⟨B2, 3, none⟩) lB2).trans y_3, (hW.cell (p := ⟨B2, 4, none⟩) lB2).trans y_4, (hW.cell (p := ⟨B2, 5, none⟩) lB2).trans y_5, (hW.cell (p := ⟨B2, 6, none⟩) lB2).trans y_6, (hW.cell (p := ⟨B2, 7, none⟩) lB2).trans y_7, (hW.cell (p := ⟨B2, 8, none⟩) lB2).trans y_8, (hW.cell (p := ⟨B2, 9, none⟩) lB2).trans y_9⟩
    have hdr : Below w2.heap.size w2 w2.drew := below_drew w2
    have hdA : Below w2.heap.size w2 (w2.alloc (.cells #[.int .i64 0, .int .i64 0, .slice none 0 0] 34)).drew := below2 (alN_below w2) (below_drew _)
    have hdB : Below w2.heap.size w2 w2 := Below.refl _ _
    have KBw : Hid (∀ W, Below w2.heap.size w2 W → Below w.heap.size w W) := fun W hW => below2 KB2.out hW
    clear y_0 y_1 y_2 y_3 y_4 y_5 y_6 y_7 y_8 y_9 q_0 q_1 q_2
    obtain ⟨⟨q0, q1, q2⟩, y0, y1, y2, y3, y4, y5, y6, y7, y8, y9⟩ := KS.out w2 (Below.refl _ _)
    go_region_held3 (fun w' => (w'.cell? ⟨B1, 0, none⟩ = some (.int .i64 id) ∧ w'.cell? ⟨B1, 1, none⟩ = some (.int .i64 f) ∧ w'.cell? ⟨B1, 2, none⟩ = some (.slice a n c)) ∧ w'.cell? ⟨B2, 0, none⟩ = some (.int .i64 y.k) ∧ w'.cell? ⟨B2, 1, none⟩ = some (.int .i64 y.f) ∧ w'.cell? ⟨B2, 2, none⟩ = some (.int .i64 y.t) ∧ w'.cell? ⟨B2, 3, none⟩ = some (.string y.r) ∧ w'.cell? ⟨B2, 4, none⟩ = some (.string y.p.r) ∧ w'.cell? ⟨B2, 5, none⟩ = some (.int .i64 y.p.k) ∧ w'.cell? ⟨B2, 6, none⟩ = some (.int .i64 y.p.n) ∧ w'.cell? ⟨B2, 7, none⟩ = some (.int .i64 y.p.i) ∧ w'.cell? ⟨B2, 8, none⟩ = some (.string y.p.b) ∧ w'.cell? ⟨B2, 9, none⟩ = some (.slice a9 y.p.m c9)) (exact KS.out _ (by with_reducible assumption)) ((first | (go_at_call 12; refine Calls.mono (KTo.out _ (KRd.out _ (KBw.out _ (by with_reducible assumption)))) ?_; rintro e v7 ⟨g7, rfl, O7, b7'⟩; have b7 : Below w2.heap.size w2 v7 := (by first | exact below2 hdr b7' | exact below2 hdA b7'); have b7A := below2 b7 (alN_below v7); have KO7 : Hid (Rd v7 (slsD n S) (.slice (some ⟨g7, 0, none⟩) n n)) := O7.rd; clear O7; (first | have RE7 := ReN.new hdB (below_of_drew b7') | skip); clear b7') | (guard_hyp b7; go_at_call 13; refine Calls.mono (KTs.out _ (KRt.out _ (KBw.out _ (by with_reducible assumption)))) ?_; rintro e v8 ⟨g8, rfl, O8, _, _, b8'⟩; have b8 : Below w2.heap.size w2 v8 := (by first | exact below2 b7 b8' | exact below2 b7A b8'); have b8A := below2 b8 (alN_below v8); have KO8 : Hid (Rd v8 (slsD n S) (.slice (some ⟨g7, 0, none⟩) n n)) := (by first | exact KO7.out.below b8' | exact (KO7.out.below (alN_below v7)).below b8'); have KP8 : Hid (TxtAt v8 (some ⟨g8, 0, none⟩) y.p.m y.p.S) := rd_txt.1 O8.rd; clear O8; (first | (guard_hyp RE7; have RE8 := RE7.below b8') | have RE8 := ReN.new b7 b8' | skip); clear b8') | (guard_hyp b8; go_at_call 11; refine Calls.mono (KSp.out _ _ _ (by first | exact KO8.out | exact KO8.out.below (alN_below _)) (by first | exact KP8.out | exact KP8.out.below (alN_below _))) ?_; rintro e v9 ⟨aE, cE, sE, dE, rfl, R1, R2, b9'⟩; have KR9 : Hid (Rf _ _ _ _) := R1; have KS9 : Hid (Rf _ _ _ _) := R2; clear R1 R2; have b9 : Below w2.heap.size w2 v9 := (by first | exact below2 b8 b9' | exact below2 b8A b9'); have b9A := below2 b9 (alN_below v9); (first | (guard_hyp RE8; have RE9 := RE8.below b9'; have FN : Hid _ := RE9.fin RE8.r.lt KR9.out KS9.out b9 id f (.slice aE N cE); obtain ⟨⟨i0, i1, i2⟩, i3, i4, i5⟩ := RE9.cells; clear RE9; have bS := FN.out.2.2.2) | (have RE9 := ReN.new b8 b9'; have FN : Hid _ := RE9.fin (alN_lt v8) KR9.out KS9.out b9 id f (.slice aE N cE); obtain ⟨⟨i0, i1, i2⟩, i3, i4, i5⟩ := RE9.cells; clear RE9; have bS := FN.out.2.2.2) | (have FN : Hid _ := fresh_fin KR9.out KS9.out b9 id f (.slice aE N cE); have bS := FN.out.2.2.2)); clear b9')))
    all_goals
      go_wp2_with fail
      go_meet
      exact ⟨_, aE, cE, sE, dE, rfl, rfl, FN.out⟩
  obtain ⟨E, aE, cE, sE, dE, rfl, rfl, hE, hR1, hR2, hb⟩ := hcut.out
  obtain ⟨w4, hw4⟩ : ∃ x, x = wc := ⟨_, rfl⟩
  subst hw4
  have HRB : Row w4 B1 24 #[.int .i64 id, .int .i64 f, .slice a n c] := HR2.out.below hb HR2.out.lt
  have HQB : Row w4 B2 29 (syC y (.slice a9 y.p.m c9)) := HQ2.out.below hb HQ2.out.lt
  have KB4 : Hid (Below w.heap.size w w4) := below2 KB2.out hb
  have KE : Hid (∀ W, Below w4.heap.size w4 W → Row W E 34 #[.int .i64 id, .int .i64 f, .slice aE N cE] ∧ Row W B1 24 #[.int .i64 id, .int .i64 f, .slice a n c] ∧ Row W B2 29 (syC y (.slice a9 y.p.m c9)) ∧ Rd W (slsD N SG) (.slice aE N cE) ∧ Rd W (sysD m YG) (.slice sE m dE) ∧ Rd W (slsD n S) (.slice a n c) ∧ TxtAt W a9 y.p.m y.p.S) := fun W hW => ⟨hE.below hW hE.lt, HRB.below hW HRB.lt, HQB.below hW HQB.lt, hR1.below hW, hR2.below hW, KRd.out _ (below2 KB4.out hW), KRt.out _ (below2 KB4.out hW)⟩
  have HR4 : Hid (Row w4 B1 24 #[.int .i64 id, .int .i64 f, .slice a n c]) := HRB
  have KTo4 : Hid _ := KTo.out w4 (KRd.out _ KB4.out)
  clear hcut hE hR1 hR2 hb HRB HQB HR2 HQ2 KB2
  go_wp2_with (refine wpList_load_row (by rfl) 24 _ (by rfl) B1 (by rfl) 24 #[.int .i64 id, .int .i64 f, .slice a n c] (0, 0) _ ?_ Tryz.underlying24 (by rfl) Tryz.infoNdL2 ?_; exact HR4.out)
  refine Calls.mono KTo4.out ?_
  rintro e w5 ⟨gx, rfl, O5, b5⟩
  obtain ⟨X0, HX0⟩ : ∃ x, Hid (x = w5.heap.size) := ⟨_, rfl⟩
  obtain ⟨w6, HW6⟩ : ∃ x, Hid (x = w5.alloc (.cells #[.int .i64 id, .int .i64 f, .slice (some ⟨gx, 0, none⟩) n n] 34)) := ⟨_, rfl⟩
  obtain ⟨ex, HEX⟩ : ∃ x, Hid (w5.heap.size = x) := ⟨_, rfl⟩
  have b56 : Below w5.heap.size w5 w6 := by rw [HW6.out]; exact (Below.refl _ _).alloc (Nat.le_refl _) _
  have KB6 : Hid (Below w4.heap.size w4 w6) := below2 b5 b56
  have HX6 : Hid (Row w6 X0 34 #[.int .i64 id, .int .i64 f, .slice (some ⟨gx, 0, none⟩) n n]) := by show Row _ _ _ _; rw [HW6.out, HX0.out]; exact Row.new w5 _ _
  have KO6 : Hid (Ow w6 w4.heap.size (slsD n S) (.slice (some ⟨gx, 0, none⟩) n n) (rng w4.heap.size ex)) := by rw [← HEX.out]; exact O5.below b56
  have HQ6 : Hid (Row w6 B2 29 (syC y (.slice a9 y.p.m c9))) := (KE.out _ KB6.out).2.2.1
  have KTs6 : Hid _ := KTs.out w6 (KE.out _ KB6.out).2.2.2.2.2.2
  have HLx : Hid (ex ≤ X0 ∧ X0 < w6.heap.size ∧ ex ≤ w6.heap.size ∧ w4.heap.size ≤ w6.heap.size) := ⟨by have := HX0.out; have := HEX.out; omega, HX6.out.lt, by rw [← HEX.out]; exact b56.size, KB6.out.size⟩
  clear b5 b56 O5 HR4 KTo4
  go_wp2_with (rw [← HW6.out, ← HX0.out]; refine wpList_load_row (by rfl) 29 _ (by rfl) B2 (by rfl) 29 (syC y (.slice a9 y.p.m c9)) (0, 0) _ ?_ Tryz.underlying29 (by rfl) Tryz.infoSyL ?_; exact HQ6.out)
  refine Calls.mono KTs6.out ?_
  rintro e w7 ⟨gy, rfl, O7, hg1, hg2, b7⟩
  obtain ⟨X1, HX1⟩ : ∃ x, Hid (x = w7.heap.size) := ⟨_, rfl⟩
  obtain ⟨w8, HW8⟩ : ∃ x, Hid (x = w7.alloc (.cells (syC y (.slice (some ⟨gy, 0, none⟩) y.p.m y.p.m)) 41)) := ⟨_, rfl⟩
  obtain ⟨bg, HBG⟩ : ∃ x, Hid (w8.heap.size = x) := ⟨_, rfl⟩
  have b78 : Below w7.heap.size w7 w8 := by rw [HW8.out]; exact (Below.refl _ _).alloc (Nat.le_refl _) _
  have b68 : Below w6.heap.size w6 w8 := below2 b7 b78
  have HX8 : Hid (Row w8 X0 34 #[.int .i64 id, .int .i64 f, .slice (some ⟨gx, 0, none⟩) n n]) := HX6.out.below b68 HX6.out.lt
  have HY8 : Hid (Row w8 X1 41 (syC y (.slice (some ⟨gy, 0, none⟩) y.p.m y.p.m))) := by show Row _ _ _ _; rw [HW8.out, HX1.out]; exact Row.new w7 _ _
  have KB8 : Hid (Below w4.heap.size w4 w8) := below2 KB6.out b68
  have KO8 : Hid (Ow w8 w4.heap.size (slsD n S) (.slice (some ⟨gx, 0, none⟩) n n) (rng w4.heap.size ex)) := KO6.out.below b68
  have KP8 : Hid (Ow w8 w6.heap.size (txD y.p.m y.p.S) (.slice (some ⟨gy, 0, none⟩) y.p.m y.p.m) (fun x => x = gy)) := O7.below b78
  have HLs : Hid ((∀ g, rng w4.heap.size ex g → w4.heap.size ≤ g ∧ g < bg ∧ g ≠ X0 ∧ g ≠ X1) ∧ (∀ g, g = gy → w4.heap.size ≤ g ∧ g < bg ∧ g ≠ X0 ∧ g ≠ X1) ∧ X0 < bg ∧ X1 < bg ∧ w4.heap.size ≤ bg ∧ (∀ g, rng w4.heap.size ex g → ¬ g = gy)) := by
    have l := HLx.out
    have h1 := HX1.out
    have h2 : X1 < bg := by rw [← HBG.out]; exact HY8.out.lt
    have h3 := b7.size
    refine ⟨fun g k => ?_, fun g k => ?_, by omega, h2, by omega, fun g k => ?_⟩
    · have k1 : w4.heap.size ≤ g := k.1
      have k2 : g < ex := k.2
      omega
    · have k1 : g = gy := k
      omega
    · have k2 : g < ex := k.2
      omega
  have KC8 : Hid _ := KIm.out gx gy w8 KO8.out.rd (rd_txt.1 KP8.out.rd)
  clear b7 b78 b68 O7 hg1 hg2 HX6 KB6 KO6 HQ6 KTs6 HLx HW6 HX0 HEX
  go_wp2_with (first | ((try rw [← HW8.out, ← HX1.out]); refine wpList_load_row (by rfl) 34 _ (by rfl) X0 (by rfl) 34 #[.int .i64 id, .int .i64 f, .slice (some ⟨gx, 0, none⟩) n n] (0, 0) _ ?_ Tryz.underlying34 (by rfl) Tryz.infoNd ?_; exact HX8.out) | (refine wpList_load_row (by rfl) 41 _ (by rfl) X1 (by rfl) 41 (syC y (.slice (some ⟨gy, 0, none⟩) y.p.m y.p.m)) (0, 0) _ ?_ Tryz.underlying41 (by rfl) Tryz.infoSy2 ?_; exact HY8.out))
  refine Calls.mono KC8.out ?_
  rintro e w9 ⟨gN, d, sa, sc, F1, F2, rfl, o1, o2, hd, b9⟩
  obtain ⟨G, HG⟩ : ∃ x, Hid (x = w9.heap.size) := ⟨_, rfl⟩
  obtain ⟨w10, HW10⟩ : ∃ x, Hid (x = w9.alloc (.cells #[.int .i64 id, .int .i64 f, .slice (some ⟨gN, 0, none⟩) N d] 34)) := ⟨_, rfl⟩
  have b910 : Below w9.heap.size w9 w10 := by rw [HW10.out]; exact (Below.refl _ _).alloc (Nat.le_refl _) _
  have b810 : Below w8.heap.size w8 w10 := below2 b9 b910
  have F10 : Hid (NeF w4 X0 X1 G bg id f n gx y gy N gN d SG m sa sc YG w10) := by
    refine ⟨below2 KB8.out b810, HX8.out.below b810 HX8.out.lt, HY8.out.below b810 HY8.out.lt, by rw [HW10.out, HG.out]; exact Row.new w9 _ _, _, _, (o1.cut.below b910).base (by rw [HBG.out]; exact Nat.le_refl _), (o2.cut.below b910).base (by rw [HBG.out]; exact Nat.le_refl _), fun x k1 k2 => hd x k1.1 k2.1, fun x k => ?_⟩
    rcases k with k | k
    · exact ⟨by rw [← HBG.out]; exact k.2.1, by rw [HG.out]; exact k.2.2⟩
    · exact ⟨by rw [← HBG.out]; exact k.2.1, by rw [HG.out]; exact k.2.2⟩
  have HLG : Hid (bg ≤ G) := by show bg ≤ G; rw [← HBG.out, HG.out]; exact b9.size
  have KO10 : Hid (Ow w10 w4.heap.size (slsD n S) (.slice (some ⟨gx, 0, none⟩) n n) (rng w4.heap.size ex)) := KO8.out.below b810
  have KP10 : Hid (∃ B, Ow w10 B (txD y.p.m y.p.S) (.slice (some ⟨gy, 0, none⟩) y.p.m y.p.m) (fun x => x = gy)) := ⟨_, KP8.out.below b810⟩
  have KEg : Hid (∀ W, NeF w4 X0 X1 G bg id f n gx y gy N gN d SG m sa sc YG W → Calls Tryz.prog 15 #[ndV id f (.slice (some ⟨gN, 0, none⟩) N d), ndV id f (.slice aE N cE)] W fun e w' => e = .returned (.bool true) ∧ Below W.heap.size W w') := fun W hF => by
    obtain ⟨_, _, o, _⟩ := hF.og
    exact KEq.out _ _ _ _ W o.rd (KE.out _ hF.bw).2.2.2.1
  have KEt : Hid (∀ W, NeF w4 X0 X1 G bg id f n gx y gy N gN d SG m sa sc YG W → Calls Tryz.prog 16 #[.slice sa m sc, .slice sE m dE] W fun e w' => e = .returned (.bool true) ∧ Below W.heap.size W w') := fun W hF => by
    obtain ⟨_, _, _, o, _⟩ := hF.og
    exact KEs.out _ _ _ _ W o.rd (KE.out _ hF.bw).2.2.2.2.1
  have RE10 : Hid _ := (KE.out _ F10.out.bw).1
  clear b9 b910 b810 o1 o2 hd HX8 HY8 KB8 KO8 KP8 KC8 HBG HW8 HX1
  go_wp2_with (first | ((try rw [← HW10.out, ← HG.out]); refine wpList_load_row (by rfl) 34 _ (by rfl) G (by rfl) 34 #[.int .i64 id, .int .i64 f, .slice (some ⟨gN, 0, none⟩) N d] (0, 0) _ ?_ Tryz.underlying34 (by rfl) Tryz.infoNd ?_; exact F10.out.rg) | (refine wpList_load_row (by rfl) 34 _ (by rfl) E (by rfl) 34 #[.int .i64 id, .int .i64 f, .slice aE N cE] (0, 0) _ ?_ Tryz.underlying34 (by rfl) Tryz.infoNd ?_; exact RE10.out))
  refine Calls.mono (KEg.out _ F10.out) ?_
  rintro e w11 ⟨rfl, b11⟩
  have F11 : Hid (NeF w4 X0 X1 G bg id f n gx y gy N gN d SG m sa sc YG w11) := F10.out.below b11
  have KO11 : Hid (Ow w11 w4.heap.size (slsD n S) (.slice (some ⟨gx, 0, none⟩) n n) (rng w4.heap.size ex)) := KO10.out.below b11
  have KP11 : Hid (∃ B, Ow w11 B (txD y.p.m y.p.S) (.slice (some ⟨gy, 0, none⟩) y.p.m y.p.m) (fun x => x = gy)) := by obtain ⟨B, o⟩ := KP10.out; exact ⟨B, o.below b11⟩
  clear b11 F10 KO10 KP10 HW10 HG RE10
  go_wp2_with fail
  refine Calls.mono (KEt.out _ F11.out) ?_
  rintro e w12 ⟨rfl, b12⟩
  have F12 : Hid (NeF w4 X0 X1 G bg id f n gx y gy N gN d SG m sa sc YG w12) := F11.out.below b12
  have KO12 : Hid (Ow w12 w4.heap.size (slsD n S) (.slice (some ⟨gx, 0, none⟩) n n) (rng w4.heap.size ex)) := KO11.out.below b12
  have KP12 : Hid (∃ B, Ow w12 B (txD y.p.m y.p.S) (.slice (some ⟨gy, 0, none⟩) y.p.m y.p.m) (fun x => x = gy)) := by obtain ⟨B, o⟩ := KP11.out; exact ⟨B, o.below b12⟩
  clear b12 F11 KO11 KP11
  go_upto_region 14 with fail
  go_cut [59] from 55 to 59 (fun v wx => Hid (v = .bool false ∧ Below w12.heap.size w12 wx))
  case first =>
    have RB := (KE.out _ F12.out.bw).2.1
    have q0 := RB.cell 0
    have q1 := RB.cell 1
    have q2 := RB.cell 2
    have y0 := F12.out.rx.cell 0
    have y1 := F12.out.rx.cell 1
    have y2 := F12.out.rx.cell 2
    simp at q0 q1 q2 y0 y1 y2
    have lB := RB.lt
    have lX := F12.out.rx.lt
    have KTP : Hid _ := KTo.out w12.drew (KE.out _ F12.out.bw).2.2.2.2.2.1.drew
    have KOr : Hid (Rd w12 (slsD n S) (.slice (some ⟨gx, 0, none⟩) n n)) := KO12.out.rd
    have KS : Hid (∀ W, Below w12.heap.size w12 W → (W.cell? ⟨B1, 0, none⟩ = some (.int .i64 id) ∧ W.cell? ⟨B1, 1, none⟩ = some (.int .i64 f) ∧ W.cell? ⟨B1, 2, none⟩ = some (.slice a n c)) ∧ W.cell? ⟨X0, 0, none⟩ = some (.int .i64 id) ∧ W.cell? ⟨X0, 1, none⟩ = some (.int .i64 f) ∧ W.cell? ⟨X0, 2, none⟩ = some (.slice (some ⟨gx, 0, none⟩) n n)) := fun W hW => ⟨⟨(hW.cell (p := ⟨B1, 0, none⟩) lB).trans q0, (hW.cell (p := ⟨B1, 1, none⟩) lB).trans q1, (hW.cell (p := ⟨B1, 2, none⟩) lB).trans q2⟩, (hW.cell (p := ⟨X0, 0, none⟩) lX).trans y0, (hW.cell (p := ⟨X0, 1, none⟩) lX).trans y1, (hW.cell (p := ⟨X0, 2, none⟩) lX).trans y2⟩
    go_region_held3 (fun w' => (w'.cell? ⟨B1, 0, none⟩ = some (.int .i64 id) ∧ w'.cell? ⟨B1, 1, none⟩ = some (.int .i64 f) ∧ w'.cell? ⟨B1, 2, none⟩ = some (.slice a n c)) ∧ w'.cell? ⟨X0, 0, none⟩ = some (.int .i64 id) ∧ w'.cell? ⟨X0, 1, none⟩ = some (.int .i64 f) ∧ w'.cell? ⟨X0, 2, none⟩ = some (.slice (some ⟨gx, 0, none⟩) n n)) (go_keep) ((first | (go_at_call 12; refine Calls.mono (KTP.out) ?_; rintro e v7 ⟨g7', rfl, O7, b7'⟩; have b7 := below_of_drew b7'; clear b7'; have KO7 : Hid (Rd v7 (slsD n S) (.slice (some ⟨g7', 0, none⟩) n n)) := O7.rd; clear O7; obtain ⟨⟨p0, p1, p2⟩, z0, z1, z2⟩ := KS.out _ b7) | (guard_hyp b7; go_at_call 15; refine Calls.mono (KEx.out _ n _ n _ (KOr.out.below b7) KO7.out) ?_; rintro e v8 ⟨rfl, b8⟩; have b78 := below2 b7 b8; obtain ⟨⟨s0, s1, s2⟩, t0, t1, t2⟩ := KS.out _ b78)))
    all_goals
      go_wp2_with fail
      go_meet
      exact ⟨rfl, b78⟩
  obtain ⟨rfl, bc⟩ := hcut.out
  obtain ⟨w13, hw13⟩ : ∃ x, x = wc := ⟨_, rfl⟩
  subst hw13
  have F13 : Hid (NeF w4 X0 X1 G bg id f n gx y gy N gN d SG m sa sc YG w13) := F12.out.below bc
  have KO13 : Hid (Ow w13 w4.heap.size (slsD n S) (.slice (some ⟨gx, 0, none⟩) n n) (rng w4.heap.size ex)) := KO12.out.below bc
  have KP13 : Hid (∃ B, Ow w13 B (txD y.p.m y.p.S) (.slice (some ⟨gy, 0, none⟩) y.p.m y.p.m) (fun x => x = gy)) := by obtain ⟨B, o⟩ := KP12.out; exact ⟨B, o.below bc⟩
  clear hcut bc F12 KO12 KP12
  go_upto_region 16 with fail
  go_cut [64] from 60 to 64 (fun v wx => Hid (v = .bool false ∧ Below w13.heap.size w13 wx))
  case first =>
    have RB := (KE.out _ F13.out.bw).2.2.1
    have q_0 := RB.cell 0
    have y_0 := F13.out.ry.cell 0
    have q_1 := RB.cell 1
    have y_1 := F13.out.ry.cell 1
    have q_2 := RB.cell 2
    have y_2 := F13.out.ry.cell 2
    have q_3 := RB.cell 3
    have y_3 := F13.out.ry.cell 3
    have q_4 := RB.cell 4
    have y_4 := F13.out.ry.cell 4
    have q_5 := RB.cell 5
    have y_5 := F13.out.ry.cell 5
    have q_6 := RB.cell 6
    have y_6 := F13.out.ry.cell 6
    have q_7 := RB.cell 7
    have y_7 := F13.out.ry.cell 7
    have q_8 := RB.cell 8
    have y_8 := F13.out.ry.cell 8
    have q_9 := RB.cell 9
    have y_9 := F13.out.ry.cell 9
    simp at q_0 y_0 q_1 y_1 q_2 y_2 q_3 y_3 q_4 y_4 q_5 y_5 q_6 y_6 q_7 y_7 q_8 y_8 q_9 y_9
    have lB := RB.lt
    have lX := F13.out.ry.lt
    have KRx : Rd w13 (txD y.p.m y.p.S) (.slice a9 y.p.m c9) := rd_txt.2 (KE.out _ F13.out.bw).2.2.2.2.2.2
    have KTP : Hid _ := KTs.out w13.drew (rd_txt.1 KRx.drew)
    clear KRx
    have KPr : Hid (TxtAt w13 (some ⟨gy, 0, none⟩) y.p.m y.p.S) := by obtain ⟨B, o⟩ := KP13.out; exact rd_txt.1 o.rd
    have KS : Hid (∀ W, Below w13.heap.size w13 W → (W.cell? ⟨B2, 0, none⟩ = some (.int .i64 y.k) ∧ W.cell? ⟨B2, 1, none⟩ = some (.int .i64 y.f) ∧ W.cell? ⟨B2, 2, none⟩ = some (.int .i64 y.t) ∧ W.cell? ⟨B2, 3, none⟩ = some (.string y.r) ∧ W.cell? ⟨B2, 4, none⟩ = some (.string y.p.r) ∧ W.cell? ⟨B2, 5, none⟩ = some (.int .i64 y.p.k) ∧ W.cell? ⟨B2, 6, none⟩ = some (.int .i64 y.p.n) ∧ W.cell? ⟨B2, 7, none⟩ = some (.int .i64 y.p.i) ∧ W.cell? ⟨B2, 8, none⟩ = some (.string y.p.b) ∧ W.cell? ⟨B2, 9, none⟩ = some (.slice a9 y.p.m c9)) ∧ W.cell? ⟨X1, 0, none⟩ = some (.int .i64 y.k) ∧ W.cell? ⟨X1, 1, none⟩ = some (.int .i64 y.f) ∧ W.cell? ⟨X1, 2, none⟩ = some (.int .i64 y.t) ∧ W.cell? ⟨X1, 3, none⟩ = some (.string y.r) ∧ W.cell? ⟨X1, 4, none⟩ = some (.string y.p.r) ∧ W.cell? ⟨X1, 5, none⟩ = some (.int .i64 y.p.k) ∧ W.cell? ⟨X1, 6, none⟩ = some (.int .i64 y.p.n) ∧ W.cell? ⟨X1, 7, none⟩ = some (.int .i64 y.p.i) ∧ W.cell? ⟨X1, 8, none⟩ = some (.string y.p.b) ∧ W.cell? ⟨X1, 9, none⟩ = some (.slice (some ⟨gy, 0, none⟩) y.p.m y.p.m)) := fun W hW => ⟨⟨(hW.cell (p := ⟨B2, 0, none⟩) lB).trans q_0, (hW.cell (p := ⟨B2, 1, none⟩) lB).trans q_1, (hW.cell (p := ⟨B2, 2, none⟩) lB).trans q_2, (hW.cell (p := ⟨B2, 3, none⟩) lB).trans q_3, (hW.cell (p := ⟨B2, 4, none⟩) lB).trans q_4, (hW.cell (p := ⟨B2, 5, none⟩) lB).trans q_5, (hW.cell (p := ⟨B2, 6, none⟩) lB).trans q_6, (hW.cell (p := ⟨B2, 7, none⟩) lB).trans q_7, (hW.cell (p := ⟨B2, 8, none⟩) lB).trans q_8, (hW.cell (p := ⟨B2, 9, none⟩) lB).trans q_9⟩, (hW.cell (p := ⟨X1, 0, none⟩) lX).trans y_0, (hW.cell (p := ⟨X1, 1, none⟩) lX).trans y_1, (hW.cell (p := ⟨X1, 2, none⟩) lX).trans y_2, (hW.cell (p := ⟨X1, 3, none⟩) lX).trans y_3, (hW.cell (p := ⟨X1, 4, none⟩) lX).trans y_4, (hW.cell (p := ⟨X1, 5, none⟩) lX).trans y_5, (hW.cell (p := ⟨X1, 6, none⟩) lX).trans y_6, (hW.cell (p := ⟨X1, 7, none⟩) lX).trans y_7, (hW.cell (p := ⟨X1, 8, none⟩) lX).trans y_8, (hW.cell (p := ⟨X1, 9, none⟩) lX).trans y_9⟩
    clear q_0 y_0 q_1 y_1 q_2 y_2 q_3 y_3 q_4 y_4 q_5 y_5 q_6 y_6 q_7 y_7 q_8 y_8 q_9 y_9
    obtain ⟨⟨q0, q1, q2, q3, q4, q5, q6, q7, q8, q9⟩, y0, y1, y2, y3, y4, y5, y6, y7, y8, y9⟩ := KS.out w13 (Below.refl _ _)
    have hdr : Below w13.heap.size w13 w13.drew := below_drew w13
    go_region_held3 (fun w' => (w'.cell? ⟨B2, 0, none⟩ = some (.int .i64 y.k) ∧ w'.cell? ⟨B2, 1, none⟩ = some (.int .i64 y.f) ∧ w'.cell? ⟨B2, 2, none⟩ = some (.int .i64 y.t) ∧ w'.cell? ⟨B2, 3, none⟩ = some (.string y.r) ∧ w'.cell? ⟨B2, 4, none⟩ = some (.string y.p.r) ∧ w'.cell? ⟨B2, 5, none⟩ = some (.int .i64 y.p.k) ∧ w'.cell? ⟨B2, 6, none⟩ = some (.int .i64 y.p.n) ∧ w'.cell? ⟨B2, 7, none⟩ = some (.int .i64 y.p.i) ∧ w'.cell? ⟨B2, 8, none⟩ = some (.string y.p.b) ∧ w'.cell? ⟨B2, 9, none⟩ = some (.slice a9 y.p.m c9)) ∧ w'.cell? ⟨X1, 0, none⟩ = some (.int .i64 y.k) ∧ w'.cell? ⟨X1, 1, none⟩ = some (.int .i64 y.f) ∧ w'.cell? ⟨X1, 2, none⟩ = some (.int .i64 y.t) ∧ w'.cell? ⟨X1, 3, none⟩ = some (.string y.r) ∧ w'.cell? ⟨X1, 4, none⟩ = some (.string y.p.r) ∧ w'.cell? ⟨X1, 5, none⟩ = some (.int .i64 y.p.k) ∧ w'.cell? ⟨X1, 6, none⟩ = some (.int .i64 y.p.n) ∧ w'.cell? ⟨X1, 7, none⟩ = some (.int .i64 y.p.i) ∧ w'.cell? ⟨X1, 8, none⟩ = some (.string y.p.b) ∧ w'.cell? ⟨X1, 9, none⟩ = some (.slice (some ⟨gy, 0, none⟩) y.p.m y.p.m)) (exact KS.out _ (by with_reducible assumption)) ((first | (go_at_call 13; refine Calls.mono (KTP.out) ?_; rintro e v7 ⟨g7', rfl, O7, _, _, b7'⟩; have b7 := below_of_drew b7'; clear b7'; have KO7 : Hid (TxtAt v7 (some ⟨g7', 0, none⟩) y.p.m y.p.S) := rd_txt.1 O7.rd; clear O7) | (guard_hyp b7; go_at_call 17; refine Calls.mono (KEy.out _ y.p.m _ y.p.m _ (KPr.out.below b7) KO7.out) ?_; rintro e v8 ⟨rfl, b8⟩; have b78 := below2 b7 b8; clear b8)))
    all_goals
      go_wp2_with fail
      go_meet
      exact ⟨rfl, b78⟩
  obtain ⟨rfl, bc⟩ := hcut.out
  obtain ⟨w14, hw14⟩ : ∃ x, x = wc := ⟨_, rfl⟩
  subst hw14
  have F14 : Hid (NeF w4 X0 X1 G bg id f n gx y gy N gN d SG m sa sc YG w14) := F13.out.below bc
  have KM14 : Hid _ := KM0.out w4.heap.size _ n _ w14 (KO13.out.below bc)
  have KP14 : Hid (∃ B, Ow w14 B (txD y.p.m y.p.S) (.slice (some ⟨gy, 0, none⟩) y.p.m y.p.m) (fun x => x = gy)) := by obtain ⟨B, o⟩ := KP13.out; exact ⟨B, o.below bc⟩
  clear hcut bc F13 KO13 KP13
  go_wp2_with (refine wpList_load_row (by rfl) 34 _ (by rfl) X0 (by rfl) 34 #[.int .i64 id, .int .i64 f, .slice (some ⟨gx, 0, none⟩) n n] (0, 0) _ ?_ Tryz.underlying34 (by rfl) Tryz.infoNd ?_; exact F14.out.rx)
  refine Calls.mono KM14.out ?_
  rintro e w15 ⟨rfl, T15⟩
  have F15 : Hid (NeF w4 X0 X1 G bg id f n gx y gy N gN d SG m sa sc YG w15) := F14.out.turn T15 HLs.out.1 HLG.out
  have KP15 : Hid (∃ B, Ow w15 B (txD y.p.m y.p.S) (.slice (some ⟨gy, 0, none⟩) y.p.m y.p.m) (fun x => x = gy)) := by obtain ⟨B, o⟩ := KP14.out; exact ⟨B, o.turned T15 (fun g h1 h2 => HLs.out.2.2.2.2.2 g h2 h1)⟩
  have KM15 : Hid (Calls Tryz.prog 19 #[syV y (.slice (some ⟨gy, 0, none⟩) y.p.m y.p.m), .int .i64 (k1 : Int)] w15 fun e w' => e = .returned (.int .i64 (k2 : Int)) ∧ NeF w4 X0 X1 G bg id f n gx y gy N gN d SG m sa sc YG w') := by
    obtain ⟨B, o⟩ := KP15.out
    refine (KM1.out B _ _ w15 o).mono ?_
    rintro e w' ⟨rfl, t⟩
    exact ⟨rfl, F15.out.turn t HLs.out.2.1 HLG.out⟩
  clear T15 F14 KM14 KP14 KP15
  go_wp2_with (refine wpList_load_row (by rfl) 41 _ (by rfl) X1 (by rfl) 41 (syC y (.slice (some ⟨gy, 0, none⟩) y.p.m y.p.m)) (0, 0) _ ?_ Tryz.underlying41 (by rfl) Tryz.infoSy2 ?_; exact F15.out.ry)
  refine Calls.mono KM15.out ?_
  rintro e w16 ⟨rfl, F16'⟩
  have F16 : Hid (NeF w4 X0 X1 G bg id f n gx y gy N gN d SG m sa sc YG w16) := F16'
  have RE16 := (KE.out _ F16.out.bw).1
  have r0 := F16.out.rg.cell 0
  have r1 := F16.out.rg.cell 1
  have r2 := F16.out.rg.cell 2
  have m0 := RE16.cell 0
  have m1 := RE16.cell 1
  have m2 := RE16.cell 2
  simp at r0 r1 r2 m0 m1 m2
  clear F16' F15 KM15 RE16
  go_wp2_with fail
  refine Calls.mono (KEg.out _ F16.out) ?_
  rintro e w17 ⟨rfl, b17⟩
  have F17 : Hid (NeF w4 X0 X1 G bg id f n gx y gy N gN d SG m sa sc YG w17) := F16.out.below b17
  clear b17 F16 r0 r1 r2 m0 m1 m2
  go_wp2_with fail
  refine Calls.mono (KEt.out _ F17.out) ?_
  rintro e w18 ⟨rfl, b18⟩
  have F18 : Hid (NeF w4 X0 X1 G bg id f n gx y gy N gN d SG m sa sc YG w18) := F17.out.below b18
  clear b18 F17
  have KM18 : Hid (Calls Tryz.prog 18 #[ndV id f (.slice (some ⟨gN, 0, none⟩) N d), .int .i64 1] w18 fun e w' => e = .returned (.int .i64 (mq : Int)) ∧ NeF w4 X0 X1 G bg id f n gx y gy N gN d (mkL 1 SG) m sa sc YG w') := by
    obtain ⟨F1, F2, o1, o2, hd, hl⟩ := F18.out.og
    refine (KMk.out bg _ d F1 w18 o1).mono ?_
    rintro e w' ⟨rfl, o', t'⟩
    exact ⟨rfl, F18.out.marks t' (fun g k => hl g (.inl k)) o' (o2.turned t' (fun g h2 h1 => hd g h1 h2)) hd hl HLs.out.2.2.2.2.1 HLs.out.2.2.1 HLs.out.2.2.2.1⟩
  go_wp2_with (refine wpList_load_row (by rfl) 34 _ (by rfl) G (by rfl) 34 #[.int .i64 id, .int .i64 f, .slice (some ⟨gN, 0, none⟩) N d] (0, 0) _ ?_ Tryz.underlying34 (by rfl) Tryz.infoNd ?_; exact F18.out.rg)
  refine Calls.mono KM18.out ?_
  rintro e w19 ⟨rfl, F19'⟩
  have F19 : Hid (NeF w4 X0 X1 G bg id f n gx y gy N gN d (mkL 1 SG) m sa sc YG w19) := F19'
  have KM19 : Hid (Calls Tryz.prog 20 #[.slice sa m sc, .int .i64 (mq : Int)] w19 fun e w' => e = .returned (.int .i64 (mr : Int)) ∧ NeF w4 X0 X1 G bg id f n gx y gy N gN d (mkL 1 SG) m sa sc (mkdY mq YG) w') := by
    obtain ⟨F1, F2, o1, o2, hd, hl⟩ := F19.out.og
    refine (KMs.out bg _ F2 w19 o2).mono ?_
    rintro e w' ⟨rfl, o', t'⟩
    exact ⟨rfl, F19.out.marks t' (fun g k => hl g (.inr k)) (o1.turned t' (fun g h1 h2 => hd g h1 h2)) o' hd hl HLs.out.2.2.2.2.1 HLs.out.2.2.1 HLs.out.2.2.2.1⟩
  clear F19' F18 KM18
  go_wp2_with fail
  refine Calls.mono KM19.out ?_
  rintro e w20 ⟨rfl, F20'⟩
  have F20 : Hid (NeF w4 X0 X1 G bg id f n gx y gy N gN d (mkL 1 SG) m sa sc (mkdY mq YG) w20) := F20'
  have KHg : Hid (∀ W, NeF w4 X0 X1 G bg id f n gx y gy N gN d (mkL 1 SG) m sa sc (mkdY mq YG) W → Calls Tryz.prog 21 #[ndV id f (.slice (some ⟨gN, 0, none⟩) N d), .int .i64 1] W fun e w' => e = .returned (.int .i64 (mq : Int)) ∧ Below W.heap.size W w') := fun W hF => by
    obtain ⟨_, _, o, _⟩ := hF.og
    exact KHe.out _ d W o.rd
  have KHt : Hid (∀ W, NeF w4 X0 X1 G bg id f n gx y gy N gN d (mkL 1 SG) m sa sc (mkdY mq YG) W → Calls Tryz.prog 22 #[.slice sa m sc, .int .i64 (mq : Int)] W fun e w' => e = .returned (.int .i64 (mr : Int)) ∧ Below W.heap.size W w') := fun W hF => by
    obtain ⟨_, _, _, o, _⟩ := hF.og
    exact KHs.out _ sc W o.rd
  clear F20' F19 KM19
  go_wp2_with (refine wpList_load_row (by rfl) 34 _ (by rfl) G (by rfl) 34 #[.int .i64 id, .int .i64 f, .slice (some ⟨gN, 0, none⟩) N d] (0, 0) _ ?_ Tryz.underlying34 (by rfl) Tryz.infoNd ?_; exact F20.out.rg)
  refine Calls.mono (KHg.out _ F20.out) ?_
  rintro e w21 ⟨rfl, b21⟩
  have F21 : Hid (NeF w4 X0 X1 G bg id f n gx y gy N gN d (mkL 1 SG) m sa sc (mkdY mq YG) w21) := F20.out.below b21
  clear b21 F20
  go_wp2_with fail
  refine Calls.mono (KHt.out _ F21.out) ?_
  rintro e w22 ⟨rfl, b22⟩
  have F22 : Hid (NeF w4 X0 X1 G bg id f n gx y gy N gN d (mkL 1 SG) m sa sc (mkdY mq YG) w22) := F21.out.below b22
  clear b22 F21
  go_upto_region 35 with fail
  go_cut [15, 16] from 104 to 111 (fun v6 v7 wx => Hid (∃ E a' c' sa sc, v6 = .pointer (some ⟨E, 0, none⟩) ∧ v7 = .slice sa m sc ∧ Row wx E 34 #[.int .i64 id, .int .i64 f, .slice a' N c'] ∧ Rd wx (slsD N SG) (.slice a' N c') ∧ Rd wx (sysD m YG) (.slice sa m sc) ∧ Below w22.heap.size w22 wx))
  case first =>
    have HRx : Hid (Row w22 B1 24 #[.int .i64 id, .int .i64 f, .slice a n c]) := (KE.out _ F22.out.bw).2.1
    have HQx : Hid (Row w22 B2 29 (syC y (.slice a9 y.p.m c9))) := (KE.out _ F22.out.bw).2.2.1
    have KBx : Hid (Below w.heap.size w w22) := below2 KB4.out F22.out.bw
    have q_0 := HRx.out.cell 0
    have q_1 := HRx.out.cell 1
    have q_2 := HRx.out.cell 2
    have y_0 := HQx.out.cell 0
    have y_1 := HQx.out.cell 1
    have y_2 := HQx.out.cell 2
    have y_3 := HQx.out.cell 3
    have y_4 := HQx.out.cell 4
    have y_5 := HQx.out.cell 5
    have y_6 := HQx.out.cell 6
    have y_7 := HQx.out.cell 7
    have y_8 := HQx.out.cell 8
    have y_9 := HQx.out.cell 9
    simp at q_0 q_1 q_2 y_0 y_1 y_2 y_3 y_4 y_5 y_6 y_7 y_8 y_9
    have lB1 := HRx.out.lt
    have lB2 := HQx.out.lt
    have KS : Hid (∀ W, Below w22.heap.size w22 W → (W.cell? ⟨B1, 0, none⟩ = some (.int .i64 id) ∧ W.cell? ⟨B1, 1, none⟩ = some (.int .i64 f) ∧ W.cell? ⟨B1, 2, none⟩ = some (.slice a n c)) ∧ W.cell? ⟨B2, 0, none⟩ = some (.int .i64 y.k) ∧ W.cell? ⟨B2, 1, none⟩ = some (.int .i64 y.f) ∧ W.cell? ⟨B2, 2, none⟩ = some (.int .i64 y.t) ∧ W.cell? ⟨B2, 3, none⟩ = some (.string y.r) ∧ W.cell? ⟨B2, 4, none⟩ = some (.string y.p.r) ∧ W.cell? ⟨B2, 5, none⟩ = some (.int .i64 y.p.k) ∧ W.cell? ⟨B2, 6, none⟩ = some (.int .i64 y.p.n) ∧ W.cell? ⟨B2, 7, none⟩ = some (.int .i64 y.p.i) ∧ W.cell? ⟨B2, 8, none⟩ = some (.string y.p.b) ∧ W.cell? ⟨B2, 9, none⟩ = some (.slice a9 y.p.m c9)) := fun W hW => ⟨⟨(hW.cell (p := ⟨B1, 0, none⟩) lB1).trans q_0, (hW.cell (p := ⟨B1, 1, none⟩) lB1).trans q_1, (hW.cell (p := ⟨B1, 2, none⟩) lB1).trans q_2⟩, (hW.cell (p := ⟨B2, 0, none⟩) lB2).trans y_0, (hW.cell (p := ⟨B2, 1, none⟩) lB2).trans y_1, (hW.cell (p := ⟨B2, 2, none⟩) lB2).trans y_2, (hW.cell (p := ⟨B2, 3, none⟩) lB2).trans y_3, (hW.cell (p := ⟨B2, 4, none⟩) lB2).trans y_4, (hW.cell (p := ⟨B2, 5, none⟩) lB2).trans y_5, (hW.cell (p := ⟨B2, 6, none⟩) lB2).trans y_6, (hW.cell (p := ⟨B2, 7, none⟩) lB2).trans y_7, (hW.cell (p := ⟨B2, 8, none⟩) lB2).trans y_8, (hW.cell (p := ⟨B2, 9, none⟩) lB2).trans y_9⟩
    have hdr : Below w22.heap.size w22 w22.drew := below_drew w22
    have hdA : Below w22.heap.size w22 (w22.alloc (.cells #[.int .i64 0, .int .i64 0, .slice none 0 0] 34)).drew := below2 (alN_below w22) (below_drew _)
    have hdB : Below w22.heap.size w22 w22 := Below.refl _ _
    have KBw : Hid (∀ W, Below w22.heap.size w22 W → Below w.heap.size w W) := fun W hW => below2 KBx.out hW
    clear y_0 y_1 y_2 y_3 y_4 y_5 y_6 y_7 y_8 y_9 q_0 q_1 q_2
    obtain ⟨⟨q0, q1, q2⟩, y0, y1, y2, y3, y4, y5, y6, y7, y8, y9⟩ := KS.out w22 (Below.refl _ _)
    go_region_held3 (fun w' => (w'.cell? ⟨B1, 0, none⟩ = some (.int .i64 id) ∧ w'.cell? ⟨B1, 1, none⟩ = some (.int .i64 f) ∧ w'.cell? ⟨B1, 2, none⟩ = some (.slice a n c)) ∧ w'.cell? ⟨B2, 0, none⟩ = some (.int .i64 y.k) ∧ w'.cell? ⟨B2, 1, none⟩ = some (.int .i64 y.f) ∧ w'.cell? ⟨B2, 2, none⟩ = some (.int .i64 y.t) ∧ w'.cell? ⟨B2, 3, none⟩ = some (.string y.r) ∧ w'.cell? ⟨B2, 4, none⟩ = some (.string y.p.r) ∧ w'.cell? ⟨B2, 5, none⟩ = some (.int .i64 y.p.k) ∧ w'.cell? ⟨B2, 6, none⟩ = some (.int .i64 y.p.n) ∧ w'.cell? ⟨B2, 7, none⟩ = some (.int .i64 y.p.i) ∧ w'.cell? ⟨B2, 8, none⟩ = some (.string y.p.b) ∧ w'.cell? ⟨B2, 9, none⟩ = some (.slice a9 y.p.m c9)) (exact KS.out _ (by with_reducible assumption)) ((first | (go_at_call 12; refine Calls.mono (KTo.out _ (KRd.out _ (KBw.out _ (by with_reducible assumption)))) ?_; rintro e v7 ⟨g7, rfl, O7, b7'⟩; have b7 : Below w22.heap.size w22 v7 := (by first | exact below2 hdr b7' | exact below2 hdA b7'); have b7A := below2 b7 (alN_below v7); have KO7 : Hid (Rd v7 (slsD n S) (.slice (some ⟨g7, 0, none⟩) n n)) := O7.rd; clear O7; (first | have RE7 := ReN.new hdB (below_of_drew b7') | skip); clear b7') | (guard_hyp b7; go_at_call 13; refine Calls.mono (KTs.out _ (KRt.out _ (KBw.out _ (by with_reducible assumption)))) ?_; rintro e v8 ⟨g8, rfl, O8, _, _, b8'⟩; have b8 : Below w22.heap.size w22 v8 := (by first | exact below2 b7 b8' | exact below2 b7A b8'); have b8A := below2 b8 (alN_below v8); have KO8 : Hid (Rd v8 (slsD n S) (.slice (some ⟨g7, 0, none⟩) n n)) := (by first | exact KO7.out.below b8' | exact (KO7.out.below (alN_below v7)).below b8'); have KP8 : Hid (TxtAt v8 (some ⟨g8, 0, none⟩) y.p.m y.p.S) := rd_txt.1 O8.rd; clear O8; (first | (guard_hyp RE7; have RE8 := RE7.below b8') | have RE8 := ReN.new b7 b8' | skip); clear b8') | (guard_hyp b8; go_at_call 14; refine Calls.mono (KIm.out _ _ _ (by first | exact KO8.out | exact KO8.out.below (alN_below _)) (by first | exact KP8.out | exact KP8.out.below (alN_below _))) ?_; rintro e v9 ⟨gH, cE, sE, dE, F1, F2, rfl, o1, o2, _, b9'⟩; have KR9 : Hid (Rf _ _ _ _) := Rf.own o1; have KS9 : Hid (Rf _ _ _ _) := Rf.own o2; clear o1 o2; have b9 : Below w22.heap.size w22 v9 := (by first | exact below2 b8 b9' | exact below2 b8A b9'); have b9A := below2 b9 (alN_below v9); (first | (guard_hyp RE8; have RE9 := RE8.below b9'; have FN : Hid _ := RE9.fin RE8.r.lt KR9.out KS9.out b9 id f (.slice (some ⟨gH, 0, none⟩) N cE); obtain ⟨⟨i0, i1, i2⟩, i3, i4, i5⟩ := RE9.cells; clear RE9; have bS := FN.out.2.2.2) | (have RE9 := ReN.new b8 b9'; have FN : Hid _ := RE9.fin (alN_lt v8) KR9.out KS9.out b9 id f (.slice (some ⟨gH, 0, none⟩) N cE); obtain ⟨⟨i0, i1, i2⟩, i3, i4, i5⟩ := RE9.cells; clear RE9; have bS := FN.out.2.2.2) | (have FN : Hid _ := fresh_fin KR9.out KS9.out b9 id f (.slice (some ⟨gH, 0, none⟩) N cE); have bS := FN.out.2.2.2)); clear b9')))
    all_goals
      go_wp2_with fail
      go_meet
      exact ⟨_, (some ⟨gH, 0, none⟩), cE, sE, dE, rfl, rfl, FN.out⟩
  obtain ⟨H, aH, cH, sH, dH, rfl, rfl, hH, hR1, hR2, hb⟩ := hcut.out
  obtain ⟨w23, hw23⟩ : ∃ x, x = wc := ⟨_, rfl⟩
  subst hw23
  have F23 : Hid (NeF w4 X0 X1 G bg id f n gx y gy N gN d (mkL 1 SG) m sa sc (mkdY mq YG) w23) := F22.out.below hb
  have RH : Hid (Row w23 H 34 #[.int .i64 id, .int .i64 f, .slice aH N cH]) := hH
  have RE23 : Hid _ := (KE.out _ F23.out.bw).1
  have KQ : Hid _ := KEq.out aH cH aE cE w23 hR1 (KE.out _ F23.out.bw).2.2.2.1
  have KR23 : Hid (Rd w23 (sysD m YG) (.slice sH m dH)) := hR2
  clear hcut hH hR1 hR2 hb F22
  go_wp2_with (first | (refine wpList_load_row (by rfl) 34 _ (by rfl) H (by rfl) 34 #[.int .i64 id, .int .i64 f, .slice aH N cH] (0, 0) _ ?_ Tryz.underlying34 (by rfl) Tryz.infoNd ?_; exact RH.out) | (refine wpList_load_row (by rfl) 34 _ (by rfl) E (by rfl) 34 #[.int .i64 id, .int .i64 f, .slice aE N cE] (0, 0) _ ?_ Tryz.underlying34 (by rfl) Tryz.infoNd ?_; exact RE23.out))
  refine Calls.mono KQ.out ?_
  rintro e w24 ⟨rfl, b24⟩
  have F24 : Hid (NeF w4 X0 X1 G bg id f n gx y gy N gN d (mkL 1 SG) m sa sc (mkdY mq YG) w24) := F23.out.below b24
  have KQs : Hid _ := KEs.out sH dH sE dE w24 (KR23.out.below b24) (KE.out _ F24.out.bw).2.2.2.2.1
  clear b24 F23 RH RE23 KQ KR23
  go_wp2_with fail
  refine Calls.mono KQs.out ?_
  rintro e w25 ⟨rfl, b25⟩
  have F25 : Hid (NeF w4 X0 X1 G bg id f n gx y gy N gN d (mkL 1 SG) m sa sc (mkdY mq YG) w25) := F24.out.below b25
  clear b25 F24 KQs
  go_wp2_with (refine wpList_load_row (by rfl) 34 _ (by rfl) G (by rfl) 34 #[.int .i64 id, .int .i64 f, .slice (some ⟨gN, 0, none⟩) N d] (0, 0) _ ?_ Tryz.underlying34 (by rfl) Tryz.infoNd ?_; exact F25.out.rg)
  refine Calls.mono (KHg.out _ F25.out) ?_
  rintro e w26 ⟨rfl, b26⟩
  have F26 : Hid (NeF w4 X0 X1 G bg id f n gx y gy N gN d (mkL 1 SG) m sa sc (mkdY mq YG) w26) := F25.out.below b26
  clear b26 F25
  go_wp2_with fail
  refine Calls.mono (KHt.out _ F26.out) ?_
  rintro e w27 ⟨rfl, b27⟩
  have KF : Hid (Below w.heap.size w w27) := below2 KB4.out (below2 F26.out.bw b27)
  clear b27 F26
  go_wp2
  go_ret
  exact ⟨rfl, KF.out⟩
end Go.Proofs.YtgiegoamcfjfmaaGreat
namespace Go.Proofs.YtgiegoamcfjfmaaGreat.fnExactNodeHear
open Go.ChangeShapes Go.WideShapes Go.ChangeAt Go.RowKit
open Go.ChangeMaps (open_string shut_string)
set_option linter.unusedVariables false
theorem own : ownKnob Tryz.prog.godebug = none := by kernel_rfl
theorem laidOut : laidOutB Tryz.prog = true := by kernel_rfl
set_option maxRecDepth 100000 in
theorem lifted (os : Os) (started : os.Started) (H : Type) (enc : TypeId × Value → H) :
    ReturnsInHanded {} Tryz.checked os 3 .any (Rows.fnExactNodeHearSpec.pre6 enc Tryz.prog Tryz.f3 Rows.fnExactNodeHearRow.domain false) (Rows.fnExactNodeHearSpec.post enc Tryz.prog Tryz.f3 false true false false) := by
  refine returnsInHanded_of_change (C := Tryz.checked) own started (by kernel_rfl) Tryz.func3
    (ChangeSpec.witness6 (enc := enc) (C := Tryz.checked) false ⟨#[], #[.agg #[.int .i64 0, .int .i64 0, .slice none 0 0], .agg #[.int .i64 0, .int .i64 0, .int .i64 0, .string ByteArray.empty, .string ByteArray.empty, .int .i64 0, .int .i64 0, .int .i64 0, .string ByteArray.empty, .slice none 0 0]], []⟩ 8 (by kernel_rfl) (by kernel_rfl) (by kernel_rfl) (by kernel_rfl)) ?_
  intro W base args ds gs before hval0 hW hcnd _
  have hval : ∀ (j : Nat) t v, Tryz.f3.params[j]? = some t → args[j]? = some v → Value.okWide Tryz.prog W .any base t v := hval0
  have hW' := hW
  obtain ⟨p, q, hA0, hV, rfl, hfz, hnd⟩ := hW
  have hA : DataW.TrodAll enc Tryz.prog W 0 (fun _ => true) true Tryz.f3.params.toList args.toList ds p := hA0
  rw [Tryz.params3] at hA hval
  obtain ⟨v0, vs0, d0, ds0, p0, q0, hargs, rfl, rfl, h0, r0⟩ := trodAll_cons hA
  obtain ⟨v1, vs1, d1, ds1, p1, q1, rfl, rfl, rfl, h1, r1⟩ := trodAll_cons r0
  obtain ⟨rfl, rfl, rfl⟩ := trodAll_nil r1
  obtain rfl : args = #[v0, v1] := by cases args; simp_all
  obtain ⟨rfl, rfl⟩ := trodVars_none hV
  obtain ⟨cs0, rfl, _, _⟩ : ∃ cs, v0 = .agg cs ∧ cs.size = Tryz.prog.cellsOf 24 ∧ Row.okWide Tryz.prog W .any base 24 cs := by
    have := hval 0 24 v0 rfl rfl
    simpa [Value.okWide, Tryz.underlying24] using this
  have k0 := h0
  have lt0 : ∀ x ∈ p0, x.block < W.heap.size := by obtain ⟨m, hm⟩ := k0; exact DataW.trod_lt m _ _ _ hm
  obtain ⟨r0i, r0f, r0a, r0m, r0c, r0S, hcs0, w0⟩ : ∃ (id f : Int) (a : Option Addr) (n c : Nat) (S : Nat → Sl), cs0.toList = [.int .i64 id, .int .i64 f, .slice a n c] ∧ Rd W (slsD n S) (.slice a n c) ∧ n ≤ maxLen ∧ ∀ i, i < n → SlB (S i) := by
    obtain ⟨fuel, hf⟩ := h0
    exact open_node (by simpa [Value.cells] using hf)
  obtain ⟨l0⟩ := cs0
  obtain rfl : l0 = _ := hcs0
  obtain ⟨cs1, rfl, _, _⟩ : ∃ cs, v1 = .agg cs ∧ cs.size = Tryz.prog.cellsOf 29 ∧ Row.okWide Tryz.prog W .any base 29 cs := by
    have := hval 1 29 v1 rfl rfl
    simpa [Value.okWide, Tryz.underlying29] using this
  have k1 := h1
  have lt1 : ∀ x ∈ p1, x.block < W.heap.size := by obtain ⟨m, hm⟩ := k1; exact DataW.trod_lt m _ _ _ hm
  obtain ⟨r1y, r1a, r1c, hcs1, w1⟩ : ∃ (y : Sy) (a : Option Addr) (c : Nat), cs1.toList = (syC y (.slice a y.p.m c)).toList ∧ TxtAt W a y.p.m y.p.S ∧ SyB y := by
    obtain ⟨fuel, hf⟩ := h1
    exact open_say1 (by simpa [Value.cells] using hf)
  obtain ⟨l1⟩ := cs1
  obtain rfl : l1 = _ := hcs1
  clear hA0 hval0
  refine (walk_FnExactNodeHear r0i r0f r0a r0m r0c r0S r1y r1a r1c W w0 w1).mono fun e W' ⟨he, bel⟩ => ?_
  subst he
  exact ⟨_, rfl, _, _, _, [], _, [], hW', trodAll_mk1 (shut_bool Tryz.underlying4 _), (trodAll_cons_mk (Below.trod laidOut (by kernel_rfl) (of_decide_eq_true (by kernel_rfl)) k0 bel lt0) (trodAll_cons_mk (Below.trod laidOut (by kernel_rfl) (of_decide_eq_true (by kernel_rfl)) k1 bel lt1) trodAll_mk0)), rfl, bel.frame _, fun h => by cases h⟩
theorem over : Rows.fnExactNodeHearRow.holds Tryz.pinned (OpenSpec.ofChange Rows.fnExactNodeHearSpec) :=
  OpenClaim.holds_of_wide 3 Tryz.f3 rfl rfl rfl rfl rfl rfl rfl ⟨rfl, rfl, rfl, rfl, rfl⟩ rfl rfl rfl rfl rfl (by kernel_rfl) Tryz.func3 (by kernel_rfl)
    (of_decide_eq_true (by kernel_rfl)) (by unfold Func.isWrapper; first | (rw [if_pos (by decide +kernel)]; kernel_rfl) | (rw [if_neg (by decide +kernel)]; exact ⟨rfl, rfl⟩))
    (fun os started H enc _ => lifted os started H enc)
theorem proved : Rows.FnExactNodeHearSaid := over
#print axioms proved
end Go.Proofs.YtgiegoamcfjfmaaGreat.fnExactNodeHear
