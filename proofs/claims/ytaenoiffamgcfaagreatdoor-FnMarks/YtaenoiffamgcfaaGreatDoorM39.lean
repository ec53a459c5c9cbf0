import Derived.Test.YtaenoiffamgcfaaGreatDoorM38
import Derived.Deep.CutRange
set_option maxHeartbeats 8000000
set_option maxRecDepth 2000
open Go.ChangeShapes Go.WideShapes Go.ChangeAt Go.RowKit
namespace Go.Proofs.YtaenoiffamgcfaaGreatDoor
open Go.ChangeShapes Go.WideShapes Go.ChangeAt Go.RowKit Go.Sort
theorem sNodeHear_yes (id f : Int) (a : Option Addr) (n cap : Nat) (S : Nat → Sl) (y : Sy) (a9 : Option Addr) (c9 : Nat) (w : World) (hT : Rd w (slsD n S) (.slice a n cap)) (hB : NhB n S y) (hyes : ndB id f n S = true) (hf : 1 ≤ f ∧ f ≤ 3) (h2 : y.t = id) (h3 : -1 ≤ y.f ∧ y.f ≤ 3 * f) (h4 : 0 ≤ y.k ∧ y.k ≤ 2) (h5 : y.r.size = 16) (h6 : plN S y.r n < 40) (h9 : TxtAt w a9 y.p.m y.p.S) :
  Calls Tryz.prog 52 #[ndV id f (.slice a n cap), syV y (.slice a9 y.p.m c9)] w fun e w' => NhR w w' id f (hrN S y.r n) (hvS id f (slF S y.r n) (plN S y.r n) y) (hvM id f (slF S y.r n) (plN S y.r n) y) (hvY id (slF S y.r n) (plN S y.r n) y) e := by
 obtain ⟨A, HA⟩ : ∃ x, Hid (x = w.heap.size) := ⟨_, rfl⟩
 obtain ⟨C, HC⟩ : ∃ x, Hid (x = w.heap.size + 1) := ⟨_, rfl⟩
 obtain ⟨D, HD⟩ : ∃ x, Hid (x = w.heap.size + 1 + 1) := ⟨_, rfl⟩
 obtain ⟨w0, HW0⟩ : ∃ x, Hid (x = ((w.alloc (.cells #[.int .i64 id, .int .i64 f, .slice a n cap] 37)).alloc (.cells (syC y (.slice a9 y.p.m c9)) 87)).alloc (.cells #[.int .i64 0, .int .i64 0, .slice none 0 0] 37)) := ⟨_, rfl⟩
 have RA : Hid (Row w0 A 37 #[.int .i64 id, .int .i64 f, .slice a n cap]) := by show Row _ _ _ _; rw [HW0.out, HA.out]; exact Row.alloc (Row.alloc (Row.new w _ _) _) _
 have RC : Hid (Row w0 C 87 (syC y (.slice a9 y.p.m c9))) := by
  show Row _ _ _ _
  rw [HW0.out, HC.out]
  have := Row.new (w.alloc (.cells #[.int .i64 id, .int .i64 f, .slice a n cap] 37)) (syC y (.slice a9 y.p.m c9)) 87
  exact Row.alloc (by simpa using this) _
 have RD : Hid (Row w0 D 37 #[.int .i64 0, .int .i64 0, .slice none 0 0]) := by
  show Row _ _ _ _
  rw [HW0.out, HD.out]
  have := Row.new ((w.alloc (.cells #[.int .i64 id, .int .i64 f, .slice a n cap] 37)).alloc (.cells (syC y (.slice a9 y.p.m c9)) 87)) #[.int .i64 0, .int .i64 0, .slice none 0 0] 37
  simpa using this
 have hb0 : Below w.heap.size w w0 := by rw [HW0.out]; exact (((Below.refl _ _).alloc (Nat.le_refl _) _).alloc (by simp) _).alloc (by simp; omega) _
 have KB0 : Hid (Below w.heap.size w w0) := hb0
 have HL : Hid (w.heap.size ≤ A ∧ w.heap.size ≤ C ∧ w.heap.size ≤ D ∧ A < w0.heap.size ∧ C < w0.heap.size ∧ D < w0.heap.size) := ⟨by have := HA.out; omega, by have := HC.out; omega, by have := HD.out; omega, RA.out.lt, RC.out.lt, RD.out.lt⟩
 have LAC : Hid (A ≠ C ∧ A ≠ D ∧ C ≠ D) := ⟨by have := HA.out; have := HC.out; omega, by have := HA.out; have := HD.out; omega, by have := HC.out; have := HD.out; omega⟩
 have KCP : Hid _ := sCopyN_any id f a n cap S w0 (hT.below hb0) hB.kn (fun i hi => (hB.k i hi).s)
 have HB : Hid (NhB n S y) := hB
 have HND : Hid (ndB id f n S = true) := hyes
 have HF : Hid (1 ≤ f ∧ f ≤ 3) := hf
 obtain ⟨q, HQ⟩ : ∃ q : Int, Hid (3 * f + 1 = q) := ⟨_, rfl⟩
 obtain ⟨q1, HQ1⟩ : ∃ q1 : Int, Hid (3 * f = q1) := ⟨_, rfl⟩
 have eq1 : IntKind.i64.wrap (q - 1) = q1 := by have := HQ.out; have := HQ1.out; rw [IntKind.wrap_i64]; omega
 have H3 : Hid (inB y.f (-1) q1 = true) := by have := HQ1.out; show inB _ _ _ = true; unfold inB; exact decide_eq_true (by omega)
 have H4 : Hid (inB y.k 0 2 = true) := by show inB _ _ _ = true; unfold inB; exact decide_eq_true (by omega)
 have HP6 : Hid (plN S y.r n < 40) := h6
 have HYF : Hid (-1 ≤ y.f ∧ y.f ≤ 3 * f) := h3
 have HYK : Hid (0 ≤ y.k ∧ y.k ≤ 2) := h4
 have HYR : Hid (y.r.size = 16) := h5
 have H9 : Hid (TxtAt w a9 y.p.m y.p.S) := h9
 have KHV : Hid (HvK (slF S y.r n) (plN S y.r n) y) := hvK_of hB (ndP_of hyes)
 have HNDY : Hid (NdP id f n S) := ndP_of hyes
 clear h9
 obtain ⟨b58, HB58⟩ : ∃ b, Hid (b = decide (plN S y.r n = n)) := ⟨_, rfl⟩
 clear h3 h4 h6
 clear hT hB hb0 hyes hf
 go_enter Tryz.func52, Tryz.ntmps52
 go_wp2_with (rw [← HW0.out, ← HD.out, ← HC.out, ← HA.out]; refine wpList_load_row (by rfl) 37 _ (by rfl) A (by rfl) 37 #[.int .i64 id, .int .i64 f, .slice a n cap] (0, 0) _ ?_ Tryz.underlying37 (by rfl) Tryz.infoNd ?_; exact RA.out)
 refine Calls.mono KCP.out ?_
 rintro e w1 ⟨g, c, rfl, O1, b1⟩
 obtain ⟨w2, HW2⟩ : ∃ x, Hid (x = w1.setRow A #[.int .i64 id, .int .i64 f, .slice (some ⟨g, 0, none⟩) n c]) := ⟨_, rfl⟩
 obtain ⟨gs, HGS⟩ : ∃ x, Hid (x = w2.heap.size) := ⟨_, rfl⟩
 obtain ⟨w3, HW3⟩ : ∃ x, Hid (x = w2.alloc (.cells #[] 87)) := ⟨_, rfl⟩
 have R1 : Hid (Row w1 A 37 #[.int .i64 id, .int .i64 f, .slice a n cap]) := RA.out.below b1 RA.out.lt
 have K3 : Hid (MhA w w0 w3 A C D id f g n c S y a9 c9 gs) := by
  have b3 : Below w2.heap.size w2 w3 := by rw [HW3.out]; exact (Below.refl _ _).alloc (Nat.le_refl _) _
  have e2 : w2.heap.size = w1.heap.size := by rw [HW2.out]; simp
  have l := HL.out
  have s1 := b1.size
  have ra2 : Row w2 A 37 #[.int .i64 id, .int .i64 f, .slice (some ⟨g, 0, none⟩) n c] := by rw [HW2.out]; exact R1.out.row
  have rc2 : Row w2 C 87 (syC y (.slice a9 y.p.m c9)) := by rw [HW2.out]; exact (RC.out.below b1 RC.out.lt).otherRow (fun e => LAC.out.1 e.symm)
  have rd2 : Row w2 D 37 #[.int .i64 0, .int .i64 0, .slice none 0 0] := by rw [HW2.out]; exact (RD.out.below b1 RD.out.lt).otherRow (fun e => LAC.out.2.1 e.symm)
  have o2 : Ow w2 w0.heap.size (slsD n S) (.slice (some ⟨g, 0, none⟩) n c) (rng w0.heap.size w1.heap.size) := by
   rw [HW2.out]
   exact O1.frame fun x hx _ => setRow_other _ _ _ _ (fun e => by have h1 : w0.heap.size ≤ x := hx.1; omega)
  have b2 : Below w.heap.size w w2 := by rw [HW2.out]; exact belowSetRow (below2 KB0.out b1) l.1 _
  refine ⟨ra2.below b3 ra2.lt, rc2.below b3 rc2.lt, rd2.below b3 rd2.lt, (o2.below b3).mono (fun x hx => ⟨hx.1, ?_⟩), below2 b2 b3, ?_, ?_, ?_⟩
  ·have h1 : x < w1.heap.size := hx.2
   rw [HGS.out]; omega
  ·rw [HW3.out, HGS.out]; exact Row.new w2 _ _
  ·rw [HGS.out]; omega
  ·rw [HGS.out]
   have := b3.size
   rw [HW3.out]
   simp
 have KRA3 : Hid (Row w3 A 37 #[.int .i64 id, .int .i64 f, .slice (some ⟨g, 0, none⟩) n c]) := K3.out.ra
 have KRC3 : Hid (Row w3 C 87 (syC y (.slice a9 y.p.m c9))) := K3.out.rc
 have KPL : Hid _ := sPlace_any id f (some ⟨g, 0, none⟩) n c S y.r w3 K3.out.o.rd HB.out.kn
 have u3 := KRC3.out.cell 3
 simp at u3
 clear O1 b1
 go_wp2_with (first | (refine wpList_store_row (by rfl) 37 _ _ (by rfl) A #[.int .i64 id, .int .i64 f, .slice (some ⟨g, 0, none⟩) n c] (by rfl) (by rfl) 37 #[.int .i64 id, .int .i64 f, .slice a n cap] ?_ Tryz.infoNd rfl (by simp [Value.oneCell']) ?_; exact R1.out; rw [← HW2.out]) | (rw [← HW3.out, ← HGS.out]; refine wpList_load_row (by rfl) 37 _ (by rfl) A (by rfl) 37 #[.int .i64 id, .int .i64 f, .slice (some ⟨g, 0, none⟩) n c] (0, 0) _ ?_ Tryz.underlying37 (by rfl) Tryz.infoNd ?_; exact KRA3.out))
 refine Calls.mono KPL.out ?_
 rintro e w4 ⟨rfl, b4⟩
 have K4 : Hid (MhA w w0 w4 A C D id f g n c S y a9 c9 gs) := K3.out.below b4
 obtain ⟨pl, HPL⟩ : ∃ x : Int, Hid (x = ((plN S y.r n : Nat) : Int)) := ⟨_, rfl⟩
 rw [← HPL.out]
 have RA4 : Hid (Row w4 A 37 #[.int .i64 id, .int .i64 f, .slice (some ⟨g, 0, none⟩) n c]) := K4.out.ra
 have RC4 : Hid (Row w4 C 87 (syC y (.slice a9 y.p.m c9))) := K4.out.rc
 have t6 : ¬ 40 ≤ pl := by have := HP6.out; have := HPL.out; omega
 clear u3 b4 KPL KCP K3 KRA3 KRC3 R1 HW3 HW2 HGS
 have x0 := RA4.out.cell 0
 have x1 := RA4.out.cell 1
 have x2 := RA4.out.cell 2
 have v0 := RC4.out.cell 0
 have v1 := RC4.out.cell 1
 have v2 := RC4.out.cell 2
 have v3 := RC4.out.cell 3
 simp at x0 x1 x2 v0 v1 v2 v3
 have X0 : ∀ d os, (grow (redrawn w4 d) os).cell? ⟨A, 0, none⟩ = _ := fun d os => cell_regrown x0 d os
 have X1 : ∀ d os, (grow (redrawn w4 d) os).cell? ⟨A, 1, none⟩ = _ := fun d os => cell_regrown x1 d os
 have X2 : ∀ d os, (grow (redrawn w4 d) os).cell? ⟨A, 2, none⟩ = _ := fun d os => cell_regrown x2 d os
 have V0 : ∀ d os, (grow (redrawn w4 d) os).cell? ⟨C, 0, none⟩ = _ := fun d os => cell_regrown v0 d os
 have V1 : ∀ d os, (grow (redrawn w4 d) os).cell? ⟨C, 1, none⟩ = _ := fun d os => cell_regrown v1 d os
 have V2 : ∀ d os, (grow (redrawn w4 d) os).cell? ⟨C, 2, none⟩ = _ := fun d os => cell_regrown v2 d os
 have V3 : ∀ d os, (grow (redrawn w4 d) os).cell? ⟨C, 3, none⟩ = _ := fun d os => cell_regrown v3 d os
 have N1 : ∀ d os, Calls Tryz.prog 79 #[.agg #[.int .i64 id, .int .i64 f, .slice (some ⟨g, 0, none⟩) n c]] (grow (redrawn w4 d) os) fun e w' => e = .returned (.bool true) ∧ ∃ p : Regrown, w' = grow (redrawn w4 p.d) p.os := fun d os => Calls.regrown_of (by have := sNodeOk_any id f (some ⟨g, 0, none⟩) n c S (grow (redrawn w4 d) os) (K4.out.o.rd.below (below_regrown w4 d os)) HB.out.kn (fun i hi => (HB.out.k i hi).ok); rw [HND.out] at this; exact this)
 have N2 : ∀ d os, Calls Tryz.prog 49 #[.int .i64 f] (grow (redrawn w4 d) os) fun e w' => e = .returned (.int .i64 q) ∧ ∃ p : Regrown, w' = grow (redrawn w4 p.d) p.os := fun d os => Calls.regrown_of ((sAllN_any f _ HF.out).mono fun e w' h => ⟨by rw [h.1, HQ.out], by rw [h.2]; exact Below.refl _ _⟩)
 have NN3 : ∀ d os, Calls Tryz.prog 63 #[.int .i64 y.f, .int .i64 (-1), .int .i64 q1] (grow (redrawn w4 d) os) fun e w' => e = .returned (.bool true) ∧ ∃ p : Regrown, w' = grow (redrawn w4 p.d) p.os := fun d os => Calls.regrown_of ((sIn_any y.f (-1) q1 _).mono fun e w' h => ⟨by rw [h.1, H3.out], by rw [h.2]; exact Below.refl _ _⟩)
 have N4 : ∀ d os, Calls Tryz.prog 63 #[.int .i64 y.k, .int .i64 0, .int .i64 2] (grow (redrawn w4 d) os) fun e w' => e = .returned (.bool true) ∧ ∃ p : Regrown, w' = grow (redrawn w4 p.d) p.os := fun d os => Calls.regrown_of ((sIn_any y.k 0 2 _).mono fun e w' h => ⟨by rw [h.1, H4.out], by rw [h.2]; exact Below.refl _ _⟩)
 clear HND
 go_wp2_with fail
 refine wp_region_quiet_below (by kernel_rfl) (by kernel_rfl) ?_
 repeat (go_big_quiet_step (first | (with_reducible exact N1 _ _) | (with_reducible exact N2 _ _) | (with_reducible exact NN3 _ _) | (with_reducible exact N4 _ _)))
 refine wpQuiet_nil ?_
 intro _ hw'
 obtain ⟨⟨dq, osq⟩, hw''⟩ := hw'
 obtain ⟨w5, HW5⟩ : ∃ x, Hid (x = grow (redrawn w4 dq) osq) := ⟨_, rfl⟩
 subst hw''
 have K5 : Hid (Nw w5 w.heap.size A id f g n c S (rng w0.heap.size gs) ∧ MhC w w5 C D y a9 c9 ∧ Row w5 gs 87 #[]) := by
  have k := K4.out.below (below_regrown w4 dq osq)
  rw [← HW5.out] at k
  have l := HL.out
  refine ⟨⟨k.ra, k.o.base KB0.out.size, fun h => ?_, ⟨l.1, ?_⟩, fun x h => ⟨?_, ?_⟩⟩, ⟨k.rc, k.rd, k.b⟩, k.s⟩
  ·have h1 : w0.heap.size ≤ A := h.1
   omega
  ·have := k.ra.lt; omega
  ·have h1 : w0.heap.size ≤ x := h.1
   have := KB0.out.size
   omega
  ·have h1 : x < gs := h.2
   have := k.l2
   omega
 have y2 := K5.out.1.r.cell 2
 simp at y2
 have HGL : Hid (w0.heap.size ≤ gs ∧ A < w0.heap.size) := ⟨K4.out.l1, HL.out.2.2.2.1⟩
 clear x0 x1 x2 v0 v1 v2 v3 X0 X1 X2 V0 V1 V2 V3 K4 RA4 RC4 N1 N2 NN3 N4 eq1 H3 H4 HQ HQ1
 rw [← HW5.out]
 clear HW5
 have t58 : (pl == (n : Int)) = b58 := by
  rw [HB58.out]
  have := HPL.out
  by_cases e : plN S y.r n = n
  ·rw [decide_eq_true e]; simp; omega
  ·rw [decide_eq_false e]; simp; omega
 clear h5
 go_upto_if 58 with fail
 clear t6
 go_cut [] from 54 to 66 (fun wx => Hid (∃ g c F1, Nw wx w.heap.size A id f g (hrN S y.r n) c (slF S y.r n) F1 ∧ MhC w wx C D y a9 c9 ∧ Row wx gs 87 #[] ∧ ¬ F1 D ∧ ¬ F1 gs))
 case first =>
  cases b58 with
  | false =>
   have KZ : Hid (Nw w5 w.heap.size A id f g (hrN S y.r n) c (slF S y.r n) (rng w0.heap.size gs)) := by
    have hne : plN S y.r n ≠ n := of_decide_eq_false HB58.out.symm
    have en : hrN S y.r n = n := by
     unfold hrN
     unfold plN at hne
     cases e : plc S y.r n with
     | none => rw [e] at hne; exact absurd rfl hne
     | some x => simp
    show Nw _ _ _ _ _ _ _ _ _ _
    rw [en]
    exact ⟨K5.out.1.r, K5.out.1.o.congr (fun i q hi _ => by show _ = slD (slF S y.r n i) q; unfold slF; rw [if_neg (by omega)]), K5.out.1.h1, K5.out.1.b, K5.out.1.l1⟩
   go_wp2_with fail
   go_meet
   exact ⟨g, c, rng w0.heap.size gs, KZ.out, K5.out.2.1, K5.out.2.2, fun k => by have h1 : w0.heap.size ≤ D := k.1; have := HL.out.2.2.2.2.2; omega, fun k => by have h1 : gs < gs := k.2; omega⟩
  | true =>
   have HN : Hid (hrN S y.r n = n + 1 ∧ n ≤ 1048576) := by
    have hne : plN S y.r n = n := of_decide_eq_true HB58.out.symm
    refine ⟨?_, HB.out.kn⟩
    unfold hrN
    cases e : plc S y.r n with
    | none => simp
    | some x =>
     obtain ⟨_, hx, _, _⟩ := plF_some e
     unfold plN at hne
     rw [e] at hne
     simp at hne
     omega
   have KC5 : Hid (Row w5 C 87 (syC y (.slice a9 y.p.m c9))) := K5.out.2.1.rc
   have v3 := KC5.out.cell 3
   simp at v3
   obtain ⟨w6, HW6⟩ : ∃ x, Hid (x = w5.alloc (.cells (slRC y.r) 65)) := ⟨_, rfl⟩
   have K6 : Hid (Nw (w5.alloc (.cells (slRC y.r) 65)) w.heap.size A id f g n c S (rng w0.heap.size gs)) := K5.out.1.below ((Below.refl _ _).alloc (Nat.le_refl _) _)
   go_wp2_with (at_builtin; refine (show True → _ from ?_) trivial)
   intro _
   refine wpList_slot w5 (by rfl) _ _ (by rfl) id f w.heap.size A g n c S y.r (rng w0.heap.size gs) (by rfl) (by rfl) ?_ ?_ ?_
   ·exact K6.out
   ·have := HN.out.2; omega
   intro g8 c8 w8 F8 hK8
   have KZ : Hid (∃ g c F1, Nw (w8.setCell ⟨A, 2, none⟩ (.slice (some ⟨g8, 0, none⟩) (n + 1) c8)) w.heap.size A id f g (hrN S y.r n) c (slF S y.r n) F1 ∧ MhC w (w8.setCell ⟨A, 2, none⟩ (.slice (some ⟨g8, 0, none⟩) (n + 1) c8)) C D y a9 c9 ∧ Row (w8.setCell ⟨A, 2, none⟩ (.slice (some ⟨g8, 0, none⟩) (n + 1) c8)) gs 87 #[] ∧ ¬ F1 D ∧ ¬ F1 gs) := by
    obtain ⟨_, q, b8, t8, hf8⟩ := hK8
    have b6 : Below w5.heap.size w5 (w5.alloc (.cells (slRC y.r) 65)) := (Below.refl _ _).alloc (Nat.le_refl _) _
    have k6 := K5.out.2.1.below b6
    have l := HL.out
    have s0 := KB0.out.size
    have lc := K5.out.2.1.rc.lt
    have ld := K5.out.2.1.rd.lt
    have rc8 : Row w8 C 87 (syC y (.slice a9 y.p.m c9)) := (t8 C (by omega) (fun k => by have h1 : w0.heap.size ≤ C := k.1; omega)).trans k6.rc
    have rd8 : Row w8 D 37 #[.int .i64 0, .int .i64 0, .slice none 0 0] := (t8 D (by omega) (fun k => by have h1 : w0.heap.size ≤ D := k.1; omega)).trans k6.rd
    refine ⟨g8, c8, F8, ?_, ⟨rc8.other 2 _ (fun e => LAC.out.1 e.symm), rd8.other 2 _ (fun e => LAC.out.2.1 e.symm), below_setCell (k6.b.trans b8) l.1 2 _⟩, ?_, fun k => by
     rcases hf8 D k with h1 | h1
     ·have h2 : w0.heap.size ≤ D := h1.1
      omega
     ·omega, fun k => by
     have ls := K5.out.2.2.lt
     rcases hf8 gs k with h1 | h1
     ·have h2 : gs < gs := h1.2
      omega
     ·omega⟩
    ·rw [HN.out.1]; exact q
    ·have rs6 := K5.out.2.2.below b6 K5.out.2.2.lt
     have ls := K5.out.2.2.lt
     have rs8 : Row w8 gs 87 #[] := (t8 gs (by omega) (fun k => by have h1 : gs < gs := k.2; omega)).trans rs6
     exact rs8.other 2 _ (fun e => by have := HGL.out; omega)
   have z2 := hK8.1.cell 2
   have zf := hK8.1.free 2
   simp at z2
   clear hK8
   go_wp2_with fail
   go_meet
   exact KZ.out
 obtain ⟨g2, c2, F1, hN, hC, hgs, hFD, hFS⟩ := hcut.out
 clear hcut K5 y2 t58 HB58
 obtain ⟨p, HPP⟩ : ∃ x, Hid (x = plN S y.r n) := ⟨_, rfl⟩
 obtain ⟨n2, HN2⟩ : ∃ x, Hid (x = hrN S y.r n) := ⟨_, rfl⟩
 obtain ⟨S2, HS2⟩ : ∃ x, Hid (x = slF S y.r n) := ⟨_, rfl⟩
 have hpn : p < n2 := by rw [HPP.out, HN2.out]; exact plN_lt S y.r n
 rw [← HN2.out, ← HS2.out] at hN
 rw [← HPP.out] at HPL
 obtain rfl := HPL.out
 clear HPL
 have hpi : (p : Int) < (n2 : Int) := by omega
 obtain ⟨a6, a11, a12, c6, c11, c12, G6, G11, G12, R8, o6, o11, o12, hG, hd11, hd12⟩ := slot_own hN.o hpn
 obtain ⟨X, HX⟩ : ∃ x, Hid (x = wc.heap.size) := ⟨_, rfl⟩
 obtain ⟨w7, HW7⟩ : ∃ x, Hid (x = wc.alloc (.cells (slC (S2 p) (.slice a6 (S2 p).p.m c6) (.slice a11 (S2 p).ze.length c11) (.slice a12 (S2 p).zr.length c12)) 65)) := ⟨_, rfl⟩
 have K7 : Hid (MhX p w w7 A C D X id f g2 n2 c2 S2 F1 y a9 c9 (S2 p) a6 a11 a12 c6 c11 c12 G6 G11 G12 gs) := by
  have b7 : Below wc.heap.size wc w7 := by rw [HW7.out]; exact (Below.refl _ _).alloc (Nat.le_refl _) _
  have sw := hC.b.size
  have hx := HX.out
  have hFx : ∀ x, F1 x → x < X := fun x k => by have := (hN.l1 x k).2; omega
  have lA := hN.r.lt
  have lC := hC.rc.lt
  have lD := hC.rd.lt
  have hFA := hN.h1
  have hFg : F1 g2 := by obtain ⟨_, _, _, _, e, _, hs, _⟩ := hN.o; cases e; exact hs.head _ rfl
  have hgX : g2 < X := hFx _ hFg
  have nE : ∀ b, G6 b ∨ G11 b ∨ G12 b → ¬ mhG w.heap.size g2 X A D gs b := fun b k e => by
   have h1 := hG b k
   have h2 := hFx b h1.1
   rcases e with (e | e | e | e) | e
   ·exact h1.2 e
   ·omega
   ·exact hFA (e ▸ h1.1)
   ·rcases e with e | e
    ·exact hFD (e ▸ h1.1)
    ·have := (hN.l1 b h1.1).1; omega
   ·exact hFS (e ▸ h1.1)
  have rx7 : Row w7 X 65 (slC (S2 p) (.slice a6 (S2 p).p.m c6) (.slice a11 (S2 p).ze.length c11) (.slice a12 (S2 p).zr.length c12)) := by rw [HW7.out, HX.out]; exact Row.new wc _ _
  refine ⟨hN.below b7, hC.below b7, rx7, o6.below b7, o11.below b7, o12.below b7, nE, hFS, hd11, hd12, ⟨by omega, by omega, by omega, by omega, fun k => by have := hFx _ k; omega, by omega⟩, hgs.below b7 hgs.lt, (by have := hgs.lt; omega), ?_⟩
  have cg : ∀ q v, (slL (S2 p) (.slice a6 (S2 p).p.m c6) (.slice a11 (S2 p).ze.length c11) (.slice a12 (S2 p).zr.length c12))[q]? = some v → w7.cell? ⟨g2, p * 13 + q, none⟩ = some v := fun q v hq => by
   have h1 : wc.cell? ⟨g2, p * 13 + q, none⟩ = some v := R8 q v hq
   exact (b7.cell (p := ⟨g2, _, none⟩) (block_lt_of_cell h1)).trans h1
  exact ⟨cg 6 _ rfl, cg 11 _ rfl, cg 12 _ rfl, rfl⟩
 have KR8 : Hid (wc.rangeAt g2 (p * 13) (slL (S2 p) (.slice a6 (S2 p).p.m c6) (.slice a11 (S2 p).ze.length c11) (.slice a12 (S2 p).zr.length c12))) := R8
 have q2 := hN.r.cell 2
 simp at q2
 have KFD : Hid (¬ F1 D) := hFD
 clear hN hC hgs hFD hFS R8 o6 o11 o12 hG hd11 hd12
 go_upto_region 8 with fail
 go_cut [8] from 67 to 71 (fun v wx => Hid (v = .pointer (some ⟨X, 0, none⟩) ∧ wx = w7))
 case first =>
  go_wp2_with (refine wpList_load_mid (by rfl) 65 _ (by rfl) g2 (p * 13) (by rfl) (slL (S2 p) (.slice a6 (S2 p).p.m c6) (.slice a11 (S2 p).ze.length c11) (.slice a12 (S2 p).zr.length c12)) _ ?_ Tryz.underlying65 (by rfl) Tryz.infoSl ?_; exact KR8.out)
  rw [← HW7.out, ← HX.out]
  go_meet
  exact ⟨rfl, rfl⟩
 obtain ⟨rfl, hwc⟩ := hcut.out
 obtain rfl := hwc.symm
 clear hcut hwc
 clear q2 KR8
 go_step
 go_step
 obtain ⟨b72, H72⟩ : ∃ b, Hid (b = (decide (y.k = 0) && (!(S2 p).e && mineB y.r id f y.p.r y.p.k y.p.n y.p.i y.p.b y.p.m y.p.S))) := ⟨_, rfl⟩
 have KMI : Hid (∀ W, Below w.heap.size w W → Calls Tryz.prog 80 #[pcV y.p.r y.p.k y.p.n y.p.i y.p.b (.slice a9 y.p.m c9), .string y.r, .int .i64 id, .int .i64 f] W fun e w' => e = .returned (.bool (mineB y.r id f y.p.r y.p.k y.p.n y.p.i y.p.b y.p.m y.p.S)) ∧ Below W.heap.size W w') := fun W hW => sMine_any y.r id f y.p.r y.p.k y.p.n y.p.i y.p.b a9 y.p.m c9 y.p.S W (H9.out.below hW) HF.out HB.out.m (fun i hi => Nat.le_trans (HB.out.ps i hi) (by unfold maxLen; omega))
 have RC7 : Hid (Row w7 C 87 (syC y (.slice a9 y.p.m c9))) := K7.out.k.rc
 have RA7 : Hid (Row w7 A 37 #[.int .i64 id, .int .i64 f, .slice (some ⟨g2, 0, none⟩) n2 c2]) := K7.out.nw.r
 have RX7 : Hid (Row w7 X 65 (slC (S2 p) (.slice a6 (S2 p).p.m c6) (.slice a11 (S2 p).ze.length c11) (.slice a12 (S2 p).zr.length c12))) := K7.out.rx
 have KHV2 : Hid (HvK S2 p y) := by show HvK _ _ _; rw [HS2.out, HPP.out]; exact KHV.out
 go_cut [6] from 72 to 133 (fun v wx => Hid (∃ m Y, MhY p w wx A C D X id f g2 n2 c2 S2 F1 y a9 c9 (mhx b72 S2 p y) m Y v gs ∧ ((b72 = true ∧ m = nAll f ∧ Y = syA 1 id y.r) ∨ (b72 = false ∧ m = 0))))
 case first =>
  go_upto_region 9 with fail
  go_cut [72] from 73 to 91 (fun v wx => Hid (v = .bool b72 ∧ Below w7.heap.size w7 wx))
  case first =>
   have v0 := RC7.out.cell 0
   have v3 := RC7.out.cell 3
   have v4 := RC7.out.cell 4
   have v5 := RC7.out.cell 5
   have v6 := RC7.out.cell 6
   have v7 := RC7.out.cell 7
   have v8 := RC7.out.cell 8
   have v9 := RC7.out.cell 9
   have x0 := RA7.out.cell 0
   have x1 := RA7.out.cell 1
   have z8 := RX7.out.cell 8
   simp at v0 v3 v4 v5 v6 v7 v8 v9 x0 x1 z8
   have KM7 : Hid _ := KMI.out w7 K7.out.k.b
   by_cases hk : y.k = 0
   ·have hk' : (y.k == 0) = true := by simpa using hk
    cases he : (S2 p).e with
    | true =>
     have HB72 : Hid (b72 = false) := by show b72 = false; rw [H72.out, he]; simp
     clear hk
     go_wp2_with fail
     go_meet
     exact ⟨by rw [HB72.out], Below.refl _ _⟩
    | false =>
     have HB72 : Hid (b72 = mineB y.r id f y.p.r y.p.k y.p.n y.p.i y.p.b y.p.m y.p.S) := by show b72 = _; rw [H72.out, he, decide_eq_true hk]; simp
     rw [← HB72.out] at KM7
     clear hk
     go_wp2_with fail
     refine Calls.mono KM7.out ?_
     rintro e w8 ⟨rfl, b8⟩
     have KB8 : Hid (Below w7.heap.size w7 w8) := b8
     clear b8
     go_wp2_with fail
     go_meet
     exact ⟨rfl, KB8.out⟩
   ·have hk' : (y.k == 0) = false := by simpa using hk
    have HB72 : Hid (b72 = false) := by show b72 = false; rw [H72.out, decide_eq_false hk]; rfl
    clear hk
    go_wp2_with fail
    go_meet
    exact ⟨by rw [HB72.out], Below.refl _ _⟩
  obtain ⟨rfl, hb72⟩ := hcut.out
  clear hcut
  have K8 : Hid (MhX p w wc A C D X id f g2 n2 c2 S2 F1 y a9 c9 (S2 p) a6 a11 a12 c6 c11 c12 G6 G11 G12 gs) := K7.out.below hb72
  clear hb72
  have RC8 : Hid (Row wc C 87 (syC y (.slice a9 y.p.m c9))) := K8.out.k.rc
  have RX8 : Hid (Row wc X 65 (slC (S2 p) (.slice a6 (S2 p).p.m c6) (.slice a11 (S2 p).ze.length c11) (.slice a12 (S2 p).zr.length c12))) := K8.out.rx
  have v0 := RC8.out.cell 0
  have v1 := RC8.out.cell 1
  simp at v0 v1
  cases b72 with
  | true =>
   have KCY : Hid _ := sCopyP_any y.p.r y.p.k y.p.n y.p.i y.p.b a9 y.p.m c9 y.p.S wc (H9.out.below K8.out.k.b) HB.out.m
   have v3 := RC8.out.cell 3
   have v4 := RC8.out.cell 4
   have v5 := RC8.out.cell 5
   have v6 := RC8.out.cell 6
   have v7 := RC8.out.cell 7
   have v8 := RC8.out.cell 8
   have v9 := RC8.out.cell 9
   simp at v3 v4 v5 v6 v7 v8 v9
   go_wp2_with fail
   refine Calls.mono KCY.out ?_
   rintro e w9 ⟨g', c', rfl, o9, b9⟩
   have K9 : Hid (MhX p w w9 A C D X id f g2 n2 c2 S2 F1 y a9 c9 (S2 p) a6 a11 a12 c6 c11 c12 G6 G11 G12 gs) := K8.out.below b9
   have RX9 : Hid (Row w9 X 65 (slC (S2 p) (.slice a6 (S2 p).p.m c6) (.slice a11 (S2 p).ze.length c11) (.slice a12 (S2 p).zr.length c12))) := K9.out.rx
   clear v0 v1 v3 v4 v5 v6 v7 v8 v9
   have KV : Hid (Rf w9 (mhG w.heap.size g2 X A D gs) (txD y.p.m y.p.S) (.slice (some ⟨g', 0, none⟩) y.p.m c')) := by
    have l1 := K8.out.nw.r.lt
    have l2 := K8.out.k.rd.lt
    have l3 := K8.out.rx.lt
    have l4 := K8.out.s.lt
    have hFg : F1 g2 := by obtain ⟨_, _, _, _, e, _, hs, _⟩ := K8.out.nw.o; cases e; exact hs.head _ rfl
    have l5 := (K8.out.nw.l1 g2 hFg).2
    refine Rf.of_ow (ow_txt (F := fun b => b = g') o9 (fun b e => by cases e; rfl)) (fun b e k => ?_)
    have h1 : b = g' := e
    have l6 := K8.out.k.b.size
    rcases own_shape o9 with ⟨e1, _⟩ | ⟨g1, _, e1, hb, _⟩
    ·cases e1
    ·cases e1
     rcases k with (k | k | k | k) | k <;> omega
   have KVO : Hid (MhO p w w9 A D X g2 gs F1 S2 { S2 p with p := y.p } (.slice (some ⟨g', 0, none⟩) y.p.m c') (.slice a11 (S2 p).ze.length c11) (.slice a12 (S2 p).zr.length c12)) := by
    have l1 := K8.out.nw.r.lt
    have l2 := K8.out.k.rd.lt
    have l3 := K8.out.rx.lt
    have l4 := K8.out.s.lt
    have hFg : F1 g2 := by obtain ⟨_, _, _, _, e, _, hs, _⟩ := K8.out.nw.o; cases e; exact hs.head _ rfl
    have l5 := (K8.out.nw.l1 g2 hFg).2
    have l6 := K8.out.k.b.size
    have lg' : wc.heap.size ≤ g' := by
     rcases own_shape o9 with ⟨e1, _⟩ | ⟨g1, _, e1, hb, _⟩
     ·cases e1
     ·cases e1; exact hb
    refine ⟨fun b => b = g', fun _ => False, fun _ => False, .inr ⟨(ow_txt (F := fun b => b = g') o9 (fun b e => by cases e; rfl)).base (by omega), fun b e => ?_⟩, .inl ⟨rfl, K9.out.og.2.1, fun _ k => k⟩, .inl ⟨rfl, K9.out.og.2.2.1, fun _ k => k⟩, fun _ _ k => k, fun _ _ k => k, fun _ k => k.elim⟩
    have h1 : b = g' := e
    refine ⟨fun hF => by have := (K8.out.nw.l1 b hF).2; omega, fun k => ?_⟩
    rcases k with (k | k | k | k) | k <;> omega
   obtain ⟨w10, HW10⟩ : ∃ x, Hid (x = w9.setCells X 1 [.string y.p.r, .int .i64 y.p.k, .int .i64 y.p.n, .int .i64 y.p.i, .string y.p.b, .slice (some ⟨g', 0, none⟩) y.p.m c']) := ⟨_, rfl⟩
   obtain ⟨w12, HW12⟩ : ∃ x, Hid (x = (w10.setCell ⟨X, 7, none⟩ (.bool true)).setCell ⟨X, 8, none⟩ (.bool true)) := ⟨_, rfl⟩
   have TH : Hid (w9.there X 1 6) := RX9.out.there (by simp)
   have R10 : Hid (Row w10 X 65 (slC { S2 p with p := y.p } (.slice (some ⟨g', 0, none⟩) y.p.m c') (.slice a11 (S2 p).ze.length c11) (.slice a12 (S2 p).zr.length c12))) := by show Row _ _ _ _; rw [HW10.out]; exact row_piece RX9.out y.p _ _
   have K12 : Hid (MhY p w w12 A C D X id f g2 n2 c2 S2 F1 y a9 c9 { S2 p with p := y.p, h := true, e := true } 0 (syA 1 id y.r) (.slice (some ⟨gs, 0, none⟩) 0 0) gs) := by
    show MhY _ _ _ _ _ _ _ _ _ _ _ _ _ _ _ _ _ _ _ _ _ _
    rw [HW12.out, HW10.out]
    exact (K9.out.y _).got y.p _ _ KV.out a6 a11 a12 c6 c11 c12 K9.out.rx (Rf.of_ow K9.out.e (fun b k => K9.out.d b (.inr (.inl k)))) (Rf.of_ow K9.out.z (fun b k => K9.out.d b (.inr (.inr k)))) KVO.out
   have RA12 : Hid (Row w12 A 37 #[.int .i64 id, .int .i64 f, .slice (some ⟨g2, 0, none⟩) n2 c2]) := K12.out.nw.r
   have RC12 : Hid (Row w12 C 87 (syC y (.slice a9 y.p.m c9))) := K12.out.k.rc
   have KTA : Hid _ := sToAll_any 1 id f (.slice (some ⟨g2, 0, none⟩) n2 c2) y.r (nAll f) w12 HF.out (nAll_is HF.out)
   have EX : Hid (mhx true S2 p y = { S2 p with p := y.p, h := true, e := true }) := by show mhx _ _ _ _ = _; unfold mhx; simp [slGot]
   have z7 := R10.out.cell 7
   have z8 := R10.out.cell 8
   have zf7 := R10.out.free 7
   have zf8 := R10.out.free 8
   simp at z7 z8
   have u3 := RC12.out.cell 3
   simp at u3
   clear o9 b9
   go_wp2_with (first | (refine wpList_store_mid (by rfl) 32 _ _ (by rfl) X 1 #[.string y.p.r, .int .i64 y.p.k, .int .i64 y.p.n, .int .i64 y.p.i, .string y.p.b, .slice (some ⟨g', 0, none⟩) y.p.m c'] (by rfl) (by rfl) ?_ (by kernel_rfl) (by simp [Value.oneCell']) ?_; exact TH.out; rw [← HW10.out]) | (rw [← HW12.out]; refine wpList_load_row (by rfl) 37 _ (by rfl) A (by rfl) 37 #[.int .i64 id, .int .i64 f, .slice (some ⟨g2, 0, none⟩) n2 c2] (0, 0) _ ?_ Tryz.underlying37 (by rfl) Tryz.infoNd ?_; exact RA12.out))
   refine Calls.mono KTA.out ?_
   rintro e w13 ⟨g'', c'', rfl, o13, b13⟩
   have K13 : Hid _ := K12.out.below b13
   have KO13 : Hid _ := o13
   clear b13 o13 z7 z8 zf7 zf8 u3
   go_wp2_with (at_builtin; refine (show True → _ from ?_) trivial)
   intro _
   refine wpList_says w13 (by rfl) _ _ (by rfl) K13.out 1 y.r (nAll f) g'' c'' _ _ (by rfl) (by rfl) KO13.out ?_ ?_ ?_ ?_
   ·have := nAll_is HF.out; have := HF.out; omega
   ·have := nAll_is HF.out; have := HF.out; omega
   ·have := HGL.out.1; have := KB0.out.size; omega
   intro g9 c9' w14 hK14
   have K14 : Hid _ := hK14
   clear hK14
   go_wp2_with fail
   go_meet
   exact ⟨nAll f, syA 1 id y.r, by rw [EX.out]; exact K14.out, .inl ⟨trivial, rfl, rfl⟩⟩
  | false =>
  by_cases hk1 : y.k = 1
  ·have hk1' : (y.k == 1) = true := by simpa using hk1
   have HK : Hid (y.k = 1) := hk1
   have hk2' : (y.k == 2) = false := by simp; omega
   have x11 := RX8.out.cell 11
   simp at x11
   clear hk1
   by_cases hf0 : 0 ≤ y.f
   ·have KPU : Hid _ := sPut_any w.heap.size a11 c11 (S2 p).ze y.f G11 wc K8.out.e (by have := KHV2.out.ze; omega) KHV2.out.se (by omega)
    have hf0' : y.f ≥ 0 := hf0
    go_wp2_with fail
    refine Calls.mono KPU.out ?_
    rintro e w9 ⟨a', c', rfl, hp9, b9⟩
    have K9 : Hid _ := K8.out.echo (syA 1 id y.r) a' c' _ b9 hp9
    have RX9 : Hid (Row w9 X 65 (slC (S2 p) (.slice a6 (S2 p).p.m c6) (.slice a11 (S2 p).ze.length c11) (.slice a12 (S2 p).zr.length c12))) := RX8.out.below b9 RX8.out.lt
    have zx := RX9.out.cell 11
    have zf := RX9.out.free 11
    simp at zx
    have EX : Hid (mhx false S2 p y = { S2 p with ze := putI (S2 p).ze y.f }) := by show mhx _ _ _ _ = _; unfold mhx; simp [HK.out, slEc]
    clear b9 hp9
    go_wp2_with fail
    go_meet
    exact ⟨0, syA 1 id y.r, by rw [EX.out]; exact K9.out, .inr ⟨trivial, rfl⟩⟩
   ·have hf1 : y.f < 0 := by omega
    have EX : Hid (mhx false S2 p y = S2 p) := by
     have e1 : y.f = -1 := by have := HYF.out; omega
     have e2 : putI (S2 p).ze y.f = (S2 p).ze := by unfold putI; rw [if_pos (.inl e1)]
     show mhx _ _ _ _ = _
     unfold mhx
     simp [HK.out, slEc, e2]
    go_wp2_with fail
    go_meet
    exact ⟨0, syA 1 id y.r, by rw [EX.out]; exact K8.out.y _, .inr ⟨trivial, rfl⟩⟩
  by_cases hk2 : y.k = 2
  ·have hk1' : (y.k == 1) = false := by simpa using hk1
   have hk2' : (y.k == 2) = true := by simpa using hk2
   have HK : Hid (y.k = 2) := hk2
   have x12 := RX8.out.cell 12
   simp at x12
   clear hk1 hk2
   by_cases hf0 : 0 ≤ y.f
   ·have KPU : Hid _ := sPut_any w.heap.size a12 c12 (S2 p).zr y.f G12 wc K8.out.z (by have := KHV2.out.zr; omega) KHV2.out.sr (by omega)
    have hf0' : y.f ≥ 0 := hf0
    go_wp2_with fail
    refine Calls.mono KPU.out ?_
    rintro e w9 ⟨a', c', rfl, hp9, b9⟩
    have K9 : Hid _ := K8.out.ready (syA 1 id y.r) a' c' _ b9 hp9
    have RX9 : Hid (Row w9 X 65 (slC (S2 p) (.slice a6 (S2 p).p.m c6) (.slice a11 (S2 p).ze.length c11) (.slice a12 (S2 p).zr.length c12))) := RX8.out.below b9 RX8.out.lt
    have zx := RX9.out.cell 12
    have zf := RX9.out.free 12
    simp at zx
    have EX : Hid (mhx false S2 p y = { S2 p with zr := putI (S2 p).zr y.f }) := by show mhx _ _ _ _ = _; unfold mhx; simp [HK.out, slRd]
    clear b9 hp9
    go_wp2_with fail
    go_meet
    exact ⟨0, syA 1 id y.r, by rw [EX.out]; exact K9.out, .inr ⟨trivial, rfl⟩⟩
   ·have hf1 : y.f < 0 := by omega
    have EX : Hid (mhx false S2 p y = S2 p) := by
     have e1 : y.f = -1 := by have := HYF.out; omega
     have e2 : putI (S2 p).zr y.f = (S2 p).zr := by unfold putI; rw [if_pos (.inl e1)]
     show mhx _ _ _ _ = _
     unfold mhx
     simp [HK.out, slRd, e2]
    go_wp2_with fail
    go_meet
    exact ⟨0, syA 1 id y.r, by rw [EX.out]; exact K8.out.y _, .inr ⟨trivial, rfl⟩⟩
  ·have hk1' : (y.k == 1) = false := by simpa using hk1
   have hk2' : (y.k == 2) = false := by simpa using hk2
   have EX : Hid (mhx false S2 p y = S2 p) := by show mhx _ _ _ _ = _; unfold mhx; simp [hk1, hk2]
   clear hk1 hk2
   go_wp2_with fail
   go_meet
   exact ⟨0, syA 1 id y.r, by rw [EX.out]; exact K8.out.y _, .inr ⟨trivial, rfl⟩⟩
 obtain ⟨m3, Y3, hY, hor⟩ := hcut.out
 clear hcut K7 RC7 RA7 RX7 KMI
 obtain ⟨w20, hw20⟩ : ∃ x, x = wc := ⟨_, rfl⟩
 subst hw20
 obtain ⟨xs, HXS⟩ : ∃ x, Hid (x = mhx b72 S2 p y) := ⟨_, rfl⟩
 rw [← HXS.out] at hY
 have KY : Hid (MhY p w w20 A C D X id f g2 n2 c2 S2 F1 y a9 c9 xs m3 Y3 u6 gs) := hY
 have HLZ : Hid (xs.ze.length ≤ 1048576 ∧ xs.zr.length ≤ 1048576) := by show _ ∧ _; rw [HXS.out]; exact mhx_len KHV2.out
 have HST : Hid (SlT f (S2 p) ∧ (S2 p).r = y.r) := by show _ ∧ _; rw [HS2.out, HPP.out]; exact slT_of HNDY.out
 have E72 : Hid (b72 = mhB id f S2 p y) := H72.out
 obtain ⟨b155, H155⟩ : ∃ b, Hid (b = mhR f xs) := ⟨_, rfl⟩
 have HMR : Hid (mhR f (mhx (mhB id f S2 p y) S2 p y) = b155) := by show _ = _; rw [← E72.out, ← HXS.out, H155.out]
 obtain ⟨ux, HUX⟩ : ∃ x, Hid (x = mhU f xs) := ⟨_, rfl⟩
 obtain ⟨vx, HVX⟩ : ∃ x, Hid (x = mhV f ux) := ⟨_, rfl⟩
 have HY1 : Hid (b155 = true → m3 = 0 ∧ hvM id f S2 p y = nAll f ∧ hvY id S2 p y = syA 2 id y.r) := fun e => by
  obtain ⟨e1, e2, e3⟩ := mhM_ready HF.out.1 HYK.out HST.out.1 (HMR.out.trans e)
  rw [HST.out.2] at e3
  rcases hor with k | k
  ·exact absurd (k.1.symm.trans (E72.out.trans e1)) (by simp)
  ·exact ⟨k.2, e2, e3⟩
 have HY0 : Hid (b155 = false → hvM id f S2 p y = m3 ∧ (m3 = 0 ∨ hvY id S2 p y = Y3)) := fun e => by
  rcases hor with k | k
  ·obtain ⟨e1, e2⟩ := mhM_echo (id := id) (f := f) (S := S2) (p := p) (y := y) (E72.out.symm.trans k.1)
   rw [HST.out.2] at e2
   exact ⟨e1.trans k.2.1.symm, .inr (e2.trans k.2.2.symm)⟩
  ·exact ⟨(mhM_none HF.out.1 HYK.out (E72.out.symm.trans k.1) (HMR.out.trans e)).trans k.2.symm, .inl k.2⟩
 have HSS : Hid ((fun i => if i = p then vx else S2 i) = hvS id f S2 p y) := by
  show _ = _
  rw [HVX.out, HUX.out, HXS.out, E72.out]
  exact mhS_is HF.out.1 HYK.out HST.out.1
 have HUV : Hid (ux.ze.length = xs.ze.length ∧ ux.zr.length = xs.zr.length) := by
  show _ ∧ _
  rw [HUX.out]
  unfold mhU
  split <;> exact ⟨rfl, rfl⟩
 have HU0 : Hid (b155 = false → ux = xs) := fun e => by rw [HUX.out]; unfold mhU; rw [← H155.out, e]; rfl
 have HU1 : Hid (b155 = true → ux = { xs with d := true }) := fun e => by rw [HUX.out]; unfold mhU; rw [← H155.out, e]; rfl
 clear hY hor
 obtain ⟨i6, i11, i12, j6, j11, j12, RX', _, _, _⟩ := KY.out.rx
 have RX20 : Hid (Row w20 X 65 (slC xs (.slice i6 xs.p.m j6) (.slice i11 xs.ze.length j11) (.slice i12 xs.zr.length j12))) := RX'
 have RA20 : Hid (Row w20 A 37 #[.int .i64 id, .int .i64 f, .slice (some ⟨g2, 0, none⟩) n2 c2]) := KY.out.nw.r
 clear RX'
 obtain ⟨q2, HQ2⟩ : ∃ q : Int, Hid (2 * f + 1 = q) := ⟨_, rfl⟩
 obtain ⟨q3, HQ3⟩ : ∃ q : Int, Hid (f + 1 = q) := ⟨_, rfl⟩
 have e20 : IntKind.i64.wrap (2 * f) = 2 * f := by have := HF.out; rw [IntKind.wrap_i64]; omega
 have e21 : IntKind.i64.wrap (2 * f + 1) = q2 := by have := HF.out; have := HQ2.out; rw [IntKind.wrap_i64]; omega
 have e11 : IntKind.i64.wrap (f + 1) = q3 := by have := HF.out; have := HQ3.out; rw [IntKind.wrap_i64]; omega
 go_upto_region 18 with fail
 go_cut [155] from 134 to 155 (fun v wx => Hid (v = .bool b155 ∧ wx = w20))
 case first =>
  have z9 := RX20.out.cell 9
  have z11 := RX20.out.cell 11
  have z12 := RX20.out.cell 12
  have y1 := RA20.out.cell 1
  simp at z9 z11 z12 y1
  cases hd : xs.d with
  | true =>
   rw [hd] at z9
   have HB : Hid (b155 = false) := by show b155 = false; rw [H155.out]; unfold mhR; rw [hd]; rfl
   clear hd
   go_wp2_with fail
   go_meet
   exact ⟨by rw [HB.out], rfl⟩
  | false =>
   rw [hd] at z9
   by_cases t1 : q2 ≤ (xs.ze.length : Int)
   ·have HB : Hid (b155 = true) := by show b155 = true; rw [H155.out]; unfold mhR; rw [hd, HQ2.out, decide_eq_true t1]; rfl
    clear hd
    go_wp2_with fail
    go_meet
    exact ⟨by rw [HB.out], rfl⟩
   by_cases t2 : q3 ≤ (xs.zr.length : Int)
   ·have HB : Hid (b155 = true) := by show b155 = true; rw [H155.out]; unfold mhR; rw [hd, HQ3.out, decide_eq_true t2]; simp
    clear hd
    go_wp2_with fail
    go_meet
    exact ⟨by rw [HB.out], rfl⟩
   ·have HB : Hid (b155 = false) := by show b155 = false; rw [H155.out]; unfold mhR; rw [hd, HQ2.out, HQ3.out, decide_eq_false t1, decide_eq_false t2]; rfl
    clear hd
    go_wp2_with fail
    go_meet
    exact ⟨by rw [HB.out], rfl⟩
 obtain ⟨rfl, hwc⟩ := hcut.out
 obtain rfl := hwc.symm
 clear hcut hwc
 go_upto_if 155 with fail
 go_cut [6] from 156 to 162 (fun v wx => Hid (∃ m Y, MhY p w wx A C D X id f g2 n2 c2 S2 F1 y a9 c9 ux m Y v gs ∧ hvM id f S2 p y = m ∧ (m = 0 ∨ hvY id S2 p y = Y)))
 case first =>
  cases b155 with
  | false =>
   have KZ : Hid (MhY p w w20 A C D X id f g2 n2 c2 S2 F1 y a9 c9 ux m3 Y3 u6 gs) := by
    have := KY.out
    rw [← HU0.out rfl] at this
    exact this
   go_wp2_with fail
   go_meet
   exact ⟨m3, Y3, KZ.out, HY0.out trivial⟩
  | true =>
   obtain rfl := (HY1.out rfl).1
   obtain rfl := KY.out.so rfl
   obtain ⟨w21, HW21⟩ : ∃ x, Hid (x = w20.setCell ⟨X, 9, none⟩ (.bool true)) := ⟨_, rfl⟩
   have K21 : Hid (MhY p w w21 A C D X id f g2 n2 c2 S2 F1 y a9 c9 ux 0 Y3 (.slice (some ⟨gs, 0, none⟩) 0 0) gs) := by
    show MhY _ _ _ _ _ _ _ _ _ _ _ _ _ _ _ _ _ _ _ _ _ _
    rw [HW21.out, HU1.out rfl]
    exact KY.out.readied
   have RA21 : Hid (Row w21 A 37 #[.int .i64 id, .int .i64 f, .slice (some ⟨g2, 0, none⟩) n2 c2]) := K21.out.nw.r
   have RC21 : Hid (Row w21 C 87 (syC y (.slice a9 y.p.m c9))) := K21.out.k.rc
   have KTA : Hid _ := sToAll_any 2 id f (.slice (some ⟨g2, 0, none⟩) n2 c2) y.r (nAll f) w21 HF.out (nAll_is HF.out)
   have z9 := RX20.out.cell 9
   have zf9 := RX20.out.free 9
   simp at z9
   have u3 := RC21.out.cell 3
   simp at u3
   go_wp2_with (rw [← HW21.out]; refine wpList_load_row (by rfl) 37 _ (by rfl) A (by rfl) 37 #[.int .i64 id, .int .i64 f, .slice (some ⟨g2, 0, none⟩) n2 c2] (0, 0) _ ?_ Tryz.underlying37 (by rfl) Tryz.infoNd ?_; exact RA21.out)
   refine Calls.mono KTA.out ?_
   rintro e w22 ⟨g'', c'', rfl, o22, b22⟩
   have K22 : Hid _ := K21.out.below b22
   have KO22 : Hid _ := o22
   clear b22 o22 z9 zf9 u3
   go_wp2_with (at_builtin; refine (show True → _ from ?_) trivial)
   intro _
   refine wpList_says w22 (by rfl) _ _ (by rfl) K22.out 2 y.r (nAll f) g'' c'' _ _ (by rfl) (by rfl) KO22.out ?_ ?_ ?_ ?_
   ·have := nAll_is HF.out; have := HF.out; omega
   ·have := nAll_is HF.out; have := HF.out; omega
   ·have := HGL.out.1; have := KB0.out.size; omega
   intro g9 c9' w23 hK23
   have K23 : Hid _ := hK23
   clear hK23
   go_wp2_with fail
   go_meet
   exact ⟨nAll f, syA 2 id y.r, K23.out, (HY1.out trivial).2.1, .inr (HY1.out trivial).2.2⟩
 obtain ⟨m4, Y4, hY, hM4⟩ := hcut.out
 have HM4 : Hid (hvM id f S2 p y = m4 ∧ (m4 = 0 ∨ hvY id S2 p y = Y4)) := hM4
 obtain ⟨w30, hw30⟩ : ∃ x, x = wc := ⟨_, rfl⟩
 subst hw30
 have K30 : Hid (MhY p w w30 A C D X id f g2 n2 c2 S2 F1 y a9 c9 ux m4 Y4 u6 gs) := hY
 clear hcut hM4 hY KY RX20 RA20 HY0 HY1
 obtain ⟨i6, i11, i12, j6, j11, j12, RX', _, _, _⟩ := K30.out.rx
 have RX30 : Hid (Row w30 X 65 (slC ux (.slice i6 ux.p.m j6) (.slice i11 ux.ze.length j11) (.slice i12 ux.zr.length j12))) := RX'
 have RA30 : Hid (Row w30 A 37 #[.int .i64 id, .int .i64 f, .slice (some ⟨g2, 0, none⟩) n2 c2]) := K30.out.nw.r
 clear RX'
 obtain ⟨b170, H170⟩ : ∃ b, Hid (b = decide (2 * f + 1 ≤ (ux.zr.length : Int))) := ⟨_, rfl⟩
 go_upto_region 21 with fail
 go_cut [170] from 163 to 170 (fun v wx => Hid (v = .bool b170 ∧ wx = w30))
 case first =>
  have z12 := RX30.out.cell 12
  have y1 := RA30.out.cell 1
  simp at z12 y1
  by_cases t2 : q2 ≤ (ux.zr.length : Int)
  ·have HB : Hid (b170 = true) := by show b170 = true; rw [H170.out, HQ2.out, decide_eq_true t2]
   go_wp2_with fail
   go_meet
   exact ⟨by rw [HB.out], rfl⟩
  ·have HB : Hid (b170 = false) := by show b170 = false; rw [H170.out, HQ2.out, decide_eq_false t2]
   go_wp2_with fail
   go_meet
   exact ⟨by rw [HB.out], rfl⟩
 obtain ⟨rfl, hwc⟩ := hcut.out
 obtain rfl := hwc.symm
 clear hcut hwc e20 e21 e11
 go_upto_if 170 with fail
 go_cut [] from 171 to 171 (fun wx => Hid (MhY p w wx A C D X id f g2 n2 c2 S2 F1 y a9 c9 vx m4 Y4 u6 gs))
 case first =>
  cases b170 with
  | false =>
   have KZ : Hid (MhY p w w30 A C D X id f g2 n2 c2 S2 F1 y a9 c9 vx m4 Y4 u6 gs) := by
    have e1 : vx = ux := by rw [HVX.out]; unfold mhV; rw [if_neg (of_decide_eq_false H170.out.symm)]
    show MhY _ _ _ _ _ _ _ _ _ _ _ _ _ _ _ _ _ _ _ _ _ _
    rw [e1]
    exact K30.out
   go_wp2_with fail
   go_meet
   exact KZ.out
  | true =>
   have KZ : Hid (MhY p w (w30.setCell ⟨X, 10, none⟩ (.bool true)) A C D X id f g2 n2 c2 S2 F1 y a9 c9 vx m4 Y4 u6 gs) := by
    have e1 : vx = { ux with o := true } := by rw [HVX.out]; unfold mhV; rw [if_pos (of_decide_eq_true H170.out.symm)]
    show MhY _ _ _ _ _ _ _ _ _ _ _ _ _ _ _ _ _ _ _ _ _ _
    rw [e1]
    exact K30.out.done
   have z10 := RX30.out.cell 10
   have zf10 := RX30.out.free 10
   simp at z10
   go_wp2_with fail
   go_meet
   exact KZ.out
 have K40' := hcut.out
 obtain ⟨w40, hw40⟩ : ∃ x, x = wc := ⟨_, rfl⟩
 subst hw40
 have K40 : Hid (MhY p w w40 A C D X id f g2 n2 c2 S2 F1 y a9 c9 vx m4 Y4 u6 gs) := K40'
 clear hcut K40' K30 RX30 RA30
 obtain ⟨i6, i11, i12, j6, j11, j12, RX', V6, V11, V12, VO⟩ := K40.out.rx
 have RX40 : Hid (Row w40 X 65 (slC vx (.slice i6 vx.p.m j6) (.slice i11 vx.ze.length j11) (.slice i12 vx.zr.length j12))) := RX'
 obtain ⟨w41, HW41⟩ : ∃ x, Hid (x = w40.setCells g2 (p * 13) (slL vx (.slice i6 vx.p.m j6) (.slice i11 vx.ze.length j11) (.slice i12 vx.zr.length j12))) := ⟨_, rfl⟩
 obtain ⟨w42, HW42⟩ : ∃ x, Hid (x = w41.setRow D #[.int .i64 id, .int .i64 f, .slice (some ⟨g2, 0, none⟩) n2 c2]) := ⟨_, rfl⟩
 have KFN : Hid _ := K40.out.fin KFD.out HL.out.2.2.1 hpn i6 i11 i12 j6 j11 j12 V6 V11 V12 VO w41 w42 HW41.out HW42.out
 have TH : Hid (w40.there g2 (p * 13) 13) := K40.out.nw.there hpn
 have RA41 : Hid (Row w41 A 37 #[.int .i64 id, .int .i64 f, .slice (some ⟨g2, 0, none⟩) n2 c2]) := KFN.out.ra
 have RD41 : Hid (Row w41 D 37 #[.int .i64 0, .int .i64 0, .slice none 0 0]) := KFN.out.rd
 have RD42 : Hid (Row w42 D 37 #[.int .i64 id, .int .i64 f, .slice (some ⟨g2, 0, none⟩) n2 c2]) := KFN.out.rd2
 obtain ⟨sa, sc, hu6⟩ : ∃ sa sc, u6 = .slice sa m4 sc := by
  obtain ⟨a, c, e, _⟩ := KFN.out.s.rd
  exact ⟨a, c, e⟩
 subst hu6
 have KF : Hid (NhR w w42 id f (hrN S y.r n) (hvS id f (slF S y.r n) (plN S y.r n) y) (hvM id f (slF S y.r n) (plN S y.r n) y) (hvY id (slF S y.r n) (plN S y.r n) y) (.returned (.tuple #[ndV id f (.slice (some ⟨g2, 0, none⟩) n2 c2), .slice sa m4 sc]))) := by
  show NhR _ _ _ _ _ _ _ _ _
  rw [← HS2.out, ← HPP.out, ← HN2.out, HM4.out.1]
  refine ⟨_, _, _, _, rfl, ?_, ?_, KFN.out.b, by rw [← HSS.out]; exact KFN.out.o⟩
  ·rw [← HSS.out]; exact KFN.out.l
  ·rcases HM4.out.2 with k | k
   ·subst k
    exact fun W' _ _ => ⟨sa, sc, rfl, fun i hi => absurd hi (Nat.not_lt_zero i)⟩
   ·rw [k]; exact KFN.out.s
 have y2 := K40.out.nw.r.cell 2
 simp at y2
 clear RX' V6 V11 V12
 go_wp2_with (first | (refine wpList_load_row (by rfl) 65 _ (by rfl) X (by rfl) 65 (slC vx (.slice i6 vx.p.m j6) (.slice i11 vx.ze.length j11) (.slice i12 vx.zr.length j12)) (0, 0) _ ?_ Tryz.underlying65 (by rfl) Tryz.infoSl ?_; exact RX40.out) | (refine wpList_store_mid (by rfl) 65 _ _ (by rfl) g2 (p * 13) (slC vx (.slice i6 vx.p.m j6) (.slice i11 vx.ze.length j11) (.slice i12 vx.zr.length j12)) (by rfl) (by rfl) ?_ Tryz.infoSl (by simp [Value.oneCell']) ?_; exact TH.out; rw [show (slC vx (.slice i6 vx.p.m j6) (.slice i11 vx.ze.length j11) (.slice i12 vx.zr.length j12)).toList = slL vx (.slice i6 vx.p.m j6) (.slice i11 vx.ze.length j11) (.slice i12 vx.zr.length j12) from rfl, ← HW41.out]) | (refine wpList_load_row (by rfl) 37 _ (by rfl) A (by rfl) 37 #[.int .i64 id, .int .i64 f, .slice (some ⟨g2, 0, none⟩) n2 c2] (0, 0) _ ?_ Tryz.underlying37 (by rfl) Tryz.infoNd ?_; exact RA41.out) | (refine wpList_store_row (by rfl) 37 _ _ (by rfl) D #[.int .i64 id, .int .i64 f, .slice (some ⟨g2, 0, none⟩) n2 c2] (by rfl) (by rfl) 37 #[.int .i64 0, .int .i64 0, .slice none 0 0] ?_ Tryz.infoNd rfl (by simp [Value.oneCell']) ?_; exact RD41.out; rw [← HW42.out]))
 refine bodyPost_ret (v := .tuple #[ndV id f (.slice (some ⟨g2, 0, none⟩) n2 c2), .slice sa m4 sc]) (by
  have p0 := RD42.out.cell 0
  have p1 := RD42.out.cell 1
  have p2 := RD42.out.cell 2
  simp at p0 p1 p2
  simp [results, Tryz.results52, go_sem, p0, p1, p2]) rfl KF.out
end Go.Proofs.YtaenoiffamgcfaaGreatDoor
namespace Go.Proofs.YtaenoiffamgcfaaGreatDoor
theorem mind_place {n : Nat} {S : Nat → Sl} {r : ByteArray} (hn : n ≤ 40) : (n < 40 ∨ 0 ≤ plX S r n) ↔ plN S r n < 40 := by
 unfold plX plN
 cases e : plc S r n with
 | none => simp
 | some x =>
  obtain ⟨_, h, _, _⟩ := plF_some e
  have hx : x < 40 := by omega
  exact ⟨fun _ => hx, fun _ => .inr (Int.natCast_nonneg x)⟩
theorem sNodeHear_any (id f : Int) (a : Option Addr) (n cap : Nat) (S : Nat → Sl) (y : Sy) (a9 : Option Addr) (c9 : Nat) (w : World) (hT : Rd w (slsD n S) (.slice a n cap)) (h9 : TxtAt w a9 y.p.m y.p.S) (hB : NhB n S y) :
  Calls Tryz.prog 52 #[ndV id f (.slice a n cap), syV y (.slice a9 y.p.m c9)] w fun e w' => NhR w w' id f (nhN id f n S y) (nhS id f n S y) (nhM id f n S y) (nhY id f n S y) e := by
 cases e1 : ndB id f n S with
 | false =>
  have hb : nhB id f n S y = false := by unfold nhB; rw [e1]; rfl
  simp only [nhN, nhS, nhM, nhY, hb]
  exact sNodeHear_no1 id f a n cap S y a9 c9 w hT hB e1
 | true =>
  have hP := ndP_of e1
  have hf := seB_f hP.1
  cases e2 : mindB id f n S y with
  | false =>
   have hM : ¬ MindP id f n S y := fun k => by
    have : mindB id f n S y = true := by unfold mindB; exact @decide_eq_true _ (Classical.propDecidable _) k
    rw [this] at e2; cases e2
   have hb : nhB id f n S y = false := by unfold nhB; rw [e1, e2]; rfl
   simp only [nhN, nhS, nhM, nhY, hb]
   by_cases h2 : y.t = id
   case neg => exact sNodeHear_no2 id f a n cap S y a9 c9 w hT hB e1 hf h2
   by_cases h3 : -1 ≤ y.f ∧ y.f ≤ 3 * f
   case neg => exact sNodeHear_no3 id f a n cap S y a9 c9 w hT hB e1 hf h2 h3
   by_cases h4 : 0 ≤ y.k ∧ y.k ≤ 2
   case neg => exact sNodeHear_no4 id f a n cap S y a9 c9 w hT hB e1 hf h2 h3 h4
   by_cases h5 : y.r.size = 16
   case neg => exact sNodeHear_no5 id f a n cap S y a9 c9 w hT hB e1 hf h2 h3 h4 h5
   by_cases h6 : 40 ≤ plN S y.r n
   case pos => exact sNodeHear_no6 id f a n cap S y a9 c9 w hT hB e1 hf h2 h3 h4 h5 h6
   exact absurd ⟨h2, by omega, h4, h5, (mind_place hP.2.1).2 (by omega)⟩ hM
  | true =>
   have hM := mindP_of e2
   have hb : nhB id f n S y = true := by unfold nhB; rw [e1, e2]; rfl
   simp only [nhN, nhS, nhM, nhY, hb, if_true]
   exact sNodeHear_yes id f a n cap S y a9 c9 w hT hB e1 hf hM.1 (by have := hM.2.1; omega) hM.2.2.1 hM.2.2.2.1 ((mind_place hP.2.1).1 hM.2.2.2.2) h9
end Go.Proofs.YtaenoiffamgcfaaGreatDoor
