/- What is heard of a root, of kind 2, in the program. Conditions: lists and texts of at most 2^20. Written by mkhear.py. -/
import Derived.Test.YtgiegoamcfjfmaaGreatJ46
namespace Go.Proofs.YtgiegoamcfjfmaaGreat
set_option maxRecDepth 2000
open Go.ChangeShapes Go.WideShapes Go.ChangeAt Go.RowKit

set_option maxHeartbeats 8000000 in
theorem hear2_any (id f : Int) (B Nb g n cap : Nat) (S S1 S2 : Nat → Sl) (y : Sy) (a9 : Option Addr) (c9 m1 m2 : Nat) (Y0 Y1 Y2 : Nat → Sy) (F1 : Nat → Prop) (w : World) (h : Nw w B Nb id f g n cap S F1) (hn : n ≤ 1048576) (hr : y.r.size ≤ 1048576) (hk : y.k = 2)
    (wE : World) (hE : Below B wE w)
    (s1 : ∀ Hb, Step (hrN S y.r n) 136 (syV y (.slice a9 y.p.m c9)) B Hb id f (plN S y.r n) (slF S y.r n) S1 0 m1 Y0 Y1 wE)
    (s2 : ∀ Hb, Step (hrN S y.r n) 138 (.int .i64 2) B Hb id f (plN S y.r n) S1 S2 m1 m2 Y1 Y2 wE) :
    Calls Tryz.prog 75 #[.pointer (some ⟨Nb, 0, none⟩), syV y (.slice a9 y.p.m c9)] w fun e w' => ∃ v, e = .returned v ∧ Heard w w' B Nb id f (hrN S y.r n) S2 m2 Y2 F1 v := by
  obtain ⟨A, HA⟩ : ∃ x, Hid (x = w.heap.size) := ⟨_, rfl⟩
  obtain ⟨R, HR⟩ : ∃ x, Hid (x = w.heap.size + 1) := ⟨_, rfl⟩
  obtain ⟨p, HPp⟩ : ∃ x, Hid (plN S y.r n = x) := ⟨_, rfl⟩
  obtain ⟨n', HNn⟩ : ∃ x, Hid (hrN S y.r n = x) := ⟨_, rfl⟩
  obtain ⟨wn, HWN⟩ : ∃ x, Hid (x = (w.alloc (.cells (syC y (.slice a9 y.p.m c9)) 41)).alloc (.cells #[.nilFunc, .nilFunc, .nilFunc] 175)) := ⟨_, rfl⟩
  have RAn : Row wn A 41 (syC y (.slice a9 y.p.m c9)) := by rw [HWN.out, HA.out]; exact Row.alloc (Row.new w _ _) _
  have RRn : Hid (Row wn R 175 #[.nilFunc, .nilFunc, .nilFunc]) := by
    show Row _ _ _ _
    rw [HWN.out, HR.out]
    have := Row.new (w.alloc (.cells (syC y (.slice a9 y.p.m c9)) 41)) #[.nilFunc, .nilFunc, .nilFunc] 175
    simpa using this
  have hbn : Below w.heap.size w wn := by rw [HWN.out]; exact ((Below.refl _ _).alloc (Nat.le_refl _) _).alloc (by simp) _
  obtain ⟨w0, HW0⟩ : ∃ x, Hid (x = wn.setRow R #[.func (.func 134) #[] #[], .func (.func 135) #[] #[], .func (.func 136) #[] #[]]) := ⟨_, rfl⟩
  have RA : Hid (Row w0 A 41 (syC y (.slice a9 y.p.m c9))) := by show Row _ _ _ _; rw [HW0.out]; exact RAn.otherRow (by have := HA.out; have := HR.out; omega)
  have RR : Hid (Row w0 R 175 #[.func (.func 134) #[] #[], .func (.func 135) #[] #[], .func (.func 136) #[] #[]]) := by show Row _ _ _ _; rw [HW0.out]; exact RRn.out.row
  have hb0 : Below w.heap.size w w0 := by rw [HW0.out]; exact belowSetRow hbn (by have := HR.out; omega) _
  have KB0 : Hid (Below w.heap.size w w0) := hb0
  have HL : Hid (w.heap.size ≤ A ∧ A < w0.heap.size ∧ R < w0.heap.size ∧ w.heap.size ≤ R ∧ Nb < w.heap.size ∧ ∀ x, F1 x → x < w.heap.size) := ⟨by have := HA.out; omega, RA.out.lt, RR.out.lt, by have := HR.out; omega, h.r.lt, fun x k => (h.l1 x k).2⟩
  have KE : Hid (Below B wE w ∧ B ≤ Nb ∧ (∀ x, F1 x → B ≤ x) ∧ B ≤ w.heap.size) := ⟨hE, h.b.1, fun x k => (h.l1 x k).1, h.b.2⟩
  have HKk : Hid (y.k = 2) := hk
  have KNF : Hid (¬ F1 Nb) := h.h1
  have KSF : Hid _ := slotFor_any id f B Nb g n cap S y.r F1 w0 (h.below hb0) hn hr
  rw [HPp.out, HNn.out] at s2
  rw [HNn.out]
  have KS1 : Hid (∀ Hb, Step n' 136 (syV y (.slice a9 y.p.m c9)) B Hb id f p (slF S y.r n) S1 0 m1 Y0 Y1 wE) := by rw [← HPp.out, ← HNn.out]; exact s1
  have KS2 : Hid (∀ Hb, Step n' 138 (.int .i64 2) B Hb id f p S1 S2 m1 m2 Y1 Y2 wE) := s2
  rw [HPp.out, HNn.out] at KSF
  have c3 := RA.out.cell 3
  simp at c3
  clear h hb0 hn hr s1 s2 RAn hbn hE hk
  go_enter Tryz.func75, Tryz.ntmps75
  go_wp2_with (rw [← HWN.out, ← HR.out, ← HA.out]; refine wpList_store_row (by rfl) 175 _ _ (by rfl) R #[.func (.func 134) #[] #[], .func (.func 135) #[] #[], .func (.func 136) #[] #[]] (by rfl) (by rfl) 175 #[.nilFunc, .nilFunc, .nilFunc] ?_ Tryz.infoF3 rfl (by simp [Value.oneCell']) ?_; exact RRn.out; rw [← HW0.out])
  refine Calls.mono KSF.out ?_
  rintro e w1 ⟨g1, cap1, F1a, rfl, hN1, t1, hF1⟩
  have K1 : Hid (Nw w1 B Nb id f g1 n' cap1 (slF S y.r n) F1a ∧ Trn w0 w1 (fun x => x = Nb ∨ F1 x) ∧ ∀ x, F1a x → F1 x ∨ w0.heap.size ≤ x) := ⟨hN1, t1, hF1⟩
  have RN1 : Hid _ := hN1.r
  -- the hearing's own block and the empty list of what is said
  obtain ⟨gs, HGS⟩ : ∃ x, Hid (x = w1.heap.size) := ⟨_, rfl⟩
  obtain ⟨Hb, HHB⟩ : ∃ x, Hid (x = gs + 1) := ⟨_, rfl⟩
  have eHB : Hb = w1.heap.size + 1 := by rw [HHB.out, HGS.out]
  obtain ⟨w2, HW2⟩ : ∃ x, Hid (x = (w1.alloc (.cells #[] 41)).alloc (.cells (hrC id f g1 n' cap1 p (.slice (some ⟨gs, 0, none⟩) 0 0)) 179)) := ⟨_, rfl⟩
  have b12 : Below w1.heap.size w1 w2 := by rw [HW2.out]; exact ((Below.refl _ _).alloc (Nat.le_refl _) _).alloc (by simp) _
  have RH : Row w2 Hb 179 (hrC id f g1 n' cap1 p (.slice (some ⟨gs, 0, none⟩) 0 0)) := by
    rw [HW2.out, eHB]
    have := Row.new (w1.alloc (.cells #[] 41)) (hrC id f g1 n' cap1 p (.slice (some ⟨gs, 0, none⟩) 0 0)) 179
    simpa using this
  have O2 : Ow w2 B (sysD 0 Y0) (.slice (some ⟨gs, 0, none⟩) 0 0) (fun x => x = gs) := by
    have o1 : Ow (w1.alloc (.cells #[] 41)) B (sysD 0 Y0) (.slice (some ⟨gs, 0, none⟩) 0 0) (fun x => x = gs) := by
      refine ⟨_, 0, fun _ _ => undef, fun _ _ _ => False, rfl, ?_, ⟨fun x e => by cases e; rfl, fun _ _ _ hi => absurd hi (Nat.not_lt_zero _), fun _ _ _ hi => absurd hi (Nat.not_lt_zero _), fun _ _ _ _ _ hi => absurd hi (Nat.not_lt_zero _)⟩, fun _ _ hi => absurd hi (Nat.not_lt_zero _)⟩
      have := World.ownsRow_lit (e := 41) (size := 10) (base := B) w1 #[] 0 hN1.b.2 (by unfold maxLen; omega) (by simp)
      rw [HGS.out]
      simpa [cL] using this
    rw [HW2.out]
    exact o1.below ((Below.refl _ _).alloc (Nat.le_refl _) _)
  have hsz2 : w2.heap.size = w1.heap.size + 2 := by rw [HW2.out]; simp
  have hw01 := t1.size
  have H2 : Hid (Hr w2 B Hb id f g1 n' cap1 p (slF S y.r n) (some ⟨gs, 0, none⟩) 0 0 Y0 F1a (fun x => x = gs)) := by
    have e1 := HGS.out
    have e2 := eHB
    have hlb := hN1.b.2
    exact ⟨RH, hN1.o.below b12, O2, fun x k1 k2 => by have := hN1.l1 x k1; omega, fun k => by have := hN1.l1 Hb k; omega, fun k => by omega, ⟨by omega, by omega⟩, fun x k => by have := hN1.l1 x k; omega, fun x k => by omega⟩
  have KN2 : Hid (Nw w2 B Nb id f g1 n' cap1 (slF S y.r n) F1a) := hN1.below b12
  have KL : Hid (gs = w1.heap.size ∧ Hb = w1.heap.size + 1 ∧ w2.heap.size = w1.heap.size + 2 ∧ w0.heap.size ≤ w1.heap.size) := ⟨HGS.out, eHB, hsz2, hw01⟩
  have KT2 : Hid (Trn w w2 (fun x => x = Nb ∨ F1 x)) := ((Trn.ofBelow _ KB0.out).trans t1).trans (Trn.ofBelow _ b12)
  have keepA : ∀ W, Trn w2 W (fun x => x = Hb ∨ F1a x ∨ x = gs) → ∀ k t cs, Row w0 k t cs → w.heap.size ≤ k → Row W k t cs := fun W hW k t cs hr hk => by
    have hk0 := hr.lt
    have r1 : Row w1 k t cs := (t1.block k hk0 (fun q => by
      rcases q with q | q
      · have := HL.out.2.2.2.2.1; omega
      · have := HL.out.2.2.2.2.2 k q; omega)).trans hr
    have r2 := r1.below b12 r1.lt
    refine (hW.block k r2.lt (fun q => ?_)).trans r2
    have e1 := HGS.out
    have e2 := eHB
    have l1 := r1.lt
    rcases q with q | q | q
    · omega
    · rcases hF1 k q with q | q
      · have := HL.out.2.2.2.2.2 k q; omega
      · omega
    · omega
  have KAR : Hid (∀ W, Trn w2 W (fun x => x = Hb ∨ F1a x ∨ x = gs) → Row W A 41 (syC y (.slice a9 y.p.m c9)) ∧ Row W R 175 #[.func (.func 134) #[] #[], .func (.func 135) #[] #[], .func (.func 136) #[] #[]]) := fun W hW => ⟨keepA W hW A _ _ RA.out HL.out.1, keepA W hW R _ _ RR.out HL.out.2.2.2.1⟩
  have KBE : Hid (Below B wE w2.drew) := by
    have t2d : Trn w w2.drew (fun x => x = Nb ∨ F1 x) := KT2.out.trans (Trn.drew w2 _)
    exact KE.out.1.trans (t2d.below (fun x k => by rcases k with k | k; rw [k]; exact KE.out.2.1; exact KE.out.2.2.1 x k) KE.out.2.2.2)
  have e9 : syV y (.slice a9 y.p.m c9) = .agg #[.int .i64 2, .int .i64 y.f, .int .i64 y.t, .string y.r, .string y.p.r, .int .i64 y.p.k, .int .i64 y.p.n, .int .i64 y.p.i, .string y.p.b, .slice a9 y.p.m c9] := by
    show Value.agg #[.int .i64 y.k, .int .i64 y.f, .int .i64 y.t, .string y.r, .string y.p.r, .int .i64 y.p.k, .int .i64 y.p.n, .int .i64 y.p.i, .string y.p.b, .slice a9 y.p.m c9] = _
    rw [HKk.out]
  have h4' := KS1.out Hb w2.drew g1 cap1 (some ⟨gs, 0, none⟩) 0 F1a (fun x => x = gs) KBE.out (H2.out.below (below_drew w2))
  rw [e9] at h4'
  have KC4 : Hid _ := h4'
  clear h4' e9
  obtain ⟨rA2, rR2⟩ := KAR.out w2 (Trn.refl _ _)
  have u0 := rA2.cell 0
  have u1 := rA2.cell 1
  have u2 := rA2.cell 2
  have u3 := rA2.cell 3
  have u4 := rA2.cell 4
  have u5 := rA2.cell 5
  have u6 := rA2.cell 6
  have u7 := rA2.cell 7
  have u8 := rA2.cell 8
  have u9 := rA2.cell 9
  have uR := rR2.cell 2
  simp at u0 u1 u2 u3 u4 u5 u6 u7 u8 u9 uR
  rw [HKk.out] at u0
  clear hN1 t1 hF1 b12 RH O2 hsz2 hw01 keepA c3 eHB rA2 rR2
  go_upto_region 4 with (refine wpList_load_row (by rfl) 34 _ (by rfl) Nb (by rfl) 34 #[.int .i64 id, .int .i64 f, .slice (some ⟨g1, 0, none⟩) n' cap1] (0, 0) _ ?_ Tryz.underlying34 (by rfl) Tryz.infoNd ?_; exact RN1.out)
  rw [← HGS.out, ← HHB.out, ← HW2.out]
  go_region_with ((go_at_call 136; refine Calls.mono KC4.out ?_; rintro e w3 ⟨rfl, sa3, sc3, F13, F23, h3, t3, hF13, hF23⟩; have K3 : Hid (Hr w3 B Hb id f g1 n' cap1 p S1 sa3 m1 sc3 Y1 F13 F23 ∧ Trn w2 w3 (fun x => x = Hb ∨ F1a x ∨ x = gs) ∧ (∀ x, F13 x → F1a x ∨ w2.heap.size ≤ x) ∧ ∀ x, F23 x → x = gs ∨ w2.heap.size ≤ x) := ⟨h3, (Trn.drew w2 _).trans t3, hF13, hF23⟩; clear h3 t3 hF13 hF23))
  all_goals
    have v0 := (KAR.out w3 K3.out.2.1).1.cell 0
    simp at v0
    rw [HKk.out] at v0
    have KBE3 : Hid (Below B wE w3) := by
      have e1 := KL.out
      have hw2 : B ≤ w2.heap.size := H2.out.b.2
      have b2 : Below B wE w2 := ⟨KBE.out.os, KBE.out.tape, KBE.out.output, KBE.out.size, KBE.out.block⟩
      exact b2.trans (K3.out.2.1.below (fun x k => by
        rcases k with k | k | k
        · rw [k]; exact H2.out.b.1
        · exact (K1.out.1.l1 x k).1
        · have := K1.out.1.b.2; omega) hw2)
    have KC5 : Hid _ := KS2.out Hb w3 g1 cap1 sa3 sc3 F13 F23 KBE3.out K3.out.1
    clear u0 u1 u2 u3 u4 u5 u6 u7 u8 u9 uR
    go_wp2_with fail
    refine Calls.mono KC5.out ?_
    rintro e w4 ⟨rfl, sa4, sc4, F14, F24, h4, t4, hF14, hF24⟩
    have z4 := h4.r.cell 4
    simp at z4
    have KF : Hid (Heard w w4 B Nb id f n' S2 m2 Y2 F1 (.slice sa4 m2 sc4)) := by
      obtain ⟨e1, e2, e3, e4⟩ := KL.out
      have s02 := KB0.out.size
      have s23 := K3.out.2.1.size
      have s34 := t4.size
      have hnb := HL.out.2.2.2.2.1
      have hFa : ∀ x, F13 x → F1 x ∨ w0.heap.size ≤ x := fun x k => by
        rcases K3.out.2.2.1 x k with k | k
        · exact K1.out.2.2 x k
        · exact .inr (by omega)
      have hFb : ∀ x, F23 x → w0.heap.size ≤ x := fun x k => by
        rcases K3.out.2.2.2 x k with k | k <;> omega
      have t24 : Trn w2 w4 (fun x => x = Hb ∨ F1a x ∨ x = gs) := K3.out.2.1.join t4 (fun x k => by
        rcases k with k | k | k
        · exact .inl (.inl k)
        · rcases K3.out.2.2.1 x k with k | k
          · exact .inl (.inr (.inl k))
          · exact .inr k
        · rcases K3.out.2.2.2 x k with k | k
          · exact .inl (.inr (.inr k))
          · exact .inr k)
      have h14 : ∀ x, F14 x → F1 x ∨ w0.heap.size ≤ x := fun x k => by
        rcases hF14 x k with k | k
        · exact hFa x k
        · exact .inr (by omega)
      have h24 : ∀ x, F24 x → w0.heap.size ≤ x := fun x k => by
        rcases hF24 x k with k | k
        · exact hFb x k
        · omega
      have nF : ¬ F1 Nb := KNF.out
      have hN2 : Nw w2 B Nb id f g1 n' cap1 (slF S y.r n) F1a := KN2.out
      have nN : ¬ (Nb = Hb ∨ F1a Nb ∨ Nb = gs) := fun k => by
        rcases k with k | k | k
        · omega
        · exact hN2.h1 k
        · omega
      refine ⟨g1, cap1, sa4, sc4, F14, F24, rfl, ⟨(t24.block Nb hN2.r.lt nN).trans hN2.r, h4.o, fun k => ?_, ⟨hN2.b.1, h4.b.2⟩, fun x k => ⟨?_, h4.l1 x k⟩⟩, h4.y, h4.d, fun k => ?_, KT2.out.join t24 (fun x k => ?_), fun x k => ?_, fun x k => ⟨?_, h4.l2 x k⟩⟩
      · rcases h14 Nb k with k | k
        · exact nF k
        · omega
      · rcases h14 x k with k | k
        · exact KE.out.2.2.1 x k
        · have := KE.out.2.2.2; omega
      · have := h24 Nb k; omega
      · rcases k with k | k | k
        · exact .inr (by omega)
        · rcases K1.out.2.2 x k with k | k
          · exact .inl (.inr k)
          · exact .inr (by omega)
        · exact .inr (by omega)
      · rcases h14 x k with k | k
        · exact .inl k
        · exact .inr (by omega)
      · have := h24 x k; omega
    clear h4 t4 hF14 hF24
    go_wp2
    go_ret
    exact ⟨_, rfl, KF.out⟩
end Go.Proofs.YtgiegoamcfjfmaaGreat
