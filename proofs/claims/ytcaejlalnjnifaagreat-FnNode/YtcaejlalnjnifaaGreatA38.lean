import Derived.Test.YtcaejlalnjnifaaGreatA34
import Derived.Test.YtcaejlalnjnifaaGreatA33
import Derived.Test.YtcaejlalnjnifaaGreatA31
set_option maxHeartbeats 8000000
set_option maxRecDepth 2000
open Go.ChangeShapes Go.WideShapes Go.ChangeAt Go.RowKit
namespace Go.Proofs.YtcaejlalnjnifaaGreat
theorem Tryz.infoF3 : (Tryz.prog.info? 152).map (·.size) = some 3 := by kernel_rfl
def HrX (w W : World) (B Hb : Nat) (id f : Int) (g n cap p : Nat) (S : Nat → Sl) (m : Nat) (Y : Nat → Sy) (F1 F2 : Nat → Prop) : Prop :=
 ∃ sa sc F1' F2', Hr W B Hb id f g n cap p S sa m sc Y F1' F2' ∧ Trn w W (fun x => x = Hb ∨ F1 x ∨ F2 x) ∧ (∀ x, F1' x → F1 x ∨ w.heap.size ≤ x) ∧ ∀ x, F2' x → F2 x ∨ w.heap.size ≤ x
def Step (n : Nat) (fn : Nat) (arg : Value) (B Hb : Nat) (id f : Int) (p : Nat) (S S' : Nat → Sl) (m m' : Nat) (Y Y' : Nat → Sy) (wE : World) : Prop :=
 ∀ W g cap sa sc F1 F2, Below B wE W → Hr W B Hb id f g n cap p S sa m sc Y F1 F2 → Calls Tryz.prog fn #[.pointer (some ⟨Hb, 0, none⟩), arg] W fun e w' => e = .returned (.tuple #[]) ∧ HrX W w' B Hb id f g n cap p S' m' Y' F1 F2
theorem Nw.turned {W W' : World} {B Nb : Nat} {id f : Int} {g n cap : Nat} {S S' : Nat → Sl} {F1 F1' : Nat → Prop} (h : Nw W B Nb id f g n cap S F1) {F : Nat → Prop} (t : Trn W W' F) (hN : ¬ F Nb) (o : Ow W' B (slsD n S') (.slice (some ⟨g, 0, none⟩) n cap) F1') (hF : ∀ x, F1' x → (F1 x ∨ W.heap.size ≤ x) ∧ x < W'.heap.size) : Nw W' B Nb id f g n cap S' F1' :=
 ⟨(t.block Nb h.r.lt hN).trans h.r, o, fun k => by rcases (hF Nb k).1 with k | k; exact h.h1 k; have := h.r.lt; omega, ⟨h.b.1, Nat.le_trans h.b.2 t.size⟩, fun x k => ⟨by rcases (hF x k).1 with k | k; exact (h.l1 x k).1; have := h.b.2; omega, (hF x k).2⟩⟩
theorem Trn.join {w w2 w3 : World} {F G : Nat → Prop} (t1 : Trn w w2 F) (t2 : Trn w2 w3 G) (hG : ∀ x, G x → F x ∨ w.heap.size ≤ x) : Trn w w3 F := by
 refine ⟨t2.os.trans t1.os, t2.tape.trans t1.tape, t2.output.trans t1.output, Nat.le_trans t1.size t2.size, fun j hj hn => ?_⟩
 refine (t2.block j (Nat.lt_of_lt_of_le hj t1.size) (fun k => ?_)).trans (t1.block j hj hn)
 rcases hG j k with k | k
 ·exact hn k
 ·omega
def Heard (w W : World) (B Nb : Nat) (id f : Int) (n : Nat) (S : Nat → Sl) (m : Nat) (Y : Nat → Sy) (F1 : Nat → Prop) (v : Value) : Prop :=
 ∃ g cap sa sc F1' F2', v = .slice sa m sc ∧ Nw W B Nb id f g n cap S F1' ∧ Ow W B (sysD m Y) (.slice sa m sc) F2' ∧ (∀ x, F1' x → ¬ F2' x) ∧ ¬ F2' Nb ∧ Trn w W (fun x => x = Nb ∨ F1 x) ∧ (∀ x, F1' x → F1 x ∨ w.heap.size ≤ x) ∧ ∀ x, F2' x → w.heap.size ≤ x ∧ x < W.heap.size
theorem hear0_any (id f : Int) (B Nb g n cap : Nat) (S S1 S2 : Nat → Sl) (y : Sy) (a9 : Option Addr) (c9 m1 m2 : Nat) (Y0 Y1 Y2 : Nat → Sy) (F1 : Nat → Prop) (w : World) (h : Nw w B Nb id f g n cap S F1) (hn : n ≤ 1048576) (hr : y.r.size ≤ 1048576) (hk : y.k = 0)
  (wE : World) (hE : Below B wE w)
  (s1 : ∀ Hb, Step (hrN S y.r n) 108 (syV y (.slice a9 y.p.m c9)) B Hb id f (plN S y.r n) (slF S y.r n) S1 0 m1 Y0 Y1 wE)
  (s2 : ∀ Hb, Step (hrN S y.r n) 112 (.int .i64 0) B Hb id f (plN S y.r n) S1 S2 m1 m2 Y1 Y2 wE) :
  Calls Tryz.prog 47 #[.pointer (some ⟨Nb, 0, none⟩), syV y (.slice a9 y.p.m c9)] w fun e w' => ∃ v, e = .returned v ∧ Heard w w' B Nb id f (hrN S y.r n) S2 m2 Y2 F1 v := by
 obtain ⟨A, HA⟩ : ∃ x, Hid (x = w.heap.size) := ⟨_, rfl⟩
 obtain ⟨R, HR⟩ : ∃ x, Hid (x = w.heap.size + 1) := ⟨_, rfl⟩
 obtain ⟨p, HPp⟩ : ∃ x, Hid (plN S y.r n = x) := ⟨_, rfl⟩
 obtain ⟨n', HNn⟩ : ∃ x, Hid (hrN S y.r n = x) := ⟨_, rfl⟩
 obtain ⟨wn, HWN⟩ : ∃ x, Hid (x = (w.alloc (.cells (syC y (.slice a9 y.p.m c9)) 31)).alloc (.cells #[.nilFunc, .nilFunc, .nilFunc] 152)) := ⟨_, rfl⟩
 have RAn : Row wn A 31 (syC y (.slice a9 y.p.m c9)) := by rw [HWN.out, HA.out]; exact Row.alloc (Row.new w _ _) _
 have RRn : Hid (Row wn R 152 #[.nilFunc, .nilFunc, .nilFunc]) := by
  show Row _ _ _ _
  rw [HWN.out, HR.out]
  have := Row.new (w.alloc (.cells (syC y (.slice a9 y.p.m c9)) 31)) #[.nilFunc, .nilFunc, .nilFunc] 152
  simpa using this
 have hbn : Below w.heap.size w wn := by rw [HWN.out]; exact ((Below.refl _ _).alloc (Nat.le_refl _) _).alloc (by simp) _
 obtain ⟨w0, HW0⟩ : ∃ x, Hid (x = wn.setRow R #[.func (.func 108) #[] #[], .func (.func 109) #[] #[], .func (.func 110) #[] #[]]) := ⟨_, rfl⟩
 have RA : Hid (Row w0 A 31 (syC y (.slice a9 y.p.m c9))) := by show Row _ _ _ _; rw [HW0.out]; exact RAn.otherRow (by have := HA.out; have := HR.out; omega)
 have RR : Hid (Row w0 R 152 #[.func (.func 108) #[] #[], .func (.func 109) #[] #[], .func (.func 110) #[] #[]]) := by show Row _ _ _ _; rw [HW0.out]; exact RRn.out.row
 have hb0 : Below w.heap.size w w0 := by rw [HW0.out]; exact belowSetRow hbn (by have := HR.out; omega) _
 have KB0 : Hid (Below w.heap.size w w0) := hb0
 have HL : Hid (w.heap.size ≤ A ∧ A < w0.heap.size ∧ R < w0.heap.size ∧ w.heap.size ≤ R ∧ Nb < w.heap.size ∧ ∀ x, F1 x → x < w.heap.size) := ⟨by have := HA.out; omega, RA.out.lt, RR.out.lt, by have := HR.out; omega, h.r.lt, fun x k => (h.l1 x k).2⟩
 have KE : Hid (Below B wE w ∧ B ≤ Nb ∧ (∀ x, F1 x → B ≤ x) ∧ B ≤ w.heap.size) := ⟨hE, h.b.1, fun x k => (h.l1 x k).1, h.b.2⟩
 have HKk : Hid (y.k = 0) := hk
 have KNF : Hid (¬ F1 Nb) := h.h1
 have KSF : Hid _ := slotFor_any id f B Nb g n cap S y.r F1 w0 (h.below hb0) hn hr
 rw [HPp.out, HNn.out] at s2
 rw [HNn.out]
 have KS1 : Hid (∀ Hb, Step n' 108 (syV y (.slice a9 y.p.m c9)) B Hb id f p (slF S y.r n) S1 0 m1 Y0 Y1 wE) := by rw [← HPp.out, ← HNn.out]; exact s1
 have KS2 : Hid (∀ Hb, Step n' 112 (.int .i64 0) B Hb id f p S1 S2 m1 m2 Y1 Y2 wE) := s2
 rw [HPp.out, HNn.out] at KSF
 have c3 := RA.out.cell 3
 simp at c3
 clear h hb0 hn hr s1 s2 RAn hbn hE hk
 go_enter Tryz.func47, Tryz.ntmps47
 go_wp2_with (rw [← HWN.out, ← HR.out, ← HA.out]; refine wpList_store_row (by rfl) 152 _ _ (by rfl) R #[.func (.func 108) #[] #[], .func (.func 109) #[] #[], .func (.func 110) #[] #[]] (by rfl) (by rfl) 152 #[.nilFunc, .nilFunc, .nilFunc] ?_ Tryz.infoF3 rfl (by simp [Value.oneCell']) ?_; exact RRn.out; rw [← HW0.out])
 refine Calls.mono KSF.out ?_
 rintro e w1 ⟨g1, cap1, F1a, rfl, hN1, t1, hF1⟩
 have K1 : Hid (Nw w1 B Nb id f g1 n' cap1 (slF S y.r n) F1a ∧ Trn w0 w1 (fun x => x = Nb ∨ F1 x) ∧ ∀ x, F1a x → F1 x ∨ w0.heap.size ≤ x) := ⟨hN1, t1, hF1⟩
 have RN1 : Hid _ := hN1.r
 -- the hearing's own block and the empty list of what is said
 obtain ⟨gs, HGS⟩ : ∃ x, Hid (x = w1.heap.size) := ⟨_, rfl⟩
 obtain ⟨Hb, HHB⟩ : ∃ x, Hid (x = gs + 1) := ⟨_, rfl⟩
 have eHB : Hb = w1.heap.size + 1 := by rw [HHB.out, HGS.out]
 obtain ⟨w2, HW2⟩ : ∃ x, Hid (x = (w1.alloc (.cells #[] 31)).alloc (.cells (hrC id f g1 n' cap1 p (.slice (some ⟨gs, 0, none⟩) 0 0)) 156)) := ⟨_, rfl⟩
 have b12 : Below w1.heap.size w1 w2 := by rw [HW2.out]; exact ((Below.refl _ _).alloc (Nat.le_refl _) _).alloc (by simp) _
 have RH : Row w2 Hb 156 (hrC id f g1 n' cap1 p (.slice (some ⟨gs, 0, none⟩) 0 0)) := by
  rw [HW2.out, eHB]
  have := Row.new (w1.alloc (.cells #[] 31)) (hrC id f g1 n' cap1 p (.slice (some ⟨gs, 0, none⟩) 0 0)) 156
  simpa using this
 have O2 : Ow w2 B (sysD 0 Y0) (.slice (some ⟨gs, 0, none⟩) 0 0) (fun x => x = gs) := by
  have o1 : Ow (w1.alloc (.cells #[] 31)) B (sysD 0 Y0) (.slice (some ⟨gs, 0, none⟩) 0 0) (fun x => x = gs) := by
   refine ⟨_, 0, fun _ _ => undef, fun _ _ _ => False, rfl, ?_, ⟨fun x e => by cases e; rfl, fun _ _ _ hi => absurd hi (Nat.not_lt_zero _), fun _ _ _ hi => absurd hi (Nat.not_lt_zero _), fun _ _ _ _ _ hi => absurd hi (Nat.not_lt_zero _)⟩, fun _ _ hi => absurd hi (Nat.not_lt_zero _)⟩
   have := World.ownsRow_lit (e := 31) (size := 10) (base := B) w1 #[] 0 hN1.b.2 (by unfold maxLen; omega) (by simp)
   rw [HGS.out]
   simpa [cL] using this
  rw [HW2.out]
  exact o1.below ((Below.refl _ _).alloc (Nat.le_refl _) _)
 have hsz2 : w2.heap.size = w1.heap.size + 2 := by rw [HW2.out]; simp
 have hw01 := t1.size
 have H2 : Hid (Hr w2 B Hb id f g1 n' cap1 p (slF S y.r n) (some ⟨gs, 0, none⟩) 0 0 Y0 F1a (fun x => x = gs)) := by
  have e1 := HGS.out
  have e2 := eHB
  have hlb := hN1.b.2
  exact ⟨RH, hN1.o.below b12, O2, fun x k1 k2 => by have := hN1.l1 x k1; omega, fun k => by have := hN1.l1 Hb k; omega, fun k => by omega, ⟨by omega, by omega⟩, fun x k => by have := hN1.l1 x k; omega, fun x k => by omega⟩
 have KN2 : Hid (Nw w2 B Nb id f g1 n' cap1 (slF S y.r n) F1a) := hN1.below b12
 have KL : Hid (gs = w1.heap.size ∧ Hb = w1.heap.size + 1 ∧ w2.heap.size = w1.heap.size + 2 ∧ w0.heap.size ≤ w1.heap.size) := ⟨HGS.out, eHB, hsz2, hw01⟩
 have KT2 : Hid (Trn w w2 (fun x => x = Nb ∨ F1 x)) := ((Trn.ofBelow _ KB0.out).trans t1).trans (Trn.ofBelow _ b12)
 have keepA : ∀ W, Trn w2 W (fun x => x = Hb ∨ F1a x ∨ x = gs) → ∀ k t cs, Row w0 k t cs → w.heap.size ≤ k → Row W k t cs := fun W hW k t cs hr hk => by
  have hk0 := hr.lt
  have r1 : Row w1 k t cs := (t1.block k hk0 (fun q => by
   rcases q with q | q
   ·have := HL.out.2.2.2.2.1; omega
   ·have := HL.out.2.2.2.2.2 k q; omega)).trans hr
  have r2 := r1.below b12 r1.lt
  refine (hW.block k r2.lt (fun q => ?_)).trans r2
  have e1 := HGS.out
  have e2 := eHB
  have l1 := r1.lt
  rcases q with q | q | q
  ·omega
  ·rcases hF1 k q with q | q
   ·have := HL.out.2.2.2.2.2 k q; omega
   ·omega
  ·omega
 have KAR : Hid (∀ W, Trn w2 W (fun x => x = Hb ∨ F1a x ∨ x = gs) → Row W A 31 (syC y (.slice a9 y.p.m c9)) ∧ Row W R 152 #[.func (.func 108) #[] #[], .func (.func 109) #[] #[], .func (.func 110) #[] #[]]) := fun W hW => ⟨keepA W hW A _ _ RA.out HL.out.1, keepA W hW R _ _ RR.out HL.out.2.2.2.1⟩
 have KBE : Hid (Below B wE w2.drew) := by
  have t2d : Trn w w2.drew (fun x => x = Nb ∨ F1 x) := KT2.out.trans (Trn.drew w2 _)
  exact KE.out.1.trans (t2d.below (fun x k => by rcases k with k | k; rw [k]; exact KE.out.2.1; exact KE.out.2.2.1 x k) KE.out.2.2.2)
 have e9 : syV y (.slice a9 y.p.m c9) = .agg #[.int .i64 0, .int .i64 y.f, .int .i64 y.t, .string y.r, .string y.p.r, .int .i64 y.p.k, .int .i64 y.p.n, .int .i64 y.p.i, .string y.p.b, .slice a9 y.p.m c9] := by
  show Value.agg #[.int .i64 y.k, .int .i64 y.f, .int .i64 y.t, .string y.r, .string y.p.r, .int .i64 y.p.k, .int .i64 y.p.n, .int .i64 y.p.i, .string y.p.b, .slice a9 y.p.m c9] = _
  rw [HKk.out]
 have h4' := KS1.out Hb w2.drew g1 cap1 (some ⟨gs, 0, none⟩) 0 F1a (fun x => x = gs) KBE.out (H2.out.below (below_drew w2))
 rw [e9] at h4'
 have KC4 : Hid _ := h4'
 clear h4' e9
 obtain ⟨rA2, rR2⟩ := KAR.out w2 (Trn.refl _ _)
 have u0 := rA2.cell 0
 have u1 := rA2.cell 1
 have u2 := rA2.cell 2
 have u3 := rA2.cell 3
 have u4 := rA2.cell 4
 have u5 := rA2.cell 5
 have u6 := rA2.cell 6
 have u7 := rA2.cell 7
 have u8 := rA2.cell 8
 have u9 := rA2.cell 9
 have uR := rR2.cell 0
 simp at u0 u1 u2 u3 u4 u5 u6 u7 u8 u9 uR
 rw [HKk.out] at u0
 clear hN1 t1 hF1 b12 RH O2 hsz2 hw01 keepA c3 eHB rA2 rR2
 go_upto_region 4 with (refine wpList_load_row (by rfl) 26 _ (by rfl) Nb (by rfl) 26 #[.int .i64 id, .int .i64 f, .slice (some ⟨g1, 0, none⟩) n' cap1] (0, 0) _ ?_ Tryz.underlying26 (by rfl) Tryz.infoNd ?_; exact RN1.out)
 rw [← HGS.out, ← HHB.out, ← HW2.out]
 go_region_with ((go_at_call 108; refine Calls.mono KC4.out ?_; rintro e w3 ⟨rfl, sa3, sc3, F13, F23, h3, t3, hF13, hF23⟩; have K3 : Hid (Hr w3 B Hb id f g1 n' cap1 p S1 sa3 m1 sc3 Y1 F13 F23 ∧ Trn w2 w3 (fun x => x = Hb ∨ F1a x ∨ x = gs) ∧ (∀ x, F13 x → F1a x ∨ w2.heap.size ≤ x) ∧ ∀ x, F23 x → x = gs ∨ w2.heap.size ≤ x) := ⟨h3, (Trn.drew w2 _).trans t3, hF13, hF23⟩; clear h3 t3 hF13 hF23))
 all_goals
  have v0 := (KAR.out w3 K3.out.2.1).1.cell 0
  simp at v0
  rw [HKk.out] at v0
  have KBE3 : Hid (Below B wE w3) := by
   have e1 := KL.out
   have hw2 : B ≤ w2.heap.size := H2.out.b.2
   have b2 : Below B wE w2 := ⟨KBE.out.os, KBE.out.tape, KBE.out.output, KBE.out.size, KBE.out.block⟩
   exact b2.trans (K3.out.2.1.below (fun x k => by
    rcases k with k | k | k
    ·rw [k]; exact H2.out.b.1
    ·exact (K1.out.1.l1 x k).1
    ·have := K1.out.1.b.2; omega) hw2)
  have KC5 : Hid _ := KS2.out Hb w3 g1 cap1 sa3 sc3 F13 F23 KBE3.out K3.out.1
  clear u0 u1 u2 u3 u4 u5 u6 u7 u8 u9 uR
  go_wp2_with fail
  refine Calls.mono KC5.out ?_
  rintro e w4 ⟨rfl, sa4, sc4, F14, F24, h4, t4, hF14, hF24⟩
  have z4 := h4.r.cell 4
  simp at z4
  have KF : Hid (Heard w w4 B Nb id f n' S2 m2 Y2 F1 (.slice sa4 m2 sc4)) := by
   obtain ⟨e1, e2, e3, e4⟩ := KL.out
   have s02 := KB0.out.size
   have s23 := K3.out.2.1.size
   have s34 := t4.size
   have hnb := HL.out.2.2.2.2.1
   have hFa : ∀ x, F13 x → F1 x ∨ w0.heap.size ≤ x := fun x k => by
    rcases K3.out.2.2.1 x k with k | k
    ·exact K1.out.2.2 x k
    ·exact .inr (by omega)
   have hFb : ∀ x, F23 x → w0.heap.size ≤ x := fun x k => by
    rcases K3.out.2.2.2 x k with k | k <;> omega
   have t24 : Trn w2 w4 (fun x => x = Hb ∨ F1a x ∨ x = gs) := K3.out.2.1.join t4 (fun x k => by
    rcases k with k | k | k
    ·exact .inl (.inl k)
    ·rcases K3.out.2.2.1 x k with k | k
     ·exact .inl (.inr (.inl k))
     ·exact .inr k
    ·rcases K3.out.2.2.2 x k with k | k
     ·exact .inl (.inr (.inr k))
     ·exact .inr k)
   have h14 : ∀ x, F14 x → F1 x ∨ w0.heap.size ≤ x := fun x k => by
    rcases hF14 x k with k | k
    ·exact hFa x k
    ·exact .inr (by omega)
   have h24 : ∀ x, F24 x → w0.heap.size ≤ x := fun x k => by
    rcases hF24 x k with k | k
    ·exact hFb x k
    ·omega
   have nF : ¬ F1 Nb := KNF.out
   have hN2 : Nw w2 B Nb id f g1 n' cap1 (slF S y.r n) F1a := KN2.out
   have nN : ¬ (Nb = Hb ∨ F1a Nb ∨ Nb = gs) := fun k => by
    rcases k with k | k | k
    ·omega
    ·exact hN2.h1 k
    ·omega
   refine ⟨g1, cap1, sa4, sc4, F14, F24, rfl, ⟨(t24.block Nb hN2.r.lt nN).trans hN2.r, h4.o, fun k => ?_, ⟨hN2.b.1, h4.b.2⟩, fun x k => ⟨?_, h4.l1 x k⟩⟩, h4.y, h4.d, fun k => ?_, KT2.out.join t24 (fun x k => ?_), fun x k => ?_, fun x k => ⟨?_, h4.l2 x k⟩⟩
   ·rcases h14 Nb k with k | k
    ·exact nF k
    ·omega
   ·rcases h14 x k with k | k
    ·exact KE.out.2.2.1 x k
    ·have := KE.out.2.2.2; omega
   ·have := h24 Nb k; omega
   ·rcases k with k | k | k
    ·exact .inr (by omega)
    ·rcases K1.out.2.2 x k with k | k
     ·exact .inl (.inr k)
     ·exact .inr (by omega)
    ·exact .inr (by omega)
   ·rcases h14 x k with k | k
    ·exact .inl k
    ·exact .inr (by omega)
   ·have := h24 x k; omega
  clear h4 t4 hF14 hF24
  go_wp2
  go_ret
  exact ⟨_, rfl, KF.out⟩
theorem hear1_any (id f : Int) (B Nb g n cap : Nat) (S S1 S2 : Nat → Sl) (y : Sy) (a9 : Option Addr) (c9 m1 m2 : Nat) (Y0 Y1 Y2 : Nat → Sy) (F1 : Nat → Prop) (w : World) (h : Nw w B Nb id f g n cap S F1) (hn : n ≤ 1048576) (hr : y.r.size ≤ 1048576) (hk : y.k = 1)
  (wE : World) (hE : Below B wE w)
  (s1 : ∀ Hb, Step (hrN S y.r n) 109 (syV y (.slice a9 y.p.m c9)) B Hb id f (plN S y.r n) (slF S y.r n) S1 0 m1 Y0 Y1 wE)
  (s2 : ∀ Hb, Step (hrN S y.r n) 112 (.int .i64 1) B Hb id f (plN S y.r n) S1 S2 m1 m2 Y1 Y2 wE) :
  Calls Tryz.prog 47 #[.pointer (some ⟨Nb, 0, none⟩), syV y (.slice a9 y.p.m c9)] w fun e w' => ∃ v, e = .returned v ∧ Heard w w' B Nb id f (hrN S y.r n) S2 m2 Y2 F1 v := by
 obtain ⟨A, HA⟩ : ∃ x, Hid (x = w.heap.size) := ⟨_, rfl⟩
 obtain ⟨R, HR⟩ : ∃ x, Hid (x = w.heap.size + 1) := ⟨_, rfl⟩
 obtain ⟨p, HPp⟩ : ∃ x, Hid (plN S y.r n = x) := ⟨_, rfl⟩
 obtain ⟨n', HNn⟩ : ∃ x, Hid (hrN S y.r n = x) := ⟨_, rfl⟩
 obtain ⟨wn, HWN⟩ : ∃ x, Hid (x = (w.alloc (.cells (syC y (.slice a9 y.p.m c9)) 31)).alloc (.cells #[.nilFunc, .nilFunc, .nilFunc] 152)) := ⟨_, rfl⟩
 have RAn : Row wn A 31 (syC y (.slice a9 y.p.m c9)) := by rw [HWN.out, HA.out]; exact Row.alloc (Row.new w _ _) _
 have RRn : Hid (Row wn R 152 #[.nilFunc, .nilFunc, .nilFunc]) := by
  show Row _ _ _ _
  rw [HWN.out, HR.out]
  have := Row.new (w.alloc (.cells (syC y (.slice a9 y.p.m c9)) 31)) #[.nilFunc, .nilFunc, .nilFunc] 152
  simpa using this
 have hbn : Below w.heap.size w wn := by rw [HWN.out]; exact ((Below.refl _ _).alloc (Nat.le_refl _) _).alloc (by simp) _
 obtain ⟨w0, HW0⟩ : ∃ x, Hid (x = wn.setRow R #[.func (.func 108) #[] #[], .func (.func 109) #[] #[], .func (.func 110) #[] #[]]) := ⟨_, rfl⟩
 have RA : Hid (Row w0 A 31 (syC y (.slice a9 y.p.m c9))) := by show Row _ _ _ _; rw [HW0.out]; exact RAn.otherRow (by have := HA.out; have := HR.out; omega)
 have RR : Hid (Row w0 R 152 #[.func (.func 108) #[] #[], .func (.func 109) #[] #[], .func (.func 110) #[] #[]]) := by show Row _ _ _ _; rw [HW0.out]; exact RRn.out.row
 have hb0 : Below w.heap.size w w0 := by rw [HW0.out]; exact belowSetRow hbn (by have := HR.out; omega) _
 have KB0 : Hid (Below w.heap.size w w0) := hb0
 have HL : Hid (w.heap.size ≤ A ∧ A < w0.heap.size ∧ R < w0.heap.size ∧ w.heap.size ≤ R ∧ Nb < w.heap.size ∧ ∀ x, F1 x → x < w.heap.size) := ⟨by have := HA.out; omega, RA.out.lt, RR.out.lt, by have := HR.out; omega, h.r.lt, fun x k => (h.l1 x k).2⟩
 have KE : Hid (Below B wE w ∧ B ≤ Nb ∧ (∀ x, F1 x → B ≤ x) ∧ B ≤ w.heap.size) := ⟨hE, h.b.1, fun x k => (h.l1 x k).1, h.b.2⟩
 have HKk : Hid (y.k = 1) := hk
 have KNF : Hid (¬ F1 Nb) := h.h1
 have KSF : Hid _ := slotFor_any id f B Nb g n cap S y.r F1 w0 (h.below hb0) hn hr
 rw [HPp.out, HNn.out] at s2
 rw [HNn.out]
 have KS1 : Hid (∀ Hb, Step n' 109 (syV y (.slice a9 y.p.m c9)) B Hb id f p (slF S y.r n) S1 0 m1 Y0 Y1 wE) := by rw [← HPp.out, ← HNn.out]; exact s1
 have KS2 : Hid (∀ Hb, Step n' 112 (.int .i64 1) B Hb id f p S1 S2 m1 m2 Y1 Y2 wE) := s2
 rw [HPp.out, HNn.out] at KSF
 have c3 := RA.out.cell 3
 simp at c3
 clear h hb0 hn hr s1 s2 RAn hbn hE hk
 go_enter Tryz.func47, Tryz.ntmps47
 go_wp2_with (rw [← HWN.out, ← HR.out, ← HA.out]; refine wpList_store_row (by rfl) 152 _ _ (by rfl) R #[.func (.func 108) #[] #[], .func (.func 109) #[] #[], .func (.func 110) #[] #[]] (by rfl) (by rfl) 152 #[.nilFunc, .nilFunc, .nilFunc] ?_ Tryz.infoF3 rfl (by simp [Value.oneCell']) ?_; exact RRn.out; rw [← HW0.out])
 refine Calls.mono KSF.out ?_
 rintro e w1 ⟨g1, cap1, F1a, rfl, hN1, t1, hF1⟩
 have K1 : Hid (Nw w1 B Nb id f g1 n' cap1 (slF S y.r n) F1a ∧ Trn w0 w1 (fun x => x = Nb ∨ F1 x) ∧ ∀ x, F1a x → F1 x ∨ w0.heap.size ≤ x) := ⟨hN1, t1, hF1⟩
 have RN1 : Hid _ := hN1.r
 -- the hearing's own block and the empty list of what is said
 obtain ⟨gs, HGS⟩ : ∃ x, Hid (x = w1.heap.size) := ⟨_, rfl⟩
 obtain ⟨Hb, HHB⟩ : ∃ x, Hid (x = gs + 1) := ⟨_, rfl⟩
 have eHB : Hb = w1.heap.size + 1 := by rw [HHB.out, HGS.out]
 obtain ⟨w2, HW2⟩ : ∃ x, Hid (x = (w1.alloc (.cells #[] 31)).alloc (.cells (hrC id f g1 n' cap1 p (.slice (some ⟨gs, 0, none⟩) 0 0)) 156)) := ⟨_, rfl⟩
 have b12 : Below w1.heap.size w1 w2 := by rw [HW2.out]; exact ((Below.refl _ _).alloc (Nat.le_refl _) _).alloc (by simp) _
 have RH : Row w2 Hb 156 (hrC id f g1 n' cap1 p (.slice (some ⟨gs, 0, none⟩) 0 0)) := by
  rw [HW2.out, eHB]
  have := Row.new (w1.alloc (.cells #[] 31)) (hrC id f g1 n' cap1 p (.slice (some ⟨gs, 0, none⟩) 0 0)) 156
  simpa using this
 have O2 : Ow w2 B (sysD 0 Y0) (.slice (some ⟨gs, 0, none⟩) 0 0) (fun x => x = gs) := by
  have o1 : Ow (w1.alloc (.cells #[] 31)) B (sysD 0 Y0) (.slice (some ⟨gs, 0, none⟩) 0 0) (fun x => x = gs) := by
   refine ⟨_, 0, fun _ _ => undef, fun _ _ _ => False, rfl, ?_, ⟨fun x e => by cases e; rfl, fun _ _ _ hi => absurd hi (Nat.not_lt_zero _), fun _ _ _ hi => absurd hi (Nat.not_lt_zero _), fun _ _ _ _ _ hi => absurd hi (Nat.not_lt_zero _)⟩, fun _ _ hi => absurd hi (Nat.not_lt_zero _)⟩
   have := World.ownsRow_lit (e := 31) (size := 10) (base := B) w1 #[] 0 hN1.b.2 (by unfold maxLen; omega) (by simp)
   rw [HGS.out]
   simpa [cL] using this
  rw [HW2.out]
  exact o1.below ((Below.refl _ _).alloc (Nat.le_refl _) _)
 have hsz2 : w2.heap.size = w1.heap.size + 2 := by rw [HW2.out]; simp
 have hw01 := t1.size
 have H2 : Hid (Hr w2 B Hb id f g1 n' cap1 p (slF S y.r n) (some ⟨gs, 0, none⟩) 0 0 Y0 F1a (fun x => x = gs)) := by
  have e1 := HGS.out
  have e2 := eHB
  have hlb := hN1.b.2
  exact ⟨RH, hN1.o.below b12, O2, fun x k1 k2 => by have := hN1.l1 x k1; omega, fun k => by have := hN1.l1 Hb k; omega, fun k => by omega, ⟨by omega, by omega⟩, fun x k => by have := hN1.l1 x k; omega, fun x k => by omega⟩
 have KN2 : Hid (Nw w2 B Nb id f g1 n' cap1 (slF S y.r n) F1a) := hN1.below b12
 have KL : Hid (gs = w1.heap.size ∧ Hb = w1.heap.size + 1 ∧ w2.heap.size = w1.heap.size + 2 ∧ w0.heap.size ≤ w1.heap.size) := ⟨HGS.out, eHB, hsz2, hw01⟩
 have KT2 : Hid (Trn w w2 (fun x => x = Nb ∨ F1 x)) := ((Trn.ofBelow _ KB0.out).trans t1).trans (Trn.ofBelow _ b12)
 have keepA : ∀ W, Trn w2 W (fun x => x = Hb ∨ F1a x ∨ x = gs) → ∀ k t cs, Row w0 k t cs → w.heap.size ≤ k → Row W k t cs := fun W hW k t cs hr hk => by
  have hk0 := hr.lt
  have r1 : Row w1 k t cs := (t1.block k hk0 (fun q => by
   rcases q with q | q
   ·have := HL.out.2.2.2.2.1; omega
   ·have := HL.out.2.2.2.2.2 k q; omega)).trans hr
  have r2 := r1.below b12 r1.lt
  refine (hW.block k r2.lt (fun q => ?_)).trans r2
  have e1 := HGS.out
  have e2 := eHB
  have l1 := r1.lt
  rcases q with q | q | q
  ·omega
  ·rcases hF1 k q with q | q
   ·have := HL.out.2.2.2.2.2 k q; omega
   ·omega
  ·omega
 have KAR : Hid (∀ W, Trn w2 W (fun x => x = Hb ∨ F1a x ∨ x = gs) → Row W A 31 (syC y (.slice a9 y.p.m c9)) ∧ Row W R 152 #[.func (.func 108) #[] #[], .func (.func 109) #[] #[], .func (.func 110) #[] #[]]) := fun W hW => ⟨keepA W hW A _ _ RA.out HL.out.1, keepA W hW R _ _ RR.out HL.out.2.2.2.1⟩
 have KBE : Hid (Below B wE w2.drew) := by
  have t2d : Trn w w2.drew (fun x => x = Nb ∨ F1 x) := KT2.out.trans (Trn.drew w2 _)
  exact KE.out.1.trans (t2d.below (fun x k => by rcases k with k | k; rw [k]; exact KE.out.2.1; exact KE.out.2.2.1 x k) KE.out.2.2.2)
 have e9 : syV y (.slice a9 y.p.m c9) = .agg #[.int .i64 1, .int .i64 y.f, .int .i64 y.t, .string y.r, .string y.p.r, .int .i64 y.p.k, .int .i64 y.p.n, .int .i64 y.p.i, .string y.p.b, .slice a9 y.p.m c9] := by
  show Value.agg #[.int .i64 y.k, .int .i64 y.f, .int .i64 y.t, .string y.r, .string y.p.r, .int .i64 y.p.k, .int .i64 y.p.n, .int .i64 y.p.i, .string y.p.b, .slice a9 y.p.m c9] = _
  rw [HKk.out]
 have h4' := KS1.out Hb w2.drew g1 cap1 (some ⟨gs, 0, none⟩) 0 F1a (fun x => x = gs) KBE.out (H2.out.below (below_drew w2))
 rw [e9] at h4'
 have KC4 : Hid _ := h4'
 clear h4' e9
 obtain ⟨rA2, rR2⟩ := KAR.out w2 (Trn.refl _ _)
 have u0 := rA2.cell 0
 have u1 := rA2.cell 1
 have u2 := rA2.cell 2
 have u3 := rA2.cell 3
 have u4 := rA2.cell 4
 have u5 := rA2.cell 5
 have u6 := rA2.cell 6
 have u7 := rA2.cell 7
 have u8 := rA2.cell 8
 have u9 := rA2.cell 9
 have uR := rR2.cell 1
 simp at u0 u1 u2 u3 u4 u5 u6 u7 u8 u9 uR
 rw [HKk.out] at u0
 clear hN1 t1 hF1 b12 RH O2 hsz2 hw01 keepA c3 eHB rA2 rR2
 go_upto_region 4 with (refine wpList_load_row (by rfl) 26 _ (by rfl) Nb (by rfl) 26 #[.int .i64 id, .int .i64 f, .slice (some ⟨g1, 0, none⟩) n' cap1] (0, 0) _ ?_ Tryz.underlying26 (by rfl) Tryz.infoNd ?_; exact RN1.out)
 rw [← HGS.out, ← HHB.out, ← HW2.out]
 go_region_with ((go_at_call 109; refine Calls.mono KC4.out ?_; rintro e w3 ⟨rfl, sa3, sc3, F13, F23, h3, t3, hF13, hF23⟩; have K3 : Hid (Hr w3 B Hb id f g1 n' cap1 p S1 sa3 m1 sc3 Y1 F13 F23 ∧ Trn w2 w3 (fun x => x = Hb ∨ F1a x ∨ x = gs) ∧ (∀ x, F13 x → F1a x ∨ w2.heap.size ≤ x) ∧ ∀ x, F23 x → x = gs ∨ w2.heap.size ≤ x) := ⟨h3, (Trn.drew w2 _).trans t3, hF13, hF23⟩; clear h3 t3 hF13 hF23))
 all_goals
  have v0 := (KAR.out w3 K3.out.2.1).1.cell 0
  simp at v0
  rw [HKk.out] at v0
  have KBE3 : Hid (Below B wE w3) := by
   have e1 := KL.out
   have hw2 : B ≤ w2.heap.size := H2.out.b.2
   have b2 : Below B wE w2 := ⟨KBE.out.os, KBE.out.tape, KBE.out.output, KBE.out.size, KBE.out.block⟩
   exact b2.trans (K3.out.2.1.below (fun x k => by
    rcases k with k | k | k
    ·rw [k]; exact H2.out.b.1
    ·exact (K1.out.1.l1 x k).1
    ·have := K1.out.1.b.2; omega) hw2)
  have KC5 : Hid _ := KS2.out Hb w3 g1 cap1 sa3 sc3 F13 F23 KBE3.out K3.out.1
  clear u0 u1 u2 u3 u4 u5 u6 u7 u8 u9 uR
  go_wp2_with fail
  refine Calls.mono KC5.out ?_
  rintro e w4 ⟨rfl, sa4, sc4, F14, F24, h4, t4, hF14, hF24⟩
  have z4 := h4.r.cell 4
  simp at z4
  have KF : Hid (Heard w w4 B Nb id f n' S2 m2 Y2 F1 (.slice sa4 m2 sc4)) := by
   obtain ⟨e1, e2, e3, e4⟩ := KL.out
   have s02 := KB0.out.size
   have s23 := K3.out.2.1.size
   have s34 := t4.size
   have hnb := HL.out.2.2.2.2.1
   have hFa : ∀ x, F13 x → F1 x ∨ w0.heap.size ≤ x := fun x k => by
    rcases K3.out.2.2.1 x k with k | k
    ·exact K1.out.2.2 x k
    ·exact .inr (by omega)
   have hFb : ∀ x, F23 x → w0.heap.size ≤ x := fun x k => by
    rcases K3.out.2.2.2 x k with k | k <;> omega
   have t24 : Trn w2 w4 (fun x => x = Hb ∨ F1a x ∨ x = gs) := K3.out.2.1.join t4 (fun x k => by
    rcases k with k | k | k
    ·exact .inl (.inl k)
    ·rcases K3.out.2.2.1 x k with k | k
     ·exact .inl (.inr (.inl k))
     ·exact .inr k
    ·rcases K3.out.2.2.2 x k with k | k
     ·exact .inl (.inr (.inr k))
     ·exact .inr k)
   have h14 : ∀ x, F14 x → F1 x ∨ w0.heap.size ≤ x := fun x k => by
    rcases hF14 x k with k | k
    ·exact hFa x k
    ·exact .inr (by omega)
   have h24 : ∀ x, F24 x → w0.heap.size ≤ x := fun x k => by
    rcases hF24 x k with k | k
    ·exact hFb x k
    ·omega
   have nF : ¬ F1 Nb := KNF.out
   have hN2 : Nw w2 B Nb id f g1 n' cap1 (slF S y.r n) F1a := KN2.out
   have nN : ¬ (Nb = Hb ∨ F1a Nb ∨ Nb = gs) := fun k => by
    rcases k with k | k | k
    ·omega
    ·exact hN2.h1 k
    ·omega
   refine ⟨g1, cap1, sa4, sc4, F14, F24, rfl, ⟨(t24.block Nb hN2.r.lt nN).trans hN2.r, h4.o, fun k => ?_, ⟨hN2.b.1, h4.b.2⟩, fun x k => ⟨?_, h4.l1 x k⟩⟩, h4.y, h4.d, fun k => ?_, KT2.out.join t24 (fun x k => ?_), fun x k => ?_, fun x k => ⟨?_, h4.l2 x k⟩⟩
   ·rcases h14 Nb k with k | k
    ·exact nF k
    ·omega
   ·rcases h14 x k with k | k
    ·exact KE.out.2.2.1 x k
    ·have := KE.out.2.2.2; omega
   ·have := h24 Nb k; omega
   ·rcases k with k | k | k
    ·exact .inr (by omega)
    ·rcases K1.out.2.2 x k with k | k
     ·exact .inl (.inr k)
     ·exact .inr (by omega)
    ·exact .inr (by omega)
   ·rcases h14 x k with k | k
    ·exact .inl k
    ·exact .inr (by omega)
   ·have := h24 x k; omega
  clear h4 t4 hF14 hF24
  go_wp2
  go_ret
  exact ⟨_, rfl, KF.out⟩
theorem hear2_any (id f : Int) (B Nb g n cap : Nat) (S S1 S2 : Nat → Sl) (y : Sy) (a9 : Option Addr) (c9 m1 m2 : Nat) (Y0 Y1 Y2 : Nat → Sy) (F1 : Nat → Prop) (w : World) (h : Nw w B Nb id f g n cap S F1) (hn : n ≤ 1048576) (hr : y.r.size ≤ 1048576) (hk : y.k = 2)
  (wE : World) (hE : Below B wE w)
  (s1 : ∀ Hb, Step (hrN S y.r n) 110 (syV y (.slice a9 y.p.m c9)) B Hb id f (plN S y.r n) (slF S y.r n) S1 0 m1 Y0 Y1 wE)
  (s2 : ∀ Hb, Step (hrN S y.r n) 112 (.int .i64 2) B Hb id f (plN S y.r n) S1 S2 m1 m2 Y1 Y2 wE) :
  Calls Tryz.prog 47 #[.pointer (some ⟨Nb, 0, none⟩), syV y (.slice a9 y.p.m c9)] w fun e w' => ∃ v, e = .returned v ∧ Heard w w' B Nb id f (hrN S y.r n) S2 m2 Y2 F1 v := by
 obtain ⟨A, HA⟩ : ∃ x, Hid (x = w.heap.size) := ⟨_, rfl⟩
 obtain ⟨R, HR⟩ : ∃ x, Hid (x = w.heap.size + 1) := ⟨_, rfl⟩
 obtain ⟨p, HPp⟩ : ∃ x, Hid (plN S y.r n = x) := ⟨_, rfl⟩
 obtain ⟨n', HNn⟩ : ∃ x, Hid (hrN S y.r n = x) := ⟨_, rfl⟩
 obtain ⟨wn, HWN⟩ : ∃ x, Hid (x = (w.alloc (.cells (syC y (.slice a9 y.p.m c9)) 31)).alloc (.cells #[.nilFunc, .nilFunc, .nilFunc] 152)) := ⟨_, rfl⟩
 have RAn : Row wn A 31 (syC y (.slice a9 y.p.m c9)) := by rw [HWN.out, HA.out]; exact Row.alloc (Row.new w _ _) _
 have RRn : Hid (Row wn R 152 #[.nilFunc, .nilFunc, .nilFunc]) := by
  show Row _ _ _ _
  rw [HWN.out, HR.out]
  have := Row.new (w.alloc (.cells (syC y (.slice a9 y.p.m c9)) 31)) #[.nilFunc, .nilFunc, .nilFunc] 152
  simpa using this
 have hbn : Below w.heap.size w wn := by rw [HWN.out]; exact ((Below.refl _ _).alloc (Nat.le_refl _) _).alloc (by simp) _
 obtain ⟨w0, HW0⟩ : ∃ x, Hid (x = wn.setRow R #[.func (.func 108) #[] #[], .func (.func 109) #[] #[], .func (.func 110) #[] #[]]) := ⟨_, rfl⟩
 have RA : Hid (Row w0 A 31 (syC y (.slice a9 y.p.m c9))) := by show Row _ _ _ _; rw [HW0.out]; exact RAn.otherRow (by have := HA.out; have := HR.out; omega)
 have RR : Hid (Row w0 R 152 #[.func (.func 108) #[] #[], .func (.func 109) #[] #[], .func (.func 110) #[] #[]]) := by show Row _ _ _ _; rw [HW0.out]; exact RRn.out.row
 have hb0 : Below w.heap.size w w0 := by rw [HW0.out]; exact belowSetRow hbn (by have := HR.out; omega) _
 have KB0 : Hid (Below w.heap.size w w0) := hb0
 have HL : Hid (w.heap.size ≤ A ∧ A < w0.heap.size ∧ R < w0.heap.size ∧ w.heap.size ≤ R ∧ Nb < w.heap.size ∧ ∀ x, F1 x → x < w.heap.size) := ⟨by have := HA.out; omega, RA.out.lt, RR.out.lt, by have := HR.out; omega, h.r.lt, fun x k => (h.l1 x k).2⟩
 have KE : Hid (Below B wE w ∧ B ≤ Nb ∧ (∀ x, F1 x → B ≤ x) ∧ B ≤ w.heap.size) := ⟨hE, h.b.1, fun x k => (h.l1 x k).1, h.b.2⟩
 have HKk : Hid (y.k = 2) := hk
 have KNF : Hid (¬ F1 Nb) := h.h1
 have KSF : Hid _ := slotFor_any id f B Nb g n cap S y.r F1 w0 (h.below hb0) hn hr
 rw [HPp.out, HNn.out] at s2
 rw [HNn.out]
 have KS1 : Hid (∀ Hb, Step n' 110 (syV y (.slice a9 y.p.m c9)) B Hb id f p (slF S y.r n) S1 0 m1 Y0 Y1 wE) := by rw [← HPp.out, ← HNn.out]; exact s1
 have KS2 : Hid (∀ Hb, Step n' 112 (.int .i64 2) B Hb id f p S1 S2 m1 m2 Y1 Y2 wE) := s2
 rw [HPp.out, HNn.out] at KSF
 have c3 := RA.out.cell 3
 simp at c3
 clear h hb0 hn hr s1 s2 RAn hbn hE hk
 go_enter Tryz.func47, Tryz.ntmps47
 go_wp2_with (rw [← HWN.out, ← HR.out, ← HA.out]; refine wpList_store_row (by rfl) 152 _ _ (by rfl) R #[.func (.func 108) #[] #[], .func (.func 109) #[] #[], .func (.func 110) #[] #[]] (by rfl) (by rfl) 152 #[.nilFunc, .nilFunc, .nilFunc] ?_ Tryz.infoF3 rfl (by simp [Value.oneCell']) ?_; exact RRn.out; rw [← HW0.out])
 refine Calls.mono KSF.out ?_
 rintro e w1 ⟨g1, cap1, F1a, rfl, hN1, t1, hF1⟩
 have K1 : Hid (Nw w1 B Nb id f g1 n' cap1 (slF S y.r n) F1a ∧ Trn w0 w1 (fun x => x = Nb ∨ F1 x) ∧ ∀ x, F1a x → F1 x ∨ w0.heap.size ≤ x) := ⟨hN1, t1, hF1⟩
 have RN1 : Hid _ := hN1.r
 -- the hearing's own block and the empty list of what is said
 obtain ⟨gs, HGS⟩ : ∃ x, Hid (x = w1.heap.size) := ⟨_, rfl⟩
 obtain ⟨Hb, HHB⟩ : ∃ x, Hid (x = gs + 1) := ⟨_, rfl⟩
 have eHB : Hb = w1.heap.size + 1 := by rw [HHB.out, HGS.out]
 obtain ⟨w2, HW2⟩ : ∃ x, Hid (x = (w1.alloc (.cells #[] 31)).alloc (.cells (hrC id f g1 n' cap1 p (.slice (some ⟨gs, 0, none⟩) 0 0)) 156)) := ⟨_, rfl⟩
 have b12 : Below w1.heap.size w1 w2 := by rw [HW2.out]; exact ((Below.refl _ _).alloc (Nat.le_refl _) _).alloc (by simp) _
 have RH : Row w2 Hb 156 (hrC id f g1 n' cap1 p (.slice (some ⟨gs, 0, none⟩) 0 0)) := by
  rw [HW2.out, eHB]
  have := Row.new (w1.alloc (.cells #[] 31)) (hrC id f g1 n' cap1 p (.slice (some ⟨gs, 0, none⟩) 0 0)) 156
  simpa using this
 have O2 : Ow w2 B (sysD 0 Y0) (.slice (some ⟨gs, 0, none⟩) 0 0) (fun x => x = gs) := by
  have o1 : Ow (w1.alloc (.cells #[] 31)) B (sysD 0 Y0) (.slice (some ⟨gs, 0, none⟩) 0 0) (fun x => x = gs) := by
   refine ⟨_, 0, fun _ _ => undef, fun _ _ _ => False, rfl, ?_, ⟨fun x e => by cases e; rfl, fun _ _ _ hi => absurd hi (Nat.not_lt_zero _), fun _ _ _ hi => absurd hi (Nat.not_lt_zero _), fun _ _ _ _ _ hi => absurd hi (Nat.not_lt_zero _)⟩, fun _ _ hi => absurd hi (Nat.not_lt_zero _)⟩
   have := World.ownsRow_lit (e := 31) (size := 10) (base := B) w1 #[] 0 hN1.b.2 (by unfold maxLen; omega) (by simp)
   rw [HGS.out]
   simpa [cL] using this
  rw [HW2.out]
  exact o1.below ((Below.refl _ _).alloc (Nat.le_refl _) _)
 have hsz2 : w2.heap.size = w1.heap.size + 2 := by rw [HW2.out]; simp
 have hw01 := t1.size
 have H2 : Hid (Hr w2 B Hb id f g1 n' cap1 p (slF S y.r n) (some ⟨gs, 0, none⟩) 0 0 Y0 F1a (fun x => x = gs)) := by
  have e1 := HGS.out
  have e2 := eHB
  have hlb := hN1.b.2
  exact ⟨RH, hN1.o.below b12, O2, fun x k1 k2 => by have := hN1.l1 x k1; omega, fun k => by have := hN1.l1 Hb k; omega, fun k => by omega, ⟨by omega, by omega⟩, fun x k => by have := hN1.l1 x k; omega, fun x k => by omega⟩
 have KN2 : Hid (Nw w2 B Nb id f g1 n' cap1 (slF S y.r n) F1a) := hN1.below b12
 have KL : Hid (gs = w1.heap.size ∧ Hb = w1.heap.size + 1 ∧ w2.heap.size = w1.heap.size + 2 ∧ w0.heap.size ≤ w1.heap.size) := ⟨HGS.out, eHB, hsz2, hw01⟩
 have KT2 : Hid (Trn w w2 (fun x => x = Nb ∨ F1 x)) := ((Trn.ofBelow _ KB0.out).trans t1).trans (Trn.ofBelow _ b12)
 have keepA : ∀ W, Trn w2 W (fun x => x = Hb ∨ F1a x ∨ x = gs) → ∀ k t cs, Row w0 k t cs → w.heap.size ≤ k → Row W k t cs := fun W hW k t cs hr hk => by
  have hk0 := hr.lt
  have r1 : Row w1 k t cs := (t1.block k hk0 (fun q => by
   rcases q with q | q
   ·have := HL.out.2.2.2.2.1; omega
   ·have := HL.out.2.2.2.2.2 k q; omega)).trans hr
  have r2 := r1.below b12 r1.lt
  refine (hW.block k r2.lt (fun q => ?_)).trans r2
  have e1 := HGS.out
  have e2 := eHB
  have l1 := r1.lt
  rcases q with q | q | q
  ·omega
  ·rcases hF1 k q with q | q
   ·have := HL.out.2.2.2.2.2 k q; omega
   ·omega
  ·omega
 have KAR : Hid (∀ W, Trn w2 W (fun x => x = Hb ∨ F1a x ∨ x = gs) → Row W A 31 (syC y (.slice a9 y.p.m c9)) ∧ Row W R 152 #[.func (.func 108) #[] #[], .func (.func 109) #[] #[], .func (.func 110) #[] #[]]) := fun W hW => ⟨keepA W hW A _ _ RA.out HL.out.1, keepA W hW R _ _ RR.out HL.out.2.2.2.1⟩
 have KBE : Hid (Below B wE w2.drew) := by
  have t2d : Trn w w2.drew (fun x => x = Nb ∨ F1 x) := KT2.out.trans (Trn.drew w2 _)
  exact KE.out.1.trans (t2d.below (fun x k => by rcases k with k | k; rw [k]; exact KE.out.2.1; exact KE.out.2.2.1 x k) KE.out.2.2.2)
 have e9 : syV y (.slice a9 y.p.m c9) = .agg #[.int .i64 2, .int .i64 y.f, .int .i64 y.t, .string y.r, .string y.p.r, .int .i64 y.p.k, .int .i64 y.p.n, .int .i64 y.p.i, .string y.p.b, .slice a9 y.p.m c9] := by
  show Value.agg #[.int .i64 y.k, .int .i64 y.f, .int .i64 y.t, .string y.r, .string y.p.r, .int .i64 y.p.k, .int .i64 y.p.n, .int .i64 y.p.i, .string y.p.b, .slice a9 y.p.m c9] = _
  rw [HKk.out]
 have h4' := KS1.out Hb w2.drew g1 cap1 (some ⟨gs, 0, none⟩) 0 F1a (fun x => x = gs) KBE.out (H2.out.below (below_drew w2))
 rw [e9] at h4'
 have KC4 : Hid _ := h4'
 clear h4' e9
 obtain ⟨rA2, rR2⟩ := KAR.out w2 (Trn.refl _ _)
 have u0 := rA2.cell 0
 have u1 := rA2.cell 1
 have u2 := rA2.cell 2
 have u3 := rA2.cell 3
 have u4 := rA2.cell 4
 have u5 := rA2.cell 5
 have u6 := rA2.cell 6
 have u7 := rA2.cell 7
 have u8 := rA2.cell 8
 have u9 := rA2.cell 9
 have uR := rR2.cell 2
 simp at u0 u1 u2 u3 u4 u5 u6 u7 u8 u9 uR
 rw [HKk.out] at u0
 clear hN1 t1 hF1 b12 RH O2 hsz2 hw01 keepA c3 eHB rA2 rR2
 go_upto_region 4 with (refine wpList_load_row (by rfl) 26 _ (by rfl) Nb (by rfl) 26 #[.int .i64 id, .int .i64 f, .slice (some ⟨g1, 0, none⟩) n' cap1] (0, 0) _ ?_ Tryz.underlying26 (by rfl) Tryz.infoNd ?_; exact RN1.out)
 rw [← HGS.out, ← HHB.out, ← HW2.out]
 go_region_with ((go_at_call 110; refine Calls.mono KC4.out ?_; rintro e w3 ⟨rfl, sa3, sc3, F13, F23, h3, t3, hF13, hF23⟩; have K3 : Hid (Hr w3 B Hb id f g1 n' cap1 p S1 sa3 m1 sc3 Y1 F13 F23 ∧ Trn w2 w3 (fun x => x = Hb ∨ F1a x ∨ x = gs) ∧ (∀ x, F13 x → F1a x ∨ w2.heap.size ≤ x) ∧ ∀ x, F23 x → x = gs ∨ w2.heap.size ≤ x) := ⟨h3, (Trn.drew w2 _).trans t3, hF13, hF23⟩; clear h3 t3 hF13 hF23))
 all_goals
  have v0 := (KAR.out w3 K3.out.2.1).1.cell 0
  simp at v0
  rw [HKk.out] at v0
  have KBE3 : Hid (Below B wE w3) := by
   have e1 := KL.out
   have hw2 : B ≤ w2.heap.size := H2.out.b.2
   have b2 : Below B wE w2 := ⟨KBE.out.os, KBE.out.tape, KBE.out.output, KBE.out.size, KBE.out.block⟩
   exact b2.trans (K3.out.2.1.below (fun x k => by
    rcases k with k | k | k
    ·rw [k]; exact H2.out.b.1
    ·exact (K1.out.1.l1 x k).1
    ·have := K1.out.1.b.2; omega) hw2)
  have KC5 : Hid _ := KS2.out Hb w3 g1 cap1 sa3 sc3 F13 F23 KBE3.out K3.out.1
  clear u0 u1 u2 u3 u4 u5 u6 u7 u8 u9 uR
  go_wp2_with fail
  refine Calls.mono KC5.out ?_
  rintro e w4 ⟨rfl, sa4, sc4, F14, F24, h4, t4, hF14, hF24⟩
  have z4 := h4.r.cell 4
  simp at z4
  have KF : Hid (Heard w w4 B Nb id f n' S2 m2 Y2 F1 (.slice sa4 m2 sc4)) := by
   obtain ⟨e1, e2, e3, e4⟩ := KL.out
   have s02 := KB0.out.size
   have s23 := K3.out.2.1.size
   have s34 := t4.size
   have hnb := HL.out.2.2.2.2.1
   have hFa : ∀ x, F13 x → F1 x ∨ w0.heap.size ≤ x := fun x k => by
    rcases K3.out.2.2.1 x k with k | k
    ·exact K1.out.2.2 x k
    ·exact .inr (by omega)
   have hFb : ∀ x, F23 x → w0.heap.size ≤ x := fun x k => by
    rcases K3.out.2.2.2 x k with k | k <;> omega
   have t24 : Trn w2 w4 (fun x => x = Hb ∨ F1a x ∨ x = gs) := K3.out.2.1.join t4 (fun x k => by
    rcases k with k | k | k
    ·exact .inl (.inl k)
    ·rcases K3.out.2.2.1 x k with k | k
     ·exact .inl (.inr (.inl k))
     ·exact .inr k
    ·rcases K3.out.2.2.2 x k with k | k
     ·exact .inl (.inr (.inr k))
     ·exact .inr k)
   have h14 : ∀ x, F14 x → F1 x ∨ w0.heap.size ≤ x := fun x k => by
    rcases hF14 x k with k | k
    ·exact hFa x k
    ·exact .inr (by omega)
   have h24 : ∀ x, F24 x → w0.heap.size ≤ x := fun x k => by
    rcases hF24 x k with k | k
    ·exact hFb x k
    ·omega
   have nF : ¬ F1 Nb := KNF.out
   have hN2 : Nw w2 B Nb id f g1 n' cap1 (slF S y.r n) F1a := KN2.out
   have nN : ¬ (Nb = Hb ∨ F1a Nb ∨ Nb = gs) := fun k => by
    rcases k with k | k | k
    ·omega
    ·exact hN2.h1 k
    ·omega
   refine ⟨g1, cap1, sa4, sc4, F14, F24, rfl, ⟨(t24.block Nb hN2.r.lt nN).trans hN2.r, h4.o, fun k => ?_, ⟨hN2.b.1, h4.b.2⟩, fun x k => ⟨?_, h4.l1 x k⟩⟩, h4.y, h4.d, fun k => ?_, KT2.out.join t24 (fun x k => ?_), fun x k => ?_, fun x k => ⟨?_, h4.l2 x k⟩⟩
   ·rcases h14 Nb k with k | k
    ·exact nF k
    ·omega
   ·rcases h14 x k with k | k
    ·exact KE.out.2.2.1 x k
    ·have := KE.out.2.2.2; omega
   ·have := h24 Nb k; omega
   ·rcases k with k | k | k
    ·exact .inr (by omega)
    ·rcases K1.out.2.2 x k with k | k
     ·exact .inl (.inr k)
     ·exact .inr (by omega)
    ·exact .inr (by omega)
   ·rcases h14 x k with k | k
    ·exact .inl k
    ·exact .inr (by omega)
   ·have := h24 x k; omega
  clear h4 t4 hF14 hF24
  go_wp2
  go_ret
  exact ⟨_, rfl, KF.out⟩
def nAll (f : Int) : Nat := (3 * f + 1).toNat
theorem nAll_is {f : Int} (h : 1 ≤ f ∧ f ≤ 3) : (nAll f : Int) = 3 * f + 1 := by unfold nAll; omega
def hvA (S : Nat → Sl) (p : Nat) (y : Sy) : Nat → Sl := if y.k = 1 then slEc S p (putI (S p).ze y.f) else slRd S p (putI (S p).zr y.f)
def hvT (f : Int) (S : Nat → Sl) (p : Nat) (y : Sy) : Int := stI f (hvA S p y p).ze.length (hvA S p y p).zr.length
def hvB (f : Int) (S : Nat → Sl) (p : Nat) (y : Sy) : Nat → Sl := if y.k = 1 then hvA S p y else slDn (hvA S p y) p ((hvA S p y p).o || decide (2 ≤ hvT f S p y))
def hvR (f : Int) (S : Nat → Sl) (p : Nat) (y : Sy) : Prop := 1 ≤ hvT f S p y ∧ (hvA S p y p).d = false
def hvE (id f : Int) (S : Nat → Sl) (p : Nat) (y : Sy) : Prop := (S p).e = false ∧ mineB y.r id f y.p.r y.p.k y.p.n y.p.i y.p.b y.p.m y.p.S = true
open Classical in
noncomputable def hvS (id f : Int) (S : Nat → Sl) (p : Nat) (y : Sy) : Nat → Sl := if y.k = 0 then (if hvE id f S p y then slGot S p y.p else S) else if hvR f S p y then slRy (hvB f S p y) p else hvB f S p y
open Classical in
noncomputable def hvM (id f : Int) (S : Nat → Sl) (p : Nat) (y : Sy) : Nat := if y.k = 0 then (if hvE id f S p y then nAll f else 0) else if hvR f S p y then nAll f else 0
def hvY (id : Int) (S : Nat → Sl) (p : Nat) (y : Sy) : Nat → Sy := syM (fun _ => syA 0 0 (S p).r 0) 0 (if y.k = 0 then 1 else 2) id (S p).r
theorem hvY_at (id : Int) (S : Nat → Sl) (p : Nat) (y : Sy) (i : Nat) : hvY id S p y i = syA (if y.k = 0 then 1 else 2) id (S p).r i := by unfold hvY syM; simp
theorem plN_lt (S : Nat → Sl) (r : ByteArray) (n : Nat) : plN S r n < hrN S r n := by
 unfold plN hrN
 cases e : plc S r n with
 | none => simp
 | some x =>
  obtain ⟨_, h, _, _⟩ := plF_some e
  simpa using h
theorem HrX.of {w W : World} {B Hb : Nat} {id f : Int} {g n cap p : Nat} {S : Nat → Sl} {sa : Option Addr} {m sc : Nat} {Y : Nat → Sy} {F1 F2 : Nat → Prop} (h : Hr W B Hb id f g n cap p S sa m sc Y F1 F2) (t : Trn w W (fun x => x = Hb ∨ F1 x ∨ F2 x)) : HrX w W B Hb id f g n cap p S m Y F1 F2 := ⟨sa, sc, F1, F2, h, t, fun _ k => .inl k, fun _ k => .inl k⟩
structure HvK (S : Nat → Sl) (p : Nat) (y : Sy) : Prop where
 ze : (S p).ze.length ≤ 1048575
 zr : (S p).zr.length ≤ 1048575
 se : (S p).ze.Pairwise (· ≤ ·)
 sr : (S p).zr.Pairwise (· ≤ ·)
 r : (S p).r.size ≤ 1048576
 m : y.p.m ≤ 1048576
 pr : y.p.r.size ≤ 1048576
 pb : y.p.b.size ≤ 1048576
 ps : ∀ i, i < y.p.m → (y.p.S i).size ≤ 1048576
theorem hear_any (id f : Int) (B Nb g n cap : Nat) (S : Nat → Sl) (y : Sy) (a9 : Option Addr) (c9 : Nat) (F1 : Nat → Prop) (w wE : World) (h : Nw w B Nb id f g n cap S F1) (hn : n ≤ 1048576) (hr : y.r.size ≤ 1048576) (hk : 0 ≤ y.k ∧ y.k ≤ 2) (hf : 1 ≤ f ∧ f ≤ 3) (hE : Below B wE w) (hT : ∀ W, Below B wE W → TxtAt W a9 y.p.m y.p.S) (hK : HvK (slF S y.r n) (plN S y.r n) y) :
  Calls Tryz.prog 47 #[.pointer (some ⟨Nb, 0, none⟩), syV y (.slice a9 y.p.m c9)] w fun e w' => ∃ v, e = .returned v ∧ Heard w w' B Nb id f (hrN S y.r n) (hvS id f (slF S y.r n) (plN S y.r n) y) (hvM id f (slF S y.r n) (plN S y.r n) y) (hvY id (slF S y.r n) (plN S y.r n) y) F1 v := by
 have hp := plN_lt S y.r n
 have h3 := nAll_is hf
 obtain ⟨S0, HS0⟩ : ∃ x, x = slF S y.r n := ⟨_, rfl⟩
 obtain ⟨p, HP⟩ : ∃ x, x = plN S y.r n := ⟨_, rfl⟩
 rw [← HS0, ← HP] at hK ⊢
 rw [← HP] at hp
 by_cases k0 : y.k = 0
 ·have eY : hvY id S0 p y = syM (fun _ => syA 0 0 (S0 p).r 0) 0 1 id (S0 p).r := by unfold hvY; rw [if_pos k0]
  rw [eY]
  by_cases he : hvE id f S0 p y
  ·have eS : hvS id f S0 p y = slGot S0 p y.p := by unfold hvS; rw [if_pos k0, if_pos he]
   have eM : hvM id f S0 p y = 0 + nAll f := by unfold hvM; rw [if_pos k0, if_pos he]; omega
   rw [eS, eM]
   refine hear0_any id f B Nb g n cap S (slGot S0 p y.p) (slGot S0 p y.p) y a9 c9 (0 + nAll f) (0 + nAll f) (fun _ => syA 0 0 (S0 p).r 0) (syM (fun _ => syA 0 0 (S0 p).r 0) 0 1 id (S0 p).r) _ F1 w h hn hr k0 wE hE ?_ ?_
   ·intro Hb W g cap sa sc F1 F2 hW hH
    rw [← HS0, ← HP] at hH
    rw [← HP]
    exact hearPiece_y id f B Hb g _ cap p S0 sa 0 sc _ F1 F2 y a9 c9 (nAll f) W hH hf hp (hT W hW) hK.m hK.pr hK.pb hK.ps he.1 he.2 (by omega) hK.r h3
   ·intro Hb W g cap sa sc F1 F2 _ hH
    rw [← HP] at hH ⊢
    refine (settle0_any id f B Hb g _ cap p _ sa _ sc _ F1 F2 _ W hH hf hp rfl).mono ?_
    rintro e w' ⟨rfl, hh, t⟩
    exact ⟨rfl, HrX.of hh t⟩
  ·have eS : hvS id f S0 p y = S0 := by unfold hvS; rw [if_pos k0, if_neg he]
   have eM : hvM id f S0 p y = 0 := by unfold hvM; rw [if_pos k0, if_neg he]
   rw [eS, eM]
   have hn' : (S0 p).e = true ∨ mineB y.r id f y.p.r y.p.k y.p.n y.p.i y.p.b y.p.m y.p.S = false := by
    unfold hvE at he
    cases e1 : (S0 p).e with
    | true => exact .inl rfl
    | false =>
     right
     cases e2 : mineB y.r id f y.p.r y.p.k y.p.n y.p.i y.p.b y.p.m y.p.S with
     | false => rfl
     | true => exact absurd ⟨e1, e2⟩ he
   refine hear0_any id f B Nb g n cap S S0 S0 y a9 c9 0 0 (syM (fun _ => syA 0 0 (S0 p).r 0) 0 1 id (S0 p).r) (syM (fun _ => syA 0 0 (S0 p).r 0) 0 1 id (S0 p).r) _ F1 w h hn hr k0 wE hE ?_ ?_
   ·intro Hb W g cap sa sc F1 F2 hW hH
    rw [← HS0, ← HP] at hH
    rw [← HP]
    refine (hearPiece_n id f B Hb g _ cap p S0 sa 0 sc _ F1 F2 y a9 c9 W hH hf hp (hT W hW) hK.m (fun i hi => Nat.le_trans (hK.ps i hi) (by unfold maxLen; omega)) hn').mono ?_
    rintro e w' ⟨rfl, hh, t⟩
    exact ⟨rfl, HrX.of hh t⟩
   ·intro Hb W g cap sa sc F1 F2 _ hH
    rw [← HP] at hH ⊢
    refine (settle0_any id f B Hb g _ cap p _ sa _ sc _ F1 F2 _ W hH hf hp rfl).mono ?_
    rintro e w' ⟨rfl, hh, t⟩
    exact ⟨rfl, HrX.of hh t⟩
 ·have eY : hvY id S0 p y = syM (fun _ => syA 0 0 (S0 p).r 0) 0 2 id (S0 p).r := by unfold hvY; rw [if_neg k0]
  rw [eY]
  by_cases k1 : y.k = 1
  ·have eA : hvA S0 p y = slEc S0 p (putI (S0 p).ze y.f) := by unfold hvA; rw [if_pos k1]
   have eB : hvB f S0 p y = hvA S0 p y := by unfold hvB; rw [if_pos k1]
   have eR : (hvA S0 p y p).r = (S0 p).r := by rw [eA]; unfold slEc; simp
   have hz : (S0 p).ze.length ≤ 1048576 := by have := hK.ze; omega
   by_cases hR : hvR f S0 p y
   ·have eS : hvS id f S0 p y = slRy (hvB f S0 p y) p := by unfold hvS; rw [if_neg k0, if_pos hR]
    have eM : hvM id f S0 p y = 0 + nAll f := by unfold hvM; rw [if_neg k0, if_pos hR]; omega
    rw [eS, eM, eB]
    refine hear1_any id f B Nb g n cap S (hvA S0 p y) _ y a9 c9 0 (0 + nAll f) (fun _ => syA 0 0 (S0 p).r 0) (fun _ => syA 0 0 (S0 p).r 0) (syM (fun _ => syA 0 0 (S0 p).r 0) 0 2 id (S0 p).r) F1 w h hn hr k1 wE hE ?_ ?_
    ·intro Hb W g cap sa sc F1 F2 _ hH
     rw [← HS0, ← HP] at hH
     rw [← HP, eA]
     refine (hearEcho_any id f B Hb g _ cap p S0 sa 0 sc _ F1 F2 y (.slice a9 y.p.m c9) W hH hp hz hK.se).mono ?_
     rintro e w' ⟨rfl, F1', hh, t, hF⟩
     exact ⟨rfl, sa, sc, F1', F2, hh, t, hF, fun _ k => .inl k⟩
    ·intro Hb W g cap sa sc F1 F2 _ hH
     rw [← HP] at hH ⊢
     have := settle1y_any id f B Hb g _ cap p (hvA S0 p y) sa 0 sc (fun _ => syA 0 0 (S0 p).r 0) F1 F2 (nAll f) _ W hH hf hp rfl hR.1 hR.2 (by omega) (by rw [eR]; exact hK.r) h3
     rw [eR] at this
     exact this
   ·have eS : hvS id f S0 p y = hvB f S0 p y := by unfold hvS; rw [if_neg k0, if_neg hR]
    have eM : hvM id f S0 p y = 0 := by unfold hvM; rw [if_neg k0, if_neg hR]
    rw [eS, eM, eB]
    have hn' : hvT f S0 p y < 1 ∨ (hvA S0 p y p).d = true := by
     by_cases q : hvT f S0 p y < 1
     ·exact .inl q
     ·right
      cases e1 : (hvA S0 p y p).d with
      | true => rfl
      | false => exact absurd ⟨by omega, e1⟩ hR
    refine hear1_any id f B Nb g n cap S (hvA S0 p y) _ y a9 c9 0 0 (syM (fun _ => syA 0 0 (S0 p).r 0) 0 2 id (S0 p).r) (syM (fun _ => syA 0 0 (S0 p).r 0) 0 2 id (S0 p).r) _ F1 w h hn hr k1 wE hE ?_ ?_
    ·intro Hb W g cap sa sc F1 F2 _ hH
     rw [← HS0, ← HP] at hH
     rw [← HP, eA]
     refine (hearEcho_any id f B Hb g _ cap p S0 sa 0 sc _ F1 F2 y (.slice a9 y.p.m c9) W hH hp hz hK.se).mono ?_
     rintro e w' ⟨rfl, F1', hh, t, hF⟩
     exact ⟨rfl, sa, sc, F1', F2, hh, t, hF, fun _ k => .inl k⟩
    ·intro Hb W g cap sa sc F1 F2 _ hH
     rw [← HP] at hH ⊢
     refine (settle1n_any id f B Hb g _ cap p (hvA S0 p y) sa 0 sc _ F1 F2 _ W hH hf hp rfl hn').mono ?_
     rintro e w' ⟨rfl, hh, t⟩
     exact ⟨rfl, HrX.of hh t⟩
  ·have k2 : y.k = 2 := by omega
   have eA : hvA S0 p y = slRd S0 p (putI (S0 p).zr y.f) := by unfold hvA; rw [if_neg k1]
   have eB : hvB f S0 p y = slDn (hvA S0 p y) p ((hvA S0 p y p).o || decide (2 ≤ hvT f S0 p y)) := by unfold hvB; rw [if_neg k1]
   have eR : (hvA S0 p y p).r = (S0 p).r := by rw [eA]; unfold slRd; simp
   have hz : (S0 p).zr.length ≤ 1048576 := by have := hK.zr; omega
   by_cases hR : hvR f S0 p y
   ·have eS : hvS id f S0 p y = slRy (hvB f S0 p y) p := by unfold hvS; rw [if_neg k0, if_pos hR]
    have eM : hvM id f S0 p y = 0 + nAll f := by unfold hvM; rw [if_neg k0, if_pos hR]; omega
    rw [eS, eM, eB]
    refine hear2_any id f B Nb g n cap S (hvA S0 p y) _ y a9 c9 0 (0 + nAll f) (fun _ => syA 0 0 (S0 p).r 0) (fun _ => syA 0 0 (S0 p).r 0) (syM (fun _ => syA 0 0 (S0 p).r 0) 0 2 id (S0 p).r) F1 w h hn hr k2 wE hE ?_ ?_
    ·intro Hb W g cap sa sc F1 F2 _ hH
     rw [← HS0, ← HP] at hH
     rw [← HP, eA]
     refine (hearReady_any id f B Hb g _ cap p S0 sa 0 sc _ F1 F2 y (.slice a9 y.p.m c9) W hH hp hz hK.sr).mono ?_
     rintro e w' ⟨rfl, F1', hh, t, hF⟩
     exact ⟨rfl, sa, sc, F1', F2, hh, t, hF, fun _ k => .inl k⟩
    ·intro Hb W g cap sa sc F1 F2 _ hH
     rw [← HP] at hH ⊢
     have := settle2y_any id f B Hb g _ cap p (hvA S0 p y) sa 0 sc (fun _ => syA 0 0 (S0 p).r 0) F1 F2 (nAll f) _ W hH hf hp rfl hR.1 hR.2 (by omega) (by rw [eR]; exact hK.r) h3
     rw [eR] at this
     exact this
   ·have eS : hvS id f S0 p y = hvB f S0 p y := by unfold hvS; rw [if_neg k0, if_neg hR]
    have eM : hvM id f S0 p y = 0 := by unfold hvM; rw [if_neg k0, if_neg hR]
    rw [eS, eM, eB]
    have hn' : hvT f S0 p y < 1 ∨ (hvA S0 p y p).d = true := by
     by_cases q : hvT f S0 p y < 1
     ·exact .inl q
     ·right
      cases e1 : (hvA S0 p y p).d with
      | true => rfl
      | false => exact absurd ⟨by omega, e1⟩ hR
    refine hear2_any id f B Nb g n cap S (hvA S0 p y) _ y a9 c9 0 0 (syM (fun _ => syA 0 0 (S0 p).r 0) 0 2 id (S0 p).r) (syM (fun _ => syA 0 0 (S0 p).r 0) 0 2 id (S0 p).r) _ F1 w h hn hr k2 wE hE ?_ ?_
    ·intro Hb W g cap sa sc F1 F2 _ hH
     rw [← HS0, ← HP] at hH
     rw [← HP, eA]
     refine (hearReady_any id f B Hb g _ cap p S0 sa 0 sc _ F1 F2 y (.slice a9 y.p.m c9) W hH hp hz hK.sr).mono ?_
     rintro e w' ⟨rfl, F1', hh, t, hF⟩
     exact ⟨rfl, sa, sc, F1', F2, hh, t, hF, fun _ k => .inl k⟩
    ·intro Hb W g cap sa sc F1 F2 _ hH
     rw [← HP] at hH ⊢
     refine (settle2n_any id f B Hb g _ cap p (hvA S0 p y) sa 0 sc _ F1 F2 _ W hH hf hp rfl hn').mono ?_
     rintro e w' ⟨rfl, F1', hh, t, hF⟩
     exact ⟨rfl, sa, sc, F1', F2, hh, t, hF, fun _ k => .inl k⟩
end Go.Proofs.YtcaejlalnjnifaaGreat
