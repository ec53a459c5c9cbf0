import Derived.Test.YtaenoiffamgcfaaGreatDoorM32
import Derived.Test.YtaenoiffamgcfaaGreatDoorM23
import Derived.Test.YtaenoiffamgcfaaGreatDoorM28
import Derived.Test.YtaenoiffamgcfaaGreatDoorM29
set_option maxHeartbeats 8000000
set_option maxRecDepth 2000
namespace Go.Proofs.YtaenoiffamgcfaaGreatDoor
open Go.ChangeShapes Go.WideShapes Go.ChangeAt Go.RowKit Go.Sort
def Rf (W : World) (E : Nat → Prop) (d : Dt) (v : Value) : Prop := ∀ W', W.heap.size ≤ W'.heap.size → (∀ b, ¬ E b → b < W.heap.size → W'.heap[b]? = W.heap[b]?) → Rd W' d v
theorem Rf.rd {W : World} {E : Nat → Prop} {d : Dt} {v : Value} (h : Rf W E d v) : Rd W d v := h W (Nat.le_refl _) (fun _ _ _ => rfl)
theorem Rf.turn {W W2 : World} {E : Nat → Prop} {d : Dt} {v : Value} (h : Rf W E d v) (hs : W.heap.size ≤ W2.heap.size) (ht : ∀ b, ¬ E b → b < W.heap.size → W2.heap[b]? = W.heap[b]?) : Rf W2 E d v :=
 fun W' h1 h2 => h W' (Nat.le_trans hs h1) (fun b hb hl => (h2 b hb (Nat.lt_of_lt_of_le hl hs)).trans (ht b hb hl))
theorem Rf.below {W W2 : World} {E : Nat → Prop} {d : Dt} {v : Value} (h : Rf W E d v) (hb : Below W.heap.size W W2) : Rf W2 E d v := h.turn hb.size (fun b _ hl => hb.block b hl)
theorem Rf.setCell {W : World} {E : Nat → Prop} {d : Dt} {v : Value} (h : Rf W E d v) {g : Nat} (hg : E g) (i : Nat) (u : Value) : Rf (W.setCell ⟨g, i, none⟩ u) E d v := h.turn (by simp) (fun b hb _ => Below.heap_setCell _ _ _ _ (fun e => hb (e ▸ hg)))
theorem Rf.of_ow {W : World} {B : Nat} {E F : Nat → Prop} {d : Dt} {v : Value} (h : Ow W B d v F) (hE : ∀ x, F x → ¬ E x) : Rf W E d v := fun _ _ h2 => (h.frame (fun x hx hl => h2 x (hE x hx) hl)).rd
theorem cell_same {W W' : World} {b o : Nat} (h : W'.heap[b]? = W.heap[b]?) : W'.cell? ⟨b, o, none⟩ = W.cell? ⟨b, o, none⟩ := by
 simp only [World.cell?, h]
theorem Rf.ints {W : World} {E : Nat → Prop} {a : Option Addr} {c : Nat} {zs : List Int} (h : IntsAt W a zs.length zs) (hE : ∀ b, a = some b → ¬ E b.block) : Rf W E (inD zs) (.slice a zs.length c) := by
 intro W' h1 h2
 refine rd_ints.2 ⟨h.1, fun i hi => ?_⟩
 obtain ⟨b, off, ea, hc⟩ := h.2 i hi
 refine ⟨b, off, ea, ?_⟩
 have hl : b < W.heap.size := block_lt_of_cell hc
 rw [cell_same (h2 b (hE _ ea) hl)]
 exact hc
def NhR (w W : World) (id f : Int) (n : Nat) (S : Nat → Sl) (m : Nat) (Y : Nat → Sy) (e : Ending) : Prop :=
 ∃ a c sa sc, e = .returned (.tuple #[ndV id f (.slice a n c), .slice sa m sc]) ∧ Rf W (fun b => b < w.heap.size) (slsD n S) (.slice a n c) ∧ Rf W (fun b => b < w.heap.size) (sysD m Y) (.slice sa m sc) ∧ Below w.heap.size w W ∧ ∃ F, Ow W w.heap.size (slsD n S) (.slice a n c) F
theorem SlK.s {s : Sl} (h : SlK s) : SlS s := ⟨h.m, h.ne, h.nr⟩
theorem rd_none (W : World) (g : Nat) (y : Nat → Sy) : Rd W (sysD 0 y) (.slice (some ⟨g, 0, none⟩) 0 0) := ⟨_, _, rfl, fun i hi => absurd hi (Nat.not_lt_zero i)⟩
structure MhA (w w0 W : World) (A C D : Nat) (id f : Int) (g n c : Nat) (S : Nat → Sl) (y : Sy) (a9 : Option Addr) (c9 gs : Nat) : Prop where
 ra : Row W A 37 #[.int .i64 id, .int .i64 f, .slice (some ⟨g, 0, none⟩) n c]
 rc : Row W C 87 (syC y (.slice a9 y.p.m c9))
 rd : Row W D 37 #[.int .i64 0, .int .i64 0, .slice none 0 0]
 o : Ow W w0.heap.size (slsD n S) (.slice (some ⟨g, 0, none⟩) n c) (rng w0.heap.size gs)
 b : Below w.heap.size w W
 s : Row W gs 87 #[]
 l1 : w0.heap.size ≤ gs
 l2 : gs < W.heap.size
theorem MhA.below {w w0 W W' : World} {A C D : Nat} {id f : Int} {g n c : Nat} {S : Nat → Sl} {y : Sy} {a9 : Option Addr} {c9 gs : Nat} (h : MhA w w0 W A C D id f g n c S y a9 c9 gs) (hb : Below W.heap.size W W') : MhA w w0 W' A C D id f g n c S y a9 c9 gs :=
 ⟨h.ra.below hb h.ra.lt, h.rc.below hb h.rc.lt, h.rd.below hb h.rd.lt, h.o.below hb, below2 h.b hb, h.s.below hb h.s.lt, h.l1, Nat.lt_of_lt_of_le h.l2 hb.size⟩
theorem sNodeHear_no1 (id f : Int) (a : Option Addr) (n cap : Nat) (S : Nat → Sl) (y : Sy) (a9 : Option Addr) (c9 : Nat) (w : World) (hT : Rd w (slsD n S) (.slice a n cap)) (hB : NhB n S y) (hno : ndB id f n S = false) :
  Calls Tryz.prog 52 #[ndV id f (.slice a n cap), syV y (.slice a9 y.p.m c9)] w fun e w' => NhR w w' id f n S 0 (fun _ => syA 0 0 y.r 0) e := by
 obtain ⟨A, HA⟩ : ∃ x, Hid (x = w.heap.size) := ⟨_, rfl⟩
 obtain ⟨C, HC⟩ : ∃ x, Hid (x = w.heap.size + 1) := ⟨_, rfl⟩
 obtain ⟨D, HD⟩ : ∃ x, Hid (x = w.heap.size + 1 + 1) := ⟨_, rfl⟩
 obtain ⟨w0, HW0⟩ : ∃ x, Hid (x = ((w.alloc (.cells #[.int .i64 id, .int .i64 f, .slice a n cap] 37)).alloc (.cells (syC y (.slice a9 y.p.m c9)) 87)).alloc (.cells #[.int .i64 0, .int .i64 0, .slice none 0 0] 37)) := ⟨_, rfl⟩
 have RA : Hid (Row w0 A 37 #[.int .i64 id, .int .i64 f, .slice a n cap]) := by show Row _ _ _ _; rw [HW0.out, HA.out]; exact Row.alloc (Row.alloc (Row.new w _ _) _) _
 have RC : Hid (Row w0 C 87 (syC y (.slice a9 y.p.m c9))) := by
  show Row _ _ _ _
  rw [HW0.out, HC.out]
  have := Row.new (w.alloc (.cells #[.int .i64 id, .int .i64 f, .slice a n cap] 37)) (syC y (.slice a9 y.p.m c9)) 87
  exact Row.alloc (by simpa using this) _
 have RD : Hid (Row w0 D 37 #[.int .i64 0, .int .i64 0, .slice none 0 0]) := by
  show Row _ _ _ _
  rw [HW0.out, HD.out]
  have := Row.new ((w.alloc (.cells #[.int .i64 id, .int .i64 f, .slice a n cap] 37)).alloc (.cells (syC y (.slice a9 y.p.m c9)) 87)) #[.int .i64 0, .int .i64 0, .slice none 0 0] 37
  simpa using this
 have hb0 : Below w.heap.size w w0 := by rw [HW0.out]; exact (((Below.refl _ _).alloc (Nat.le_refl _) _).alloc (by simp) _).alloc (by simp; omega) _
 have KB0 : Hid (Below w.heap.size w w0) := hb0
 have HL : Hid (w.heap.size ≤ A ∧ w.heap.size ≤ C ∧ w.heap.size ≤ D ∧ A < w0.heap.size ∧ C < w0.heap.size ∧ D < w0.heap.size) := ⟨by have := HA.out; omega, by have := HC.out; omega, by have := HD.out; omega, RA.out.lt, RC.out.lt, RD.out.lt⟩
 have LAC : Hid (A ≠ C ∧ A ≠ D ∧ C ≠ D) := ⟨by have := HA.out; have := HC.out; omega, by have := HA.out; have := HD.out; omega, by have := HC.out; have := HD.out; omega⟩
 have KCP : Hid _ := sCopyN_any id f a n cap S w0 (hT.below hb0) hB.kn (fun i hi => (hB.k i hi).s)
 have HB : Hid (NhB n S y) := hB
 have HND : Hid (ndB id f n S = false) := hno
 clear hT hB hb0 hno
 go_enter Tryz.func52, Tryz.ntmps52
 go_wp2_with (rw [← HW0.out, ← HD.out, ← HC.out, ← HA.out]; refine wpList_load_row (by rfl) 37 _ (by rfl) A (by rfl) 37 #[.int .i64 id, .int .i64 f, .slice a n cap] (0, 0) _ ?_ Tryz.underlying37 (by rfl) Tryz.infoNd ?_; exact RA.out)
 refine Calls.mono KCP.out ?_
 rintro e w1 ⟨g, c, rfl, O1, b1⟩
 obtain ⟨w2, HW2⟩ : ∃ x, Hid (x = w1.setRow A #[.int .i64 id, .int .i64 f, .slice (some ⟨g, 0, none⟩) n c]) := ⟨_, rfl⟩
 obtain ⟨gs, HGS⟩ : ∃ x, Hid (x = w2.heap.size) := ⟨_, rfl⟩
 obtain ⟨w3, HW3⟩ : ∃ x, Hid (x = w2.alloc (.cells #[] 87)) := ⟨_, rfl⟩
 have R1 : Hid (Row w1 A 37 #[.int .i64 id, .int .i64 f, .slice a n cap]) := RA.out.below b1 RA.out.lt
 have K3 : Hid (MhA w w0 w3 A C D id f g n c S y a9 c9 gs) := by
  have b3 : Below w2.heap.size w2 w3 := by rw [HW3.out]; exact (Below.refl _ _).alloc (Nat.le_refl _) _
  have e2 : w2.heap.size = w1.heap.size := by rw [HW2.out]; simp
  have l := HL.out
  have s1 := b1.size
  have ra2 : Row w2 A 37 #[.int .i64 id, .int .i64 f, .slice (some ⟨g, 0, none⟩) n c] := by rw [HW2.out]; exact R1.out.row
  have rc2 : Row w2 C 87 (syC y (.slice a9 y.p.m c9)) := by rw [HW2.out]; exact (RC.out.below b1 RC.out.lt).otherRow (fun e => LAC.out.1 e.symm)
  have rd2 : Row w2 D 37 #[.int .i64 0, .int .i64 0, .slice none 0 0] := by rw [HW2.out]; exact (RD.out.below b1 RD.out.lt).otherRow (fun e => LAC.out.2.1 e.symm)
  have o2 : Ow w2 w0.heap.size (slsD n S) (.slice (some ⟨g, 0, none⟩) n c) (rng w0.heap.size w1.heap.size) := by
   rw [HW2.out]
   exact O1.frame fun x hx _ => setRow_other _ _ _ _ (fun e => by have h1 : w0.heap.size ≤ x := hx.1; omega)
  have b2 : Below w.heap.size w w2 := by rw [HW2.out]; exact belowSetRow (below2 KB0.out b1) l.1 _
  refine ⟨ra2.below b3 ra2.lt, rc2.below b3 rc2.lt, rd2.below b3 rd2.lt, (o2.below b3).mono (fun x hx => ⟨hx.1, ?_⟩), below2 b2 b3, ?_, ?_, ?_⟩
  ·have h1 : x < w1.heap.size := hx.2
   rw [HGS.out]; omega
  ·rw [HW3.out, HGS.out]; exact Row.new w2 _ _
  ·rw [HGS.out]; omega
  ·rw [HGS.out]
   have := b3.size
   rw [HW3.out]
   simp
 have KRA3 : Hid (Row w3 A 37 #[.int .i64 id, .int .i64 f, .slice (some ⟨g, 0, none⟩) n c]) := K3.out.ra
 have KRC3 : Hid (Row w3 C 87 (syC y (.slice a9 y.p.m c9))) := K3.out.rc
 have KPL : Hid _ := sPlace_any id f (some ⟨g, 0, none⟩) n c S y.r w3 K3.out.o.rd HB.out.kn
 have u3 := KRC3.out.cell 3
 simp at u3
 clear O1 b1
 go_wp2_with (first | (refine wpList_store_row (by rfl) 37 _ _ (by rfl) A #[.int .i64 id, .int .i64 f, .slice (some ⟨g, 0, none⟩) n c] (by rfl) (by rfl) 37 #[.int .i64 id, .int .i64 f, .slice a n cap] ?_ Tryz.infoNd rfl (by simp [Value.oneCell']) ?_; exact R1.out; rw [← HW2.out]) | (rw [← HW3.out, ← HGS.out]; refine wpList_load_row (by rfl) 37 _ (by rfl) A (by rfl) 37 #[.int .i64 id, .int .i64 f, .slice (some ⟨g, 0, none⟩) n c] (0, 0) _ ?_ Tryz.underlying37 (by rfl) Tryz.infoNd ?_; exact KRA3.out))
 refine Calls.mono KPL.out ?_
 rintro e w4 ⟨rfl, b4⟩
 have K4 : Hid (MhA w w0 w4 A C D id f g n c S y a9 c9 gs) := K3.out.below b4
 obtain ⟨pl, HPL⟩ : ∃ x : Int, Hid (x = ((plN S y.r n : Nat) : Int)) := ⟨_, rfl⟩
 rw [← HPL.out]
 have RA4 : Hid (Row w4 A 37 #[.int .i64 id, .int .i64 f, .slice (some ⟨g, 0, none⟩) n c]) := K4.out.ra
 have RC4 : Hid (Row w4 C 87 (syC y (.slice a9 y.p.m c9))) := K4.out.rc
 clear u3 b4 KPL KCP K3 KRA3 KRC3 R1 HW3 HW2 HGS
 have x0 := RA4.out.cell 0
 have x1 := RA4.out.cell 1
 have x2 := RA4.out.cell 2
 have v0 := RC4.out.cell 0
 have v1 := RC4.out.cell 1
 have v2 := RC4.out.cell 2
 have v3 := RC4.out.cell 3
 simp at x0 x1 x2 v0 v1 v2 v3
 have X0 : ∀ d os, (grow (redrawn w4 d) os).cell? ⟨A, 0, none⟩ = _ := fun d os => cell_regrown x0 d os
 have X1 : ∀ d os, (grow (redrawn w4 d) os).cell? ⟨A, 1, none⟩ = _ := fun d os => cell_regrown x1 d os
 have X2 : ∀ d os, (grow (redrawn w4 d) os).cell? ⟨A, 2, none⟩ = _ := fun d os => cell_regrown x2 d os
 have V0 : ∀ d os, (grow (redrawn w4 d) os).cell? ⟨C, 0, none⟩ = _ := fun d os => cell_regrown v0 d os
 have V1 : ∀ d os, (grow (redrawn w4 d) os).cell? ⟨C, 1, none⟩ = _ := fun d os => cell_regrown v1 d os
 have V2 : ∀ d os, (grow (redrawn w4 d) os).cell? ⟨C, 2, none⟩ = _ := fun d os => cell_regrown v2 d os
 have V3 : ∀ d os, (grow (redrawn w4 d) os).cell? ⟨C, 3, none⟩ = _ := fun d os => cell_regrown v3 d os
 have N1 : ∀ d os, Calls Tryz.prog 79 #[.agg #[.int .i64 id, .int .i64 f, .slice (some ⟨g, 0, none⟩) n c]] (grow (redrawn w4 d) os) fun e w' => e = .returned (.bool false) ∧ ∃ p : Regrown, w' = grow (redrawn w4 p.d) p.os := fun d os => Calls.regrown_of (by have := sNodeOk_any id f (some ⟨g, 0, none⟩) n c S (grow (redrawn w4 d) os) (K4.out.o.rd.below (below_regrown w4 d os)) HB.out.kn (fun i hi => (HB.out.k i hi).ok); rw [HND.out] at this; exact this)
 clear HND
 go_wp2_with fail
 refine wp_region_quiet_below (by kernel_rfl) (by kernel_rfl) ?_
 repeat (go_big_quiet_step (first | (with_reducible exact N1 _ _)))
 refine wpQuiet_nil ?_
 intro _ hw'
 obtain ⟨⟨dq, osq⟩, hw''⟩ := hw'
 obtain ⟨w5, HW5⟩ : ∃ x, Hid (x = grow (redrawn w4 dq) osq) := ⟨_, rfl⟩
 subst hw''
 have K5 : Hid (MhA w w0 w5 A C D id f g n c S y a9 c9 gs) := by rw [HW5.out]; exact K4.out.below (below_regrown w4 dq osq)
 have RA5 : Hid (Row w5 A 37 #[.int .i64 id, .int .i64 f, .slice (some ⟨g, 0, none⟩) n c]) := K5.out.ra
 have RD5 : Hid (Row w5 D 37 #[.int .i64 0, .int .i64 0, .slice none 0 0]) := K5.out.rd
 obtain ⟨w6, HW6⟩ : ∃ x, Hid (x = w5.setRow D #[.int .i64 id, .int .i64 f, .slice (some ⟨g, 0, none⟩) n c]) := ⟨_, rfl⟩
 have R6 : Hid (Row w6 D 37 #[.int .i64 id, .int .i64 f, .slice (some ⟨g, 0, none⟩) n c]) := by show Row _ _ _ _; rw [HW6.out]; exact RD5.out.row
 have KF : Hid (NhR w w6 id f n S 0 (fun _ => syA 0 0 y.r 0) (.returned (.tuple #[ndV id f (.slice (some ⟨g, 0, none⟩) n c), .slice (some ⟨gs, 0, none⟩) 0 0]))) := by
  have hD := HL.out.2.2.2.2.2
  have hw0 := KB0.out.size
  refine ⟨_, _, _, _, rfl, ?_, fun W' _ _ => rd_none W' _ _, ?_, ?_⟩
  ·rw [HW6.out]
   exact Rf.of_ow (K5.out.o.frame (fun x hx _ => setRow_other _ _ _ _ (fun e => by have h1 : w0.heap.size ≤ x := hx.1; omega))) (fun x hx k => by have h1 : w0.heap.size ≤ x := hx.1; have h2 : x < w.heap.size := k; omega)
  ·rw [HW6.out]
   exact belowSetRow K5.out.b HL.out.2.2.1 _
  ·rw [HW6.out]
   exact ⟨_, (K5.out.o.frame (fun x hx _ => setRow_other _ _ _ _ (fun e => by have h1 : w0.heap.size ≤ x := hx.1; omega))).base hw0⟩
 clear x0 x1 x2 v0 v1 v2 v3 X0 X1 X2 V0 V1 V2 V3
 rw [← HW5.out]
 go_wp2_with (first | (refine wpList_load_row (by rfl) 37 _ (by rfl) A (by rfl) 37 #[.int .i64 id, .int .i64 f, .slice (some ⟨g, 0, none⟩) n c] (0, 0) _ ?_ Tryz.underlying37 (by rfl) Tryz.infoNd ?_; exact RA5.out) | (refine wpList_store_row (by rfl) 37 _ _ (by rfl) D #[.int .i64 id, .int .i64 f, .slice (some ⟨g, 0, none⟩) n c] (by rfl) (by rfl) 37 #[.int .i64 0, .int .i64 0, .slice none 0 0] ?_ Tryz.infoNd rfl (by simp [Value.oneCell']) ?_; exact RD5.out; rw [← HW6.out]))
 refine bodyPost_ret (v := .tuple #[ndV id f (.slice (some ⟨g, 0, none⟩) n c), .slice (some ⟨gs, 0, none⟩) 0 0]) (by
  have p0 := R6.out.cell 0
  have p1 := R6.out.cell 1
  have p2 := R6.out.cell 2
  simp at p0 p1 p2
  simp [results, Tryz.results52, go_sem, p0, p1, p2]) rfl KF.out
theorem sNodeHear_no2 (id f : Int) (a : Option Addr) (n cap : Nat) (S : Nat → Sl) (y : Sy) (a9 : Option Addr) (c9 : Nat) (w : World) (hT : Rd w (slsD n S) (.slice a n cap)) (hB : NhB n S y) (hyes : ndB id f n S = true) (hf : 1 ≤ f ∧ f ≤ 3) (h2 : ¬ y.t = id) :
  Calls Tryz.prog 52 #[ndV id f (.slice a n cap), syV y (.slice a9 y.p.m c9)] w fun e w' => NhR w w' id f n S 0 (fun _ => syA 0 0 y.r 0) e := by
 obtain ⟨A, HA⟩ : ∃ x, Hid (x = w.heap.size) := ⟨_, rfl⟩
 obtain ⟨C, HC⟩ : ∃ x, Hid (x = w.heap.size + 1) := ⟨_, rfl⟩
 obtain ⟨D, HD⟩ : ∃ x, Hid (x = w.heap.size + 1 + 1) := ⟨_, rfl⟩
 obtain ⟨w0, HW0⟩ : ∃ x, Hid (x = ((w.alloc (.cells #[.int .i64 id, .int .i64 f, .slice a n cap] 37)).alloc (.cells (syC y (.slice a9 y.p.m c9)) 87)).alloc (.cells #[.int .i64 0, .int .i64 0, .slice none 0 0] 37)) := ⟨_, rfl⟩
 have RA : Hid (Row w0 A 37 #[.int .i64 id, .int .i64 f, .slice a n cap]) := by show Row _ _ _ _; rw [HW0.out, HA.out]; exact Row.alloc (Row.alloc (Row.new w _ _) _) _
 have RC : Hid (Row w0 C 87 (syC y (.slice a9 y.p.m c9))) := by
  show Row _ _ _ _
  rw [HW0.out, HC.out]
  have := Row.new (w.alloc (.cells #[.int .i64 id, .int .i64 f, .slice a n cap] 37)) (syC y (.slice a9 y.p.m c9)) 87
  exact Row.alloc (by simpa using this) _
 have RD : Hid (Row w0 D 37 #[.int .i64 0, .int .i64 0, .slice none 0 0]) := by
  show Row _ _ _ _
  rw [HW0.out, HD.out]
  have := Row.new ((w.alloc (.cells #[.int .i64 id, .int .i64 f, .slice a n cap] 37)).alloc (.cells (syC y (.slice a9 y.p.m c9)) 87)) #[.int .i64 0, .int .i64 0, .slice none 0 0] 37
  simpa using this
 have hb0 : Below w.heap.size w w0 := by rw [HW0.out]; exact (((Below.refl _ _).alloc (Nat.le_refl _) _).alloc (by simp) _).alloc (by simp; omega) _
 have KB0 : Hid (Below w.heap.size w w0) := hb0
 have HL : Hid (w.heap.size ≤ A ∧ w.heap.size ≤ C ∧ w.heap.size ≤ D ∧ A < w0.heap.size ∧ C < w0.heap.size ∧ D < w0.heap.size) := ⟨by have := HA.out; omega, by have := HC.out; omega, by have := HD.out; omega, RA.out.lt, RC.out.lt, RD.out.lt⟩
 have LAC : Hid (A ≠ C ∧ A ≠ D ∧ C ≠ D) := ⟨by have := HA.out; have := HC.out; omega, by have := HA.out; have := HD.out; omega, by have := HC.out; have := HD.out; omega⟩
 have KCP : Hid _ := sCopyN_any id f a n cap S w0 (hT.below hb0) hB.kn (fun i hi => (hB.k i hi).s)
 have HB : Hid (NhB n S y) := hB
 have HND : Hid (ndB id f n S = true) := hyes
 have HF : Hid (1 ≤ f ∧ f ≤ 3) := hf
 obtain ⟨q, HQ⟩ : ∃ q : Int, Hid (3 * f + 1 = q) := ⟨_, rfl⟩
 obtain ⟨q1, HQ1⟩ : ∃ q1 : Int, Hid (3 * f = q1) := ⟨_, rfl⟩
 have eq1 : IntKind.i64.wrap (q - 1) = q1 := by have := HQ.out; have := HQ1.out; rw [IntKind.wrap_i64]; omega
 obtain ⟨b3, H3⟩ : ∃ b, Hid (inB y.f (-1) q1 = b) := ⟨_, rfl⟩
 obtain ⟨b4, H4⟩ : ∃ b, Hid (inB y.k 0 2 = b) := ⟨_, rfl⟩
 have t2 : (y.t != id) = true := by simpa using h2
 clear h2
 clear hT hB hb0 hyes hf
 go_enter Tryz.func52, Tryz.ntmps52
 go_wp2_with (rw [← HW0.out, ← HD.out, ← HC.out, ← HA.out]; refine wpList_load_row (by rfl) 37 _ (by rfl) A (by rfl) 37 #[.int .i64 id, .int .i64 f, .slice a n cap] (0, 0) _ ?_ Tryz.underlying37 (by rfl) Tryz.infoNd ?_; exact RA.out)
 refine Calls.mono KCP.out ?_
 rintro e w1 ⟨g, c, rfl, O1, b1⟩
 obtain ⟨w2, HW2⟩ : ∃ x, Hid (x = w1.setRow A #[.int .i64 id, .int .i64 f, .slice (some ⟨g, 0, none⟩) n c]) := ⟨_, rfl⟩
 obtain ⟨gs, HGS⟩ : ∃ x, Hid (x = w2.heap.size) := ⟨_, rfl⟩
 obtain ⟨w3, HW3⟩ : ∃ x, Hid (x = w2.alloc (.cells #[] 87)) := ⟨_, rfl⟩
 have R1 : Hid (Row w1 A 37 #[.int .i64 id, .int .i64 f, .slice a n cap]) := RA.out.below b1 RA.out.lt
 have K3 : Hid (MhA w w0 w3 A C D id f g n c S y a9 c9 gs) := by
  have b3 : Below w2.heap.size w2 w3 := by rw [HW3.out]; exact (Below.refl _ _).alloc (Nat.le_refl _) _
  have e2 : w2.heap.size = w1.heap.size := by rw [HW2.out]; simp
  have l := HL.out
  have s1 := b1.size
  have ra2 : Row w2 A 37 #[.int .i64 id, .int .i64 f, .slice (some ⟨g, 0, none⟩) n c] := by rw [HW2.out]; exact R1.out.row
  have rc2 : Row w2 C 87 (syC y (.slice a9 y.p.m c9)) := by rw [HW2.out]; exact (RC.out.below b1 RC.out.lt).otherRow (fun e => LAC.out.1 e.symm)
  have rd2 : Row w2 D 37 #[.int .i64 0, .int .i64 0, .slice none 0 0] := by rw [HW2.out]; exact (RD.out.below b1 RD.out.lt).otherRow (fun e => LAC.out.2.1 e.symm)
  have o2 : Ow w2 w0.heap.size (slsD n S) (.slice (some ⟨g, 0, none⟩) n c) (rng w0.heap.size w1.heap.size) := by
   rw [HW2.out]
   exact O1.frame fun x hx _ => setRow_other _ _ _ _ (fun e => by have h1 : w0.heap.size ≤ x := hx.1; omega)
  have b2 : Below w.heap.size w w2 := by rw [HW2.out]; exact belowSetRow (below2 KB0.out b1) l.1 _
  refine ⟨ra2.below b3 ra2.lt, rc2.below b3 rc2.lt, rd2.below b3 rd2.lt, (o2.below b3).mono (fun x hx => ⟨hx.1, ?_⟩), below2 b2 b3, ?_, ?_, ?_⟩
  ·have h1 : x < w1.heap.size := hx.2
   rw [HGS.out]; omega
  ·rw [HW3.out, HGS.out]; exact Row.new w2 _ _
  ·rw [HGS.out]; omega
  ·rw [HGS.out]
   have := b3.size
   rw [HW3.out]
   simp
 have KRA3 : Hid (Row w3 A 37 #[.int .i64 id, .int .i64 f, .slice (some ⟨g, 0, none⟩) n c]) := K3.out.ra
 have KRC3 : Hid (Row w3 C 87 (syC y (.slice a9 y.p.m c9))) := K3.out.rc
 have KPL : Hid _ := sPlace_any id f (some ⟨g, 0, none⟩) n c S y.r w3 K3.out.o.rd HB.out.kn
 have u3 := KRC3.out.cell 3
 simp at u3
 clear O1 b1
 go_wp2_with (first | (refine wpList_store_row (by rfl) 37 _ _ (by rfl) A #[.int .i64 id, .int .i64 f, .slice (some ⟨g, 0, none⟩) n c] (by rfl) (by rfl) 37 #[.int .i64 id, .int .i64 f, .slice a n cap] ?_ Tryz.infoNd rfl (by simp [Value.oneCell']) ?_; exact R1.out; rw [← HW2.out]) | (rw [← HW3.out, ← HGS.out]; refine wpList_load_row (by rfl) 37 _ (by rfl) A (by rfl) 37 #[.int .i64 id, .int .i64 f, .slice (some ⟨g, 0, none⟩) n c] (0, 0) _ ?_ Tryz.underlying37 (by rfl) Tryz.infoNd ?_; exact KRA3.out))
 refine Calls.mono KPL.out ?_
 rintro e w4 ⟨rfl, b4⟩
 have K4 : Hid (MhA w w0 w4 A C D id f g n c S y a9 c9 gs) := K3.out.below b4
 obtain ⟨pl, HPL⟩ : ∃ x : Int, Hid (x = ((plN S y.r n : Nat) : Int)) := ⟨_, rfl⟩
 rw [← HPL.out]
 have RA4 : Hid (Row w4 A 37 #[.int .i64 id, .int .i64 f, .slice (some ⟨g, 0, none⟩) n c]) := K4.out.ra
 have RC4 : Hid (Row w4 C 87 (syC y (.slice a9 y.p.m c9))) := K4.out.rc
 clear u3 b4 KPL KCP K3 KRA3 KRC3 R1 HW3 HW2 HGS
 have x0 := RA4.out.cell 0
 have x1 := RA4.out.cell 1
 have x2 := RA4.out.cell 2
 have v0 := RC4.out.cell 0
 have v1 := RC4.out.cell 1
 have v2 := RC4.out.cell 2
 have v3 := RC4.out.cell 3
 simp at x0 x1 x2 v0 v1 v2 v3
 have X0 : ∀ d os, (grow (redrawn w4 d) os).cell? ⟨A, 0, none⟩ = _ := fun d os => cell_regrown x0 d os
 have X1 : ∀ d os, (grow (redrawn w4 d) os).cell? ⟨A, 1, none⟩ = _ := fun d os => cell_regrown x1 d os
 have X2 : ∀ d os, (grow (redrawn w4 d) os).cell? ⟨A, 2, none⟩ = _ := fun d os => cell_regrown x2 d os
 have V0 : ∀ d os, (grow (redrawn w4 d) os).cell? ⟨C, 0, none⟩ = _ := fun d os => cell_regrown v0 d os
 have V1 : ∀ d os, (grow (redrawn w4 d) os).cell? ⟨C, 1, none⟩ = _ := fun d os => cell_regrown v1 d os
 have V2 : ∀ d os, (grow (redrawn w4 d) os).cell? ⟨C, 2, none⟩ = _ := fun d os => cell_regrown v2 d os
 have V3 : ∀ d os, (grow (redrawn w4 d) os).cell? ⟨C, 3, none⟩ = _ := fun d os => cell_regrown v3 d os
 have N1 : ∀ d os, Calls Tryz.prog 79 #[.agg #[.int .i64 id, .int .i64 f, .slice (some ⟨g, 0, none⟩) n c]] (grow (redrawn w4 d) os) fun e w' => e = .returned (.bool true) ∧ ∃ p : Regrown, w' = grow (redrawn w4 p.d) p.os := fun d os => Calls.regrown_of (by have := sNodeOk_any id f (some ⟨g, 0, none⟩) n c S (grow (redrawn w4 d) os) (K4.out.o.rd.below (below_regrown w4 d os)) HB.out.kn (fun i hi => (HB.out.k i hi).ok); rw [HND.out] at this; exact this)
 have N2 : ∀ d os, Calls Tryz.prog 49 #[.int .i64 f] (grow (redrawn w4 d) os) fun e w' => e = .returned (.int .i64 q) ∧ ∃ p : Regrown, w' = grow (redrawn w4 p.d) p.os := fun d os => Calls.regrown_of ((sAllN_any f _ HF.out).mono fun e w' h => ⟨by rw [h.1, HQ.out], by rw [h.2]; exact Below.refl _ _⟩)
 have NN3 : ∀ d os, Calls Tryz.prog 63 #[.int .i64 y.f, .int .i64 (-1), .int .i64 q1] (grow (redrawn w4 d) os) fun e w' => e = .returned (.bool b3) ∧ ∃ p : Regrown, w' = grow (redrawn w4 p.d) p.os := fun d os => Calls.regrown_of ((sIn_any y.f (-1) q1 _).mono fun e w' h => ⟨by rw [h.1, H3.out], by rw [h.2]; exact Below.refl _ _⟩)
 have N4 : ∀ d os, Calls Tryz.prog 63 #[.int .i64 y.k, .int .i64 0, .int .i64 2] (grow (redrawn w4 d) os) fun e w' => e = .returned (.bool b4) ∧ ∃ p : Regrown, w' = grow (redrawn w4 p.d) p.os := fun d os => Calls.regrown_of ((sIn_any y.k 0 2 _).mono fun e w' h => ⟨by rw [h.1, H4.out], by rw [h.2]; exact Below.refl _ _⟩)
 clear HND
 go_wp2_with fail
 refine wp_region_quiet_below (by kernel_rfl) (by kernel_rfl) ?_
 repeat (go_big_quiet_step (first | (with_reducible exact N1 _ _) | (with_reducible exact N2 _ _) | (with_reducible exact NN3 _ _) | (with_reducible exact N4 _ _)))
 refine wpQuiet_nil ?_
 intro _ hw'
 obtain ⟨⟨dq, osq⟩, hw''⟩ := hw'
 obtain ⟨w5, HW5⟩ : ∃ x, Hid (x = grow (redrawn w4 dq) osq) := ⟨_, rfl⟩
 subst hw''
 have K5 : Hid (MhA w w0 w5 A C D id f g n c S y a9 c9 gs) := by rw [HW5.out]; exact K4.out.below (below_regrown w4 dq osq)
 have RA5 : Hid (Row w5 A 37 #[.int .i64 id, .int .i64 f, .slice (some ⟨g, 0, none⟩) n c]) := K5.out.ra
 have RD5 : Hid (Row w5 D 37 #[.int .i64 0, .int .i64 0, .slice none 0 0]) := K5.out.rd
 obtain ⟨w6, HW6⟩ : ∃ x, Hid (x = w5.setRow D #[.int .i64 id, .int .i64 f, .slice (some ⟨g, 0, none⟩) n c]) := ⟨_, rfl⟩
 have R6 : Hid (Row w6 D 37 #[.int .i64 id, .int .i64 f, .slice (some ⟨g, 0, none⟩) n c]) := by show Row _ _ _ _; rw [HW6.out]; exact RD5.out.row
 have KF : Hid (NhR w w6 id f n S 0 (fun _ => syA 0 0 y.r 0) (.returned (.tuple #[ndV id f (.slice (some ⟨g, 0, none⟩) n c), .slice (some ⟨gs, 0, none⟩) 0 0]))) := by
  have hD := HL.out.2.2.2.2.2
  have hw0 := KB0.out.size
  refine ⟨_, _, _, _, rfl, ?_, fun W' _ _ => rd_none W' _ _, ?_, ?_⟩
  ·rw [HW6.out]
   exact Rf.of_ow (K5.out.o.frame (fun x hx _ => setRow_other _ _ _ _ (fun e => by have h1 : w0.heap.size ≤ x := hx.1; omega))) (fun x hx k => by have h1 : w0.heap.size ≤ x := hx.1; have h2 : x < w.heap.size := k; omega)
  ·rw [HW6.out]
   exact belowSetRow K5.out.b HL.out.2.2.1 _
  ·rw [HW6.out]
   exact ⟨_, (K5.out.o.frame (fun x hx _ => setRow_other _ _ _ _ (fun e => by have h1 : w0.heap.size ≤ x := hx.1; omega))).base hw0⟩
 clear x0 x1 x2 v0 v1 v2 v3 X0 X1 X2 V0 V1 V2 V3
 rw [← HW5.out]
 go_wp2_with (first | (refine wpList_load_row (by rfl) 37 _ (by rfl) A (by rfl) 37 #[.int .i64 id, .int .i64 f, .slice (some ⟨g, 0, none⟩) n c] (0, 0) _ ?_ Tryz.underlying37 (by rfl) Tryz.infoNd ?_; exact RA5.out) | (refine wpList_store_row (by rfl) 37 _ _ (by rfl) D #[.int .i64 id, .int .i64 f, .slice (some ⟨g, 0, none⟩) n c] (by rfl) (by rfl) 37 #[.int .i64 0, .int .i64 0, .slice none 0 0] ?_ Tryz.infoNd rfl (by simp [Value.oneCell']) ?_; exact RD5.out; rw [← HW6.out]))
 refine bodyPost_ret (v := .tuple #[ndV id f (.slice (some ⟨g, 0, none⟩) n c), .slice (some ⟨gs, 0, none⟩) 0 0]) (by
  have p0 := R6.out.cell 0
  have p1 := R6.out.cell 1
  have p2 := R6.out.cell 2
  simp at p0 p1 p2
  simp [results, Tryz.results52, go_sem, p0, p1, p2]) rfl KF.out
theorem sNodeHear_no3 (id f : Int) (a : Option Addr) (n cap : Nat) (S : Nat → Sl) (y : Sy) (a9 : Option Addr) (c9 : Nat) (w : World) (hT : Rd w (slsD n S) (.slice a n cap)) (hB : NhB n S y) (hyes : ndB id f n S = true) (hf : 1 ≤ f ∧ f ≤ 3) (h2 : y.t = id) (h3 : ¬ (-1 ≤ y.f ∧ y.f ≤ 3 * f)) :
  Calls Tryz.prog 52 #[ndV id f (.slice a n cap), syV y (.slice a9 y.p.m c9)] w fun e w' => NhR w w' id f n S 0 (fun _ => syA 0 0 y.r 0) e := by
 obtain ⟨A, HA⟩ : ∃ x, Hid (x = w.heap.size) := ⟨_, rfl⟩
 obtain ⟨C, HC⟩ : ∃ x, Hid (x = w.heap.size + 1) := ⟨_, rfl⟩
 obtain ⟨D, HD⟩ : ∃ x, Hid (x = w.heap.size + 1 + 1) := ⟨_, rfl⟩
 obtain ⟨w0, HW0⟩ : ∃ x, Hid (x = ((w.alloc (.cells #[.int .i64 id, .int .i64 f, .slice a n cap] 37)).alloc (.cells (syC y (.slice a9 y.p.m c9)) 87)).alloc (.cells #[.int .i64 0, .int .i64 0, .slice none 0 0] 37)) := ⟨_, rfl⟩
 have RA : Hid (Row w0 A 37 #[.int .i64 id, .int .i64 f, .slice a n cap]) := by show Row _ _ _ _; rw [HW0.out, HA.out]; exact Row.alloc (Row.alloc (Row.new w _ _) _) _
 have RC : Hid (Row w0 C 87 (syC y (.slice a9 y.p.m c9))) := by
  show Row _ _ _ _
  rw [HW0.out, HC.out]
  have := Row.new (w.alloc (.cells #[.int .i64 id, .int .i64 f, .slice a n cap] 37)) (syC y (.slice a9 y.p.m c9)) 87
  exact Row.alloc (by simpa using this) _
 have RD : Hid (Row w0 D 37 #[.int .i64 0, .int .i64 0, .slice none 0 0]) := by
  show Row _ _ _ _
  rw [HW0.out, HD.out]
  have := Row.new ((w.alloc (.cells #[.int .i64 id, .int .i64 f, .slice a n cap] 37)).alloc (.cells (syC y (.slice a9 y.p.m c9)) 87)) #[.int .i64 0, .int .i64 0, .slice none 0 0] 37
  simpa using this
 have hb0 : Below w.heap.size w w0 := by rw [HW0.out]; exact (((Below.refl _ _).alloc (Nat.le_refl _) _).alloc (by simp) _).alloc (by simp; omega) _
 have KB0 : Hid (Below w.heap.size w w0) := hb0
 have HL : Hid (w.heap.size ≤ A ∧ w.heap.size ≤ C ∧ w.heap.size ≤ D ∧ A < w0.heap.size ∧ C < w0.heap.size ∧ D < w0.heap.size) := ⟨by have := HA.out; omega, by have := HC.out; omega, by have := HD.out; omega, RA.out.lt, RC.out.lt, RD.out.lt⟩
 have LAC : Hid (A ≠ C ∧ A ≠ D ∧ C ≠ D) := ⟨by have := HA.out; have := HC.out; omega, by have := HA.out; have := HD.out; omega, by have := HC.out; have := HD.out; omega⟩
 have KCP : Hid _ := sCopyN_any id f a n cap S w0 (hT.below hb0) hB.kn (fun i hi => (hB.k i hi).s)
 have HB : Hid (NhB n S y) := hB
 have HND : Hid (ndB id f n S = true) := hyes
 have HF : Hid (1 ≤ f ∧ f ≤ 3) := hf
 obtain ⟨q, HQ⟩ : ∃ q : Int, Hid (3 * f + 1 = q) := ⟨_, rfl⟩
 obtain ⟨q1, HQ1⟩ : ∃ q1 : Int, Hid (3 * f = q1) := ⟨_, rfl⟩
 have eq1 : IntKind.i64.wrap (q - 1) = q1 := by have := HQ.out; have := HQ1.out; rw [IntKind.wrap_i64]; omega
 have H3 : Hid (inB y.f (-1) q1 = false) := by have := HQ1.out; show inB _ _ _ = false; unfold inB; exact decide_eq_false (by omega)
 obtain ⟨b4, H4⟩ : ∃ b, Hid (inB y.k 0 2 = b) := ⟨_, rfl⟩
 clear h3
 clear hT hB hb0 hyes hf
 go_enter Tryz.func52, Tryz.ntmps52
 go_wp2_with (rw [← HW0.out, ← HD.out, ← HC.out, ← HA.out]; refine wpList_load_row (by rfl) 37 _ (by rfl) A (by rfl) 37 #[.int .i64 id, .int .i64 f, .slice a n cap] (0, 0) _ ?_ Tryz.underlying37 (by rfl) Tryz.infoNd ?_; exact RA.out)
 refine Calls.mono KCP.out ?_
 rintro e w1 ⟨g, c, rfl, O1, b1⟩
 obtain ⟨w2, HW2⟩ : ∃ x, Hid (x = w1.setRow A #[.int .i64 id, .int .i64 f, .slice (some ⟨g, 0, none⟩) n c]) := ⟨_, rfl⟩
 obtain ⟨gs, HGS⟩ : ∃ x, Hid (x = w2.heap.size) := ⟨_, rfl⟩
 obtain ⟨w3, HW3⟩ : ∃ x, Hid (x = w2.alloc (.cells #[] 87)) := ⟨_, rfl⟩
 have R1 : Hid (Row w1 A 37 #[.int .i64 id, .int .i64 f, .slice a n cap]) := RA.out.below b1 RA.out.lt
 have K3 : Hid (MhA w w0 w3 A C D id f g n c S y a9 c9 gs) := by
  have b3 : Below w2.heap.size w2 w3 := by rw [HW3.out]; exact (Below.refl _ _).alloc (Nat.le_refl _) _
  have e2 : w2.heap.size = w1.heap.size := by rw [HW2.out]; simp
  have l := HL.out
  have s1 := b1.size
  have ra2 : Row w2 A 37 #[.int .i64 id, .int .i64 f, .slice (some ⟨g, 0, none⟩) n c] := by rw [HW2.out]; exact R1.out.row
  have rc2 : Row w2 C 87 (syC y (.slice a9 y.p.m c9)) := by rw [HW2.out]; exact (RC.out.below b1 RC.out.lt).otherRow (fun e => LAC.out.1 e.symm)
  have rd2 : Row w2 D 37 #[.int .i64 0, .int .i64 0, .slice none 0 0] := by rw [HW2.out]; exact (RD.out.below b1 RD.out.lt).otherRow (fun e => LAC.out.2.1 e.symm)
  have o2 : Ow w2 w0.heap.size (slsD n S) (.slice (some ⟨g, 0, none⟩) n c) (rng w0.heap.size w1.heap.size) := by
   rw [HW2.out]
   exact O1.frame fun x hx _ => setRow_other _ _ _ _ (fun e => by have h1 : w0.heap.size ≤ x := hx.1; omega)
  have b2 : Below w.heap.size w w2 := by rw [HW2.out]; exact belowSetRow (below2 KB0.out b1) l.1 _
  refine ⟨ra2.below b3 ra2.lt, rc2.below b3 rc2.lt, rd2.below b3 rd2.lt, (o2.below b3).mono (fun x hx => ⟨hx.1, ?_⟩), below2 b2 b3, ?_, ?_, ?_⟩
  ·have h1 : x < w1.heap.size := hx.2
   rw [HGS.out]; omega
  ·rw [HW3.out, HGS.out]; exact Row.new w2 _ _
  ·rw [HGS.out]; omega
  ·rw [HGS.out]
   have := b3.size
   rw [HW3.out]
   simp
 have KRA3 : Hid (Row w3 A 37 #[.int .i64 id, .int .i64 f, .slice (some ⟨g, 0, none⟩) n c]) := K3.out.ra
 have KRC3 : Hid (Row w3 C 87 (syC y (.slice a9 y.p.m c9))) := K3.out.rc
 have KPL : Hid _ := sPlace_any id f (some ⟨g, 0, none⟩) n c S y.r w3 K3.out.o.rd HB.out.kn
 have u3 := KRC3.out.cell 3
 simp at u3
 clear O1 b1
 go_wp2_with (first | (refine wpList_store_row (by rfl) 37 _ _ (by rfl) A #[.int .i64 id, .int .i64 f, .slice (some ⟨g, 0, none⟩) n c] (by rfl) (by rfl) 37 #[.int .i64 id, .int .i64 f, .slice a n cap] ?_ Tryz.infoNd rfl (by simp [Value.oneCell']) ?_; exact R1.out; rw [← HW2.out]) | (rw [← HW3.out, ← HGS.out]; refine wpList_load_row (by rfl) 37 _ (by rfl) A (by rfl) 37 #[.int .i64 id, .int .i64 f, .slice (some ⟨g, 0, none⟩) n c] (0, 0) _ ?_ Tryz.underlying37 (by rfl) Tryz.infoNd ?_; exact KRA3.out))
 refine Calls.mono KPL.out ?_
 rintro e w4 ⟨rfl, b4⟩
 have K4 : Hid (MhA w w0 w4 A C D id f g n c S y a9 c9 gs) := K3.out.below b4
 obtain ⟨pl, HPL⟩ : ∃ x : Int, Hid (x = ((plN S y.r n : Nat) : Int)) := ⟨_, rfl⟩
 rw [← HPL.out]
 have RA4 : Hid (Row w4 A 37 #[.int .i64 id, .int .i64 f, .slice (some ⟨g, 0, none⟩) n c]) := K4.out.ra
 have RC4 : Hid (Row w4 C 87 (syC y (.slice a9 y.p.m c9))) := K4.out.rc
 clear u3 b4 KPL KCP K3 KRA3 KRC3 R1 HW3 HW2 HGS
 have x0 := RA4.out.cell 0
 have x1 := RA4.out.cell 1
 have x2 := RA4.out.cell 2
 have v0 := RC4.out.cell 0
 have v1 := RC4.out.cell 1
 have v2 := RC4.out.cell 2
 have v3 := RC4.out.cell 3
 simp at x0 x1 x2 v0 v1 v2 v3
 have X0 : ∀ d os, (grow (redrawn w4 d) os).cell? ⟨A, 0, none⟩ = _ := fun d os => cell_regrown x0 d os
 have X1 : ∀ d os, (grow (redrawn w4 d) os).cell? ⟨A, 1, none⟩ = _ := fun d os => cell_regrown x1 d os
 have X2 : ∀ d os, (grow (redrawn w4 d) os).cell? ⟨A, 2, none⟩ = _ := fun d os => cell_regrown x2 d os
 have V0 : ∀ d os, (grow (redrawn w4 d) os).cell? ⟨C, 0, none⟩ = _ := fun d os => cell_regrown v0 d os
 have V1 : ∀ d os, (grow (redrawn w4 d) os).cell? ⟨C, 1, none⟩ = _ := fun d os => cell_regrown v1 d os
 have V2 : ∀ d os, (grow (redrawn w4 d) os).cell? ⟨C, 2, none⟩ = _ := fun d os => cell_regrown v2 d os
 have V3 : ∀ d os, (grow (redrawn w4 d) os).cell? ⟨C, 3, none⟩ = _ := fun d os => cell_regrown v3 d os
 have N1 : ∀ d os, Calls Tryz.prog 79 #[.agg #[.int .i64 id, .int .i64 f, .slice (some ⟨g, 0, none⟩) n c]] (grow (redrawn w4 d) os) fun e w' => e = .returned (.bool true) ∧ ∃ p : Regrown, w' = grow (redrawn w4 p.d) p.os := fun d os => Calls.regrown_of (by have := sNodeOk_any id f (some ⟨g, 0, none⟩) n c S (grow (redrawn w4 d) os) (K4.out.o.rd.below (below_regrown w4 d os)) HB.out.kn (fun i hi => (HB.out.k i hi).ok); rw [HND.out] at this; exact this)
 have N2 : ∀ d os, Calls Tryz.prog 49 #[.int .i64 f] (grow (redrawn w4 d) os) fun e w' => e = .returned (.int .i64 q) ∧ ∃ p : Regrown, w' = grow (redrawn w4 p.d) p.os := fun d os => Calls.regrown_of ((sAllN_any f _ HF.out).mono fun e w' h => ⟨by rw [h.1, HQ.out], by rw [h.2]; exact Below.refl _ _⟩)
 have NN3 : ∀ d os, Calls Tryz.prog 63 #[.int .i64 y.f, .int .i64 (-1), .int .i64 q1] (grow (redrawn w4 d) os) fun e w' => e = .returned (.bool false) ∧ ∃ p : Regrown, w' = grow (redrawn w4 p.d) p.os := fun d os => Calls.regrown_of ((sIn_any y.f (-1) q1 _).mono fun e w' h => ⟨by rw [h.1, H3.out], by rw [h.2]; exact Below.refl _ _⟩)
 have N4 : ∀ d os, Calls Tryz.prog 63 #[.int .i64 y.k, .int .i64 0, .int .i64 2] (grow (redrawn w4 d) os) fun e w' => e = .returned (.bool b4) ∧ ∃ p : Regrown, w' = grow (redrawn w4 p.d) p.os := fun d os => Calls.regrown_of ((sIn_any y.k 0 2 _).mono fun e w' h => ⟨by rw [h.1, H4.out], by rw [h.2]; exact Below.refl _ _⟩)
 clear HND
 go_wp2_with fail
 refine wp_region_quiet_below (by kernel_rfl) (by kernel_rfl) ?_
 repeat (go_big_quiet_step (first | (with_reducible exact N1 _ _) | (with_reducible exact N2 _ _) | (with_reducible exact NN3 _ _) | (with_reducible exact N4 _ _)))
 refine wpQuiet_nil ?_
 intro _ hw'
 obtain ⟨⟨dq, osq⟩, hw''⟩ := hw'
 obtain ⟨w5, HW5⟩ : ∃ x, Hid (x = grow (redrawn w4 dq) osq) := ⟨_, rfl⟩
 subst hw''
 have K5 : Hid (MhA w w0 w5 A C D id f g n c S y a9 c9 gs) := by rw [HW5.out]; exact K4.out.below (below_regrown w4 dq osq)
 have RA5 : Hid (Row w5 A 37 #[.int .i64 id, .int .i64 f, .slice (some ⟨g, 0, none⟩) n c]) := K5.out.ra
 have RD5 : Hid (Row w5 D 37 #[.int .i64 0, .int .i64 0, .slice none 0 0]) := K5.out.rd
 obtain ⟨w6, HW6⟩ : ∃ x, Hid (x = w5.setRow D #[.int .i64 id, .int .i64 f, .slice (some ⟨g, 0, none⟩) n c]) := ⟨_, rfl⟩
 have R6 : Hid (Row w6 D 37 #[.int .i64 id, .int .i64 f, .slice (some ⟨g, 0, none⟩) n c]) := by show Row _ _ _ _; rw [HW6.out]; exact RD5.out.row
 have KF : Hid (NhR w w6 id f n S 0 (fun _ => syA 0 0 y.r 0) (.returned (.tuple #[ndV id f (.slice (some ⟨g, 0, none⟩) n c), .slice (some ⟨gs, 0, none⟩) 0 0]))) := by
  have hD := HL.out.2.2.2.2.2
  have hw0 := KB0.out.size
  refine ⟨_, _, _, _, rfl, ?_, fun W' _ _ => rd_none W' _ _, ?_, ?_⟩
  ·rw [HW6.out]
   exact Rf.of_ow (K5.out.o.frame (fun x hx _ => setRow_other _ _ _ _ (fun e => by have h1 : w0.heap.size ≤ x := hx.1; omega))) (fun x hx k => by have h1 : w0.heap.size ≤ x := hx.1; have h2 : x < w.heap.size := k; omega)
  ·rw [HW6.out]
   exact belowSetRow K5.out.b HL.out.2.2.1 _
  ·rw [HW6.out]
   exact ⟨_, (K5.out.o.frame (fun x hx _ => setRow_other _ _ _ _ (fun e => by have h1 : w0.heap.size ≤ x := hx.1; omega))).base hw0⟩
 clear x0 x1 x2 v0 v1 v2 v3 X0 X1 X2 V0 V1 V2 V3
 rw [← HW5.out]
 go_wp2_with (first | (refine wpList_load_row (by rfl) 37 _ (by rfl) A (by rfl) 37 #[.int .i64 id, .int .i64 f, .slice (some ⟨g, 0, none⟩) n c] (0, 0) _ ?_ Tryz.underlying37 (by rfl) Tryz.infoNd ?_; exact RA5.out) | (refine wpList_store_row (by rfl) 37 _ _ (by rfl) D #[.int .i64 id, .int .i64 f, .slice (some ⟨g, 0, none⟩) n c] (by rfl) (by rfl) 37 #[.int .i64 0, .int .i64 0, .slice none 0 0] ?_ Tryz.infoNd rfl (by simp [Value.oneCell']) ?_; exact RD5.out; rw [← HW6.out]))
 refine bodyPost_ret (v := .tuple #[ndV id f (.slice (some ⟨g, 0, none⟩) n c), .slice (some ⟨gs, 0, none⟩) 0 0]) (by
  have p0 := R6.out.cell 0
  have p1 := R6.out.cell 1
  have p2 := R6.out.cell 2
  simp at p0 p1 p2
  simp [results, Tryz.results52, go_sem, p0, p1, p2]) rfl KF.out
theorem sNodeHear_no4 (id f : Int) (a : Option Addr) (n cap : Nat) (S : Nat → Sl) (y : Sy) (a9 : Option Addr) (c9 : Nat) (w : World) (hT : Rd w (slsD n S) (.slice a n cap)) (hB : NhB n S y) (hyes : ndB id f n S = true) (hf : 1 ≤ f ∧ f ≤ 3) (h2 : y.t = id) (h3 : -1 ≤ y.f ∧ y.f ≤ 3 * f) (h4 : ¬ (0 ≤ y.k ∧ y.k ≤ 2)) :
  Calls Tryz.prog 52 #[ndV id f (.slice a n cap), syV y (.slice a9 y.p.m c9)] w fun e w' => NhR w w' id f n S 0 (fun _ => syA 0 0 y.r 0) e := by
 obtain ⟨A, HA⟩ : ∃ x, Hid (x = w.heap.size) := ⟨_, rfl⟩
 obtain ⟨C, HC⟩ : ∃ x, Hid (x = w.heap.size + 1) := ⟨_, rfl⟩
 obtain ⟨D, HD⟩ : ∃ x, Hid (x = w.heap.size + 1 + 1) := ⟨_, rfl⟩
 obtain ⟨w0, HW0⟩ : ∃ x, Hid (x = ((w.alloc (.cells #[.int .i64 id, .int .i64 f, .slice a n cap] 37)).alloc (.cells (syC y (.slice a9 y.p.m c9)) 87)).alloc (.cells #[.int .i64 0, .int .i64 0, .slice none 0 0] 37)) := ⟨_, rfl⟩
 have RA : Hid (Row w0 A 37 #[.int .i64 id, .int .i64 f, .slice a n cap]) := by show Row _ _ _ _; rw [HW0.out, HA.out]; exact Row.alloc (Row.alloc (Row.new w _ _) _) _
 have RC : Hid (Row w0 C 87 (syC y (.slice a9 y.p.m c9))) := by
  show Row _ _ _ _
  rw [HW0.out, HC.out]
  have := Row.new (w.alloc (.cells #[.int .i64 id, .int .i64 f, .slice a n cap] 37)) (syC y (.slice a9 y.p.m c9)) 87
  exact Row.alloc (by simpa using this) _
 have RD : Hid (Row w0 D 37 #[.int .i64 0, .int .i64 0, .slice none 0 0]) := by
  show Row _ _ _ _
  rw [HW0.out, HD.out]
  have := Row.new ((w.alloc (.cells #[.int .i64 id, .int .i64 f, .slice a n cap] 37)).alloc (.cells (syC y (.slice a9 y.p.m c9)) 87)) #[.int .i64 0, .int .i64 0, .slice none 0 0] 37
  simpa using this
 have hb0 : Below w.heap.size w w0 := by rw [HW0.out]; exact (((Below.refl _ _).alloc (Nat.le_refl _) _).alloc (by simp) _).alloc (by simp; omega) _
 have KB0 : Hid (Below w.heap.size w w0) := hb0
 have HL : Hid (w.heap.size ≤ A ∧ w.heap.size ≤ C ∧ w.heap.size ≤ D ∧ A < w0.heap.size ∧ C < w0.heap.size ∧ D < w0.heap.size) := ⟨by have := HA.out; omega, by have := HC.out; omega, by have := HD.out; omega, RA.out.lt, RC.out.lt, RD.out.lt⟩
 have LAC : Hid (A ≠ C ∧ A ≠ D ∧ C ≠ D) := ⟨by have := HA.out; have := HC.out; omega, by have := HA.out; have := HD.out; omega, by have := HC.out; have := HD.out; omega⟩
 have KCP : Hid _ := sCopyN_any id f a n cap S w0 (hT.below hb0) hB.kn (fun i hi => (hB.k i hi).s)
 have HB : Hid (NhB n S y) := hB
 have HND : Hid (ndB id f n S = true) := hyes
 have HF : Hid (1 ≤ f ∧ f ≤ 3) := hf
 obtain ⟨q, HQ⟩ : ∃ q : Int, Hid (3 * f + 1 = q) := ⟨_, rfl⟩
 obtain ⟨q1, HQ1⟩ : ∃ q1 : Int, Hid (3 * f = q1) := ⟨_, rfl⟩
 have eq1 : IntKind.i64.wrap (q - 1) = q1 := by have := HQ.out; have := HQ1.out; rw [IntKind.wrap_i64]; omega
 have H3 : Hid (inB y.f (-1) q1 = true) := by have := HQ1.out; show inB _ _ _ = true; unfold inB; exact decide_eq_true (by omega)
 have H4 : Hid (inB y.k 0 2 = false) := by show inB _ _ _ = false; unfold inB; exact decide_eq_false (by omega)
 clear h3 h4
 clear hT hB hb0 hyes hf
 go_enter Tryz.func52, Tryz.ntmps52
 go_wp2_with (rw [← HW0.out, ← HD.out, ← HC.out, ← HA.out]; refine wpList_load_row (by rfl) 37 _ (by rfl) A (by rfl) 37 #[.int .i64 id, .int .i64 f, .slice a n cap] (0, 0) _ ?_ Tryz.underlying37 (by rfl) Tryz.infoNd ?_; exact RA.out)
 refine Calls.mono KCP.out ?_
 rintro e w1 ⟨g, c, rfl, O1, b1⟩
 obtain ⟨w2, HW2⟩ : ∃ x, Hid (x = w1.setRow A #[.int .i64 id, .int .i64 f, .slice (some ⟨g, 0, none⟩) n c]) := ⟨_, rfl⟩
 obtain ⟨gs, HGS⟩ : ∃ x, Hid (x = w2.heap.size) := ⟨_, rfl⟩
 obtain ⟨w3, HW3⟩ : ∃ x, Hid (x = w2.alloc (.cells #[] 87)) := ⟨_, rfl⟩
 have R1 : Hid (Row w1 A 37 #[.int .i64 id, .int .i64 f, .slice a n cap]) := RA.out.below b1 RA.out.lt
 have K3 : Hid (MhA w w0 w3 A C D id f g n c S y a9 c9 gs) := by
  have b3 : Below w2.heap.size w2 w3 := by rw [HW3.out]; exact (Below.refl _ _).alloc (Nat.le_refl _) _
  have e2 : w2.heap.size = w1.heap.size := by rw [HW2.out]; simp
  have l := HL.out
  have s1 := b1.size
  have ra2 : Row w2 A 37 #[.int .i64 id, .int .i64 f, .slice (some ⟨g, 0, none⟩) n c] := by rw [HW2.out]; exact R1.out.row
  have rc2 : Row w2 C 87 (syC y (.slice a9 y.p.m c9)) := by rw [HW2.out]; exact (RC.out.below b1 RC.out.lt).otherRow (fun e => LAC.out.1 e.symm)
  have rd2 : Row w2 D 37 #[.int .i64 0, .int .i64 0, .slice none 0 0] := by rw [HW2.out]; exact (RD.out.below b1 RD.out.lt).otherRow (fun e => LAC.out.2.1 e.symm)
  have o2 : Ow w2 w0.heap.size (slsD n S) (.slice (some ⟨g, 0, none⟩) n c) (rng w0.heap.size w1.heap.size) := by
   rw [HW2.out]
   exact O1.frame fun x hx _ => setRow_other _ _ _ _ (fun e => by have h1 : w0.heap.size ≤ x := hx.1; omega)
  have b2 : Below w.heap.size w w2 := by rw [HW2.out]; exact belowSetRow (below2 KB0.out b1) l.1 _
  refine ⟨ra2.below b3 ra2.lt, rc2.below b3 rc2.lt, rd2.below b3 rd2.lt, (o2.below b3).mono (fun x hx => ⟨hx.1, ?_⟩), below2 b2 b3, ?_, ?_, ?_⟩
  ·have h1 : x < w1.heap.size := hx.2
   rw [HGS.out]; omega
  ·rw [HW3.out, HGS.out]; exact Row.new w2 _ _
  ·rw [HGS.out]; omega
  ·rw [HGS.out]
   have := b3.size
   rw [HW3.out]
   simp
 have KRA3 : Hid (Row w3 A 37 #[.int .i64 id, .int .i64 f, .slice (some ⟨g, 0, none⟩) n c]) := K3.out.ra
 have KRC3 : Hid (Row w3 C 87 (syC y (.slice a9 y.p.m c9))) := K3.out.rc
 have KPL : Hid _ := sPlace_any id f (some ⟨g, 0, none⟩) n c S y.r w3 K3.out.o.rd HB.out.kn
 have u3 := KRC3.out.cell 3
 simp at u3
 clear O1 b1
 go_wp2_with (first | (refine wpList_store_row (by rfl) 37 _ _ (by rfl) A #[.int .i64 id, .int .i64 f, .slice (some ⟨g, 0, none⟩) n c] (by rfl) (by rfl) 37 #[.int .i64 id, .int .i64 f, .slice a n cap] ?_ Tryz.infoNd rfl (by simp [Value.oneCell']) ?_; exact R1.out; rw [← HW2.out]) | (rw [← HW3.out, ← HGS.out]; refine wpList_load_row (by rfl) 37 _ (by rfl) A (by rfl) 37 #[.int .i64 id, .int .i64 f, .slice (some ⟨g, 0, none⟩) n c] (0, 0) _ ?_ Tryz.underlying37 (by rfl) Tryz.infoNd ?_; exact KRA3.out))
 refine Calls.mono KPL.out ?_
 rintro e w4 ⟨rfl, b4⟩
 have K4 : Hid (MhA w w0 w4 A C D id f g n c S y a9 c9 gs) := K3.out.below b4
 obtain ⟨pl, HPL⟩ : ∃ x : Int, Hid (x = ((plN S y.r n : Nat) : Int)) := ⟨_, rfl⟩
 rw [← HPL.out]
 have RA4 : Hid (Row w4 A 37 #[.int .i64 id, .int .i64 f, .slice (some ⟨g, 0, none⟩) n c]) := K4.out.ra
 have RC4 : Hid (Row w4 C 87 (syC y (.slice a9 y.p.m c9))) := K4.out.rc
 clear u3 b4 KPL KCP K3 KRA3 KRC3 R1 HW3 HW2 HGS
 have x0 := RA4.out.cell 0
 have x1 := RA4.out.cell 1
 have x2 := RA4.out.cell 2
 have v0 := RC4.out.cell 0
 have v1 := RC4.out.cell 1
 have v2 := RC4.out.cell 2
 have v3 := RC4.out.cell 3
 simp at x0 x1 x2 v0 v1 v2 v3
 have X0 : ∀ d os, (grow (redrawn w4 d) os).cell? ⟨A, 0, none⟩ = _ := fun d os => cell_regrown x0 d os
 have X1 : ∀ d os, (grow (redrawn w4 d) os).cell? ⟨A, 1, none⟩ = _ := fun d os => cell_regrown x1 d os
 have X2 : ∀ d os, (grow (redrawn w4 d) os).cell? ⟨A, 2, none⟩ = _ := fun d os => cell_regrown x2 d os
 have V0 : ∀ d os, (grow (redrawn w4 d) os).cell? ⟨C, 0, none⟩ = _ := fun d os => cell_regrown v0 d os
 have V1 : ∀ d os, (grow (redrawn w4 d) os).cell? ⟨C, 1, none⟩ = _ := fun d os => cell_regrown v1 d os
 have V2 : ∀ d os, (grow (redrawn w4 d) os).cell? ⟨C, 2, none⟩ = _ := fun d os => cell_regrown v2 d os
 have V3 : ∀ d os, (grow (redrawn w4 d) os).cell? ⟨C, 3, none⟩ = _ := fun d os => cell_regrown v3 d os
 have N1 : ∀ d os, Calls Tryz.prog 79 #[.agg #[.int .i64 id, .int .i64 f, .slice (some ⟨g, 0, none⟩) n c]] (grow (redrawn w4 d) os) fun e w' => e = .returned (.bool true) ∧ ∃ p : Regrown, w' = grow (redrawn w4 p.d) p.os := fun d os => Calls.regrown_of (by have := sNodeOk_any id f (some ⟨g, 0, none⟩) n c S (grow (redrawn w4 d) os) (K4.out.o.rd.below (below_regrown w4 d os)) HB.out.kn (fun i hi => (HB.out.k i hi).ok); rw [HND.out] at this; exact this)
 have N2 : ∀ d os, Calls Tryz.prog 49 #[.int .i64 f] (grow (redrawn w4 d) os) fun e w' => e = .returned (.int .i64 q) ∧ ∃ p : Regrown, w' = grow (redrawn w4 p.d) p.os := fun d os => Calls.regrown_of ((sAllN_any f _ HF.out).mono fun e w' h => ⟨by rw [h.1, HQ.out], by rw [h.2]; exact Below.refl _ _⟩)
 have NN3 : ∀ d os, Calls Tryz.prog 63 #[.int .i64 y.f, .int .i64 (-1), .int .i64 q1] (grow (redrawn w4 d) os) fun e w' => e = .returned (.bool true) ∧ ∃ p : Regrown, w' = grow (redrawn w4 p.d) p.os := fun d os => Calls.regrown_of ((sIn_any y.f (-1) q1 _).mono fun e w' h => ⟨by rw [h.1, H3.out], by rw [h.2]; exact Below.refl _ _⟩)
 have N4 : ∀ d os, Calls Tryz.prog 63 #[.int .i64 y.k, .int .i64 0, .int .i64 2] (grow (redrawn w4 d) os) fun e w' => e = .returned (.bool false) ∧ ∃ p : Regrown, w' = grow (redrawn w4 p.d) p.os := fun d os => Calls.regrown_of ((sIn_any y.k 0 2 _).mono fun e w' h => ⟨by rw [h.1, H4.out], by rw [h.2]; exact Below.refl _ _⟩)
 clear HND
 go_wp2_with fail
 refine wp_region_quiet_below (by kernel_rfl) (by kernel_rfl) ?_
 repeat (go_big_quiet_step (first | (with_reducible exact N1 _ _) | (with_reducible exact N2 _ _) | (with_reducible exact NN3 _ _) | (with_reducible exact N4 _ _)))
 refine wpQuiet_nil ?_
 intro _ hw'
 obtain ⟨⟨dq, osq⟩, hw''⟩ := hw'
 obtain ⟨w5, HW5⟩ : ∃ x, Hid (x = grow (redrawn w4 dq) osq) := ⟨_, rfl⟩
 subst hw''
 have K5 : Hid (MhA w w0 w5 A C D id f g n c S y a9 c9 gs) := by rw [HW5.out]; exact K4.out.below (below_regrown w4 dq osq)
 have RA5 : Hid (Row w5 A 37 #[.int .i64 id, .int .i64 f, .slice (some ⟨g, 0, none⟩) n c]) := K5.out.ra
 have RD5 : Hid (Row w5 D 37 #[.int .i64 0, .int .i64 0, .slice none 0 0]) := K5.out.rd
 obtain ⟨w6, HW6⟩ : ∃ x, Hid (x = w5.setRow D #[.int .i64 id, .int .i64 f, .slice (some ⟨g, 0, none⟩) n c]) := ⟨_, rfl⟩
 have R6 : Hid (Row w6 D 37 #[.int .i64 id, .int .i64 f, .slice (some ⟨g, 0, none⟩) n c]) := by show Row _ _ _ _; rw [HW6.out]; exact RD5.out.row
 have KF : Hid (NhR w w6 id f n S 0 (fun _ => syA 0 0 y.r 0) (.returned (.tuple #[ndV id f (.slice (some ⟨g, 0, none⟩) n c), .slice (some ⟨gs, 0, none⟩) 0 0]))) := by
  have hD := HL.out.2.2.2.2.2
  have hw0 := KB0.out.size
  refine ⟨_, _, _, _, rfl, ?_, fun W' _ _ => rd_none W' _ _, ?_, ?_⟩
  ·rw [HW6.out]
   exact Rf.of_ow (K5.out.o.frame (fun x hx _ => setRow_other _ _ _ _ (fun e => by have h1 : w0.heap.size ≤ x := hx.1; omega))) (fun x hx k => by have h1 : w0.heap.size ≤ x := hx.1; have h2 : x < w.heap.size := k; omega)
  ·rw [HW6.out]
   exact belowSetRow K5.out.b HL.out.2.2.1 _
  ·rw [HW6.out]
   exact ⟨_, (K5.out.o.frame (fun x hx _ => setRow_other _ _ _ _ (fun e => by have h1 : w0.heap.size ≤ x := hx.1; omega))).base hw0⟩
 clear x0 x1 x2 v0 v1 v2 v3 X0 X1 X2 V0 V1 V2 V3
 rw [← HW5.out]
 go_wp2_with (first | (refine wpList_load_row (by rfl) 37 _ (by rfl) A (by rfl) 37 #[.int .i64 id, .int .i64 f, .slice (some ⟨g, 0, none⟩) n c] (0, 0) _ ?_ Tryz.underlying37 (by rfl) Tryz.infoNd ?_; exact RA5.out) | (refine wpList_store_row (by rfl) 37 _ _ (by rfl) D #[.int .i64 id, .int .i64 f, .slice (some ⟨g, 0, none⟩) n c] (by rfl) (by rfl) 37 #[.int .i64 0, .int .i64 0, .slice none 0 0] ?_ Tryz.infoNd rfl (by simp [Value.oneCell']) ?_; exact RD5.out; rw [← HW6.out]))
 refine bodyPost_ret (v := .tuple #[ndV id f (.slice (some ⟨g, 0, none⟩) n c), .slice (some ⟨gs, 0, none⟩) 0 0]) (by
  have p0 := R6.out.cell 0
  have p1 := R6.out.cell 1
  have p2 := R6.out.cell 2
  simp at p0 p1 p2
  simp [results, Tryz.results52, go_sem, p0, p1, p2]) rfl KF.out
theorem sNodeHear_no5 (id f : Int) (a : Option Addr) (n cap : Nat) (S : Nat → Sl) (y : Sy) (a9 : Option Addr) (c9 : Nat) (w : World) (hT : Rd w (slsD n S) (.slice a n cap)) (hB : NhB n S y) (hyes : ndB id f n S = true) (hf : 1 ≤ f ∧ f ≤ 3) (h2 : y.t = id) (h3 : -1 ≤ y.f ∧ y.f ≤ 3 * f) (h4 : 0 ≤ y.k ∧ y.k ≤ 2) (h5 : ¬ y.r.size = 16) :
  Calls Tryz.prog 52 #[ndV id f (.slice a n cap), syV y (.slice a9 y.p.m c9)] w fun e w' => NhR w w' id f n S 0 (fun _ => syA 0 0 y.r 0) e := by
 obtain ⟨A, HA⟩ : ∃ x, Hid (x = w.heap.size) := ⟨_, rfl⟩
 obtain ⟨C, HC⟩ : ∃ x, Hid (x = w.heap.size + 1) := ⟨_, rfl⟩
 obtain ⟨D, HD⟩ : ∃ x, Hid (x = w.heap.size + 1 + 1) := ⟨_, rfl⟩
 obtain ⟨w0, HW0⟩ : ∃ x, Hid (x = ((w.alloc (.cells #[.int .i64 id, .int .i64 f, .slice a n cap] 37)).alloc (.cells (syC y (.slice a9 y.p.m c9)) 87)).alloc (.cells #[.int .i64 0, .int .i64 0, .slice none 0 0] 37)) := ⟨_, rfl⟩
 have RA : Hid (Row w0 A 37 #[.int .i64 id, .int .i64 f, .slice a n cap]) := by show Row _ _ _ _; rw [HW0.out, HA.out]; exact Row.alloc (Row.alloc (Row.new w _ _) _) _
 have RC : Hid (Row w0 C 87 (syC y (.slice a9 y.p.m c9))) := by
  show Row _ _ _ _
  rw [HW0.out, HC.out]
  have := Row.new (w.alloc (.cells #[.int .i64 id, .int .i64 f, .slice a n cap] 37)) (syC y (.slice a9 y.p.m c9)) 87
  exact Row.alloc (by simpa using this) _
 have RD : Hid (Row w0 D 37 #[.int .i64 0, .int .i64 0, .slice none 0 0]) := by
  show Row _ _ _ _
  rw [HW0.out, HD.out]
  have := Row.new ((w.alloc (.cells #[.int .i64 id, .int .i64 f, .slice a n cap] 37)).alloc (.cells (syC y (.slice a9 y.p.m c9)) 87)) #[.int .i64 0, .int .i64 0, .slice none 0 0] 37
  simpa using this
 have hb0 : Below w.heap.size w w0 := by rw [HW0.out]; exact (((Below.refl _ _).alloc (Nat.le_refl _) _).alloc (by simp) _).alloc (by simp; omega) _
 have KB0 : Hid (Below w.heap.size w w0) := hb0
 have HL : Hid (w.heap.size ≤ A ∧ w.heap.size ≤ C ∧ w.heap.size ≤ D ∧ A < w0.heap.size ∧ C < w0.heap.size ∧ D < w0.heap.size) := ⟨by have := HA.out; omega, by have := HC.out; omega, by have := HD.out; omega, RA.out.lt, RC.out.lt, RD.out.lt⟩
 have LAC : Hid (A ≠ C ∧ A ≠ D ∧ C ≠ D) := ⟨by have := HA.out; have := HC.out; omega, by have := HA.out; have := HD.out; omega, by have := HC.out; have := HD.out; omega⟩
 have KCP : Hid _ := sCopyN_any id f a n cap S w0 (hT.below hb0) hB.kn (fun i hi => (hB.k i hi).s)
 have HB : Hid (NhB n S y) := hB
 have HND : Hid (ndB id f n S = true) := hyes
 have HF : Hid (1 ≤ f ∧ f ≤ 3) := hf
 obtain ⟨q, HQ⟩ : ∃ q : Int, Hid (3 * f + 1 = q) := ⟨_, rfl⟩
 obtain ⟨q1, HQ1⟩ : ∃ q1 : Int, Hid (3 * f = q1) := ⟨_, rfl⟩
 have eq1 : IntKind.i64.wrap (q - 1) = q1 := by have := HQ.out; have := HQ1.out; rw [IntKind.wrap_i64]; omega
 have H3 : Hid (inB y.f (-1) q1 = true) := by have := HQ1.out; show inB _ _ _ = true; unfold inB; exact decide_eq_true (by omega)
 have H4 : Hid (inB y.k 0 2 = true) := by show inB _ _ _ = true; unfold inB; exact decide_eq_true (by omega)
 clear h3 h4
 have t5 : ((y.r.size : Int) != 16) = true := by simp; omega
 clear h5
 clear hT hB hb0 hyes hf
 go_enter Tryz.func52, Tryz.ntmps52
 go_wp2_with (rw [← HW0.out, ← HD.out, ← HC.out, ← HA.out]; refine wpList_load_row (by rfl) 37 _ (by rfl) A (by rfl) 37 #[.int .i64 id, .int .i64 f, .slice a n cap] (0, 0) _ ?_ Tryz.underlying37 (by rfl) Tryz.infoNd ?_; exact RA.out)
 refine Calls.mono KCP.out ?_
 rintro e w1 ⟨g, c, rfl, O1, b1⟩
 obtain ⟨w2, HW2⟩ : ∃ x, Hid (x = w1.setRow A #[.int .i64 id, .int .i64 f, .slice (some ⟨g, 0, none⟩) n c]) := ⟨_, rfl⟩
 obtain ⟨gs, HGS⟩ : ∃ x, Hid (x = w2.heap.size) := ⟨_, rfl⟩
 obtain ⟨w3, HW3⟩ : ∃ x, Hid (x = w2.alloc (.cells #[] 87)) := ⟨_, rfl⟩
 have R1 : Hid (Row w1 A 37 #[.int .i64 id, .int .i64 f, .slice a n cap]) := RA.out.below b1 RA.out.lt
 have K3 : Hid (MhA w w0 w3 A C D id f g n c S y a9 c9 gs) := by
  have b3 : Below w2.heap.size w2 w3 := by rw [HW3.out]; exact (Below.refl _ _).alloc (Nat.le_refl _) _
  have e2 : w2.heap.size = w1.heap.size := by rw [HW2.out]; simp
  have l := HL.out
  have s1 := b1.size
  have ra2 : Row w2 A 37 #[.int .i64 id, .int .i64 f, .slice (some ⟨g, 0, none⟩) n c] := by rw [HW2.out]; exact R1.out.row
  have rc2 : Row w2 C 87 (syC y (.slice a9 y.p.m c9)) := by rw [HW2.out]; exact (RC.out.below b1 RC.out.lt).otherRow (fun e => LAC.out.1 e.symm)
  have rd2 : Row w2 D 37 #[.int .i64 0, .int .i64 0, .slice none 0 0] := by rw [HW2.out]; exact (RD.out.below b1 RD.out.lt).otherRow (fun e => LAC.out.2.1 e.symm)
  have o2 : Ow w2 w0.heap.size (slsD n S) (.slice (some ⟨g, 0, none⟩) n c) (rng w0.heap.size w1.heap.size) := by
   rw [HW2.out]
   exact O1.frame fun x hx _ => setRow_other _ _ _ _ (fun e => by have h1 : w0.heap.size ≤ x := hx.1; omega)
  have b2 : Below w.heap.size w w2 := by rw [HW2.out]; exact belowSetRow (below2 KB0.out b1) l.1 _
  refine ⟨ra2.below b3 ra2.lt, rc2.below b3 rc2.lt, rd2.below b3 rd2.lt, (o2.below b3).mono (fun x hx => ⟨hx.1, ?_⟩), below2 b2 b3, ?_, ?_, ?_⟩
  ·have h1 : x < w1.heap.size := hx.2
   rw [HGS.out]; omega
  ·rw [HW3.out, HGS.out]; exact Row.new w2 _ _
  ·rw [HGS.out]; omega
  ·rw [HGS.out]
   have := b3.size
   rw [HW3.out]
   simp
 have KRA3 : Hid (Row w3 A 37 #[.int .i64 id, .int .i64 f, .slice (some ⟨g, 0, none⟩) n c]) := K3.out.ra
 have KRC3 : Hid (Row w3 C 87 (syC y (.slice a9 y.p.m c9))) := K3.out.rc
 have KPL : Hid _ := sPlace_any id f (some ⟨g, 0, none⟩) n c S y.r w3 K3.out.o.rd HB.out.kn
 have u3 := KRC3.out.cell 3
 simp at u3
 clear O1 b1
 go_wp2_with (first | (refine wpList_store_row (by rfl) 37 _ _ (by rfl) A #[.int .i64 id, .int .i64 f, .slice (some ⟨g, 0, none⟩) n c] (by rfl) (by rfl) 37 #[.int .i64 id, .int .i64 f, .slice a n cap] ?_ Tryz.infoNd rfl (by simp [Value.oneCell']) ?_; exact R1.out; rw [← HW2.out]) | (rw [← HW3.out, ← HGS.out]; refine wpList_load_row (by rfl) 37 _ (by rfl) A (by rfl) 37 #[.int .i64 id, .int .i64 f, .slice (some ⟨g, 0, none⟩) n c] (0, 0) _ ?_ Tryz.underlying37 (by rfl) Tryz.infoNd ?_; exact KRA3.out))
 refine Calls.mono KPL.out ?_
 rintro e w4 ⟨rfl, b4⟩
 have K4 : Hid (MhA w w0 w4 A C D id f g n c S y a9 c9 gs) := K3.out.below b4
 obtain ⟨pl, HPL⟩ : ∃ x : Int, Hid (x = ((plN S y.r n : Nat) : Int)) := ⟨_, rfl⟩
 rw [← HPL.out]
 have RA4 : Hid (Row w4 A 37 #[.int .i64 id, .int .i64 f, .slice (some ⟨g, 0, none⟩) n c]) := K4.out.ra
 have RC4 : Hid (Row w4 C 87 (syC y (.slice a9 y.p.m c9))) := K4.out.rc
 clear u3 b4 KPL KCP K3 KRA3 KRC3 R1 HW3 HW2 HGS
 have x0 := RA4.out.cell 0
 have x1 := RA4.out.cell 1
 have x2 := RA4.out.cell 2
 have v0 := RC4.out.cell 0
 have v1 := RC4.out.cell 1
 have v2 := RC4.out.cell 2
 have v3 := RC4.out.cell 3
 simp at x0 x1 x2 v0 v1 v2 v3
 have X0 : ∀ d os, (grow (redrawn w4 d) os).cell? ⟨A, 0, none⟩ = _ := fun d os => cell_regrown x0 d os
 have X1 : ∀ d os, (grow (redrawn w4 d) os).cell? ⟨A, 1, none⟩ = _ := fun d os => cell_regrown x1 d os
 have X2 : ∀ d os, (grow (redrawn w4 d) os).cell? ⟨A, 2, none⟩ = _ := fun d os => cell_regrown x2 d os
 have V0 : ∀ d os, (grow (redrawn w4 d) os).cell? ⟨C, 0, none⟩ = _ := fun d os => cell_regrown v0 d os
 have V1 : ∀ d os, (grow (redrawn w4 d) os).cell? ⟨C, 1, none⟩ = _ := fun d os => cell_regrown v1 d os
 have V2 : ∀ d os, (grow (redrawn w4 d) os).cell? ⟨C, 2, none⟩ = _ := fun d os => cell_regrown v2 d os
 have V3 : ∀ d os, (grow (redrawn w4 d) os).cell? ⟨C, 3, none⟩ = _ := fun d os => cell_regrown v3 d os
 have N1 : ∀ d os, Calls Tryz.prog 79 #[.agg #[.int .i64 id, .int .i64 f, .slice (some ⟨g, 0, none⟩) n c]] (grow (redrawn w4 d) os) fun e w' => e = .returned (.bool true) ∧ ∃ p : Regrown, w' = grow (redrawn w4 p.d) p.os := fun d os => Calls.regrown_of (by have := sNodeOk_any id f (some ⟨g, 0, none⟩) n c S (grow (redrawn w4 d) os) (K4.out.o.rd.below (below_regrown w4 d os)) HB.out.kn (fun i hi => (HB.out.k i hi).ok); rw [HND.out] at this; exact this)
 have N2 : ∀ d os, Calls Tryz.prog 49 #[.int .i64 f] (grow (redrawn w4 d) os) fun e w' => e = .returned (.int .i64 q) ∧ ∃ p : Regrown, w' = grow (redrawn w4 p.d) p.os := fun d os => Calls.regrown_of ((sAllN_any f _ HF.out).mono fun e w' h => ⟨by rw [h.1, HQ.out], by rw [h.2]; exact Below.refl _ _⟩)
 have NN3 : ∀ d os, Calls Tryz.prog 63 #[.int .i64 y.f, .int .i64 (-1), .int .i64 q1] (grow (redrawn w4 d) os) fun e w' => e = .returned (.bool true) ∧ ∃ p : Regrown, w' = grow (redrawn w4 p.d) p.os := fun d os => Calls.regrown_of ((sIn_any y.f (-1) q1 _).mono fun e w' h => ⟨by rw [h.1, H3.out], by rw [h.2]; exact Below.refl _ _⟩)
 have N4 : ∀ d os, Calls Tryz.prog 63 #[.int .i64 y.k, .int .i64 0, .int .i64 2] (grow (redrawn w4 d) os) fun e w' => e = .returned (.bool true) ∧ ∃ p : Regrown, w' = grow (redrawn w4 p.d) p.os := fun d os => Calls.regrown_of ((sIn_any y.k 0 2 _).mono fun e w' h => ⟨by rw [h.1, H4.out], by rw [h.2]; exact Below.refl _ _⟩)
 clear HND
 go_wp2_with fail
 refine wp_region_quiet_below (by kernel_rfl) (by kernel_rfl) ?_
 repeat (go_big_quiet_step (first | (with_reducible exact N1 _ _) | (with_reducible exact N2 _ _) | (with_reducible exact NN3 _ _) | (with_reducible exact N4 _ _)))
 refine wpQuiet_nil ?_
 intro _ hw'
 obtain ⟨⟨dq, osq⟩, hw''⟩ := hw'
 obtain ⟨w5, HW5⟩ : ∃ x, Hid (x = grow (redrawn w4 dq) osq) := ⟨_, rfl⟩
 subst hw''
 have K5 : Hid (MhA w w0 w5 A C D id f g n c S y a9 c9 gs) := by rw [HW5.out]; exact K4.out.below (below_regrown w4 dq osq)
 have RA5 : Hid (Row w5 A 37 #[.int .i64 id, .int .i64 f, .slice (some ⟨g, 0, none⟩) n c]) := K5.out.ra
 have RD5 : Hid (Row w5 D 37 #[.int .i64 0, .int .i64 0, .slice none 0 0]) := K5.out.rd
 obtain ⟨w6, HW6⟩ : ∃ x, Hid (x = w5.setRow D #[.int .i64 id, .int .i64 f, .slice (some ⟨g, 0, none⟩) n c]) := ⟨_, rfl⟩
 have R6 : Hid (Row w6 D 37 #[.int .i64 id, .int .i64 f, .slice (some ⟨g, 0, none⟩) n c]) := by show Row _ _ _ _; rw [HW6.out]; exact RD5.out.row
 have KF : Hid (NhR w w6 id f n S 0 (fun _ => syA 0 0 y.r 0) (.returned (.tuple #[ndV id f (.slice (some ⟨g, 0, none⟩) n c), .slice (some ⟨gs, 0, none⟩) 0 0]))) := by
  have hD := HL.out.2.2.2.2.2
  have hw0 := KB0.out.size
  refine ⟨_, _, _, _, rfl, ?_, fun W' _ _ => rd_none W' _ _, ?_, ?_⟩
  ·rw [HW6.out]
   exact Rf.of_ow (K5.out.o.frame (fun x hx _ => setRow_other _ _ _ _ (fun e => by have h1 : w0.heap.size ≤ x := hx.1; omega))) (fun x hx k => by have h1 : w0.heap.size ≤ x := hx.1; have h2 : x < w.heap.size := k; omega)
  ·rw [HW6.out]
   exact belowSetRow K5.out.b HL.out.2.2.1 _
  ·rw [HW6.out]
   exact ⟨_, (K5.out.o.frame (fun x hx _ => setRow_other _ _ _ _ (fun e => by have h1 : w0.heap.size ≤ x := hx.1; omega))).base hw0⟩
 clear x0 x1 x2 v0 v1 v2 v3 X0 X1 X2 V0 V1 V2 V3
 rw [← HW5.out]
 go_wp2_with (first | (refine wpList_load_row (by rfl) 37 _ (by rfl) A (by rfl) 37 #[.int .i64 id, .int .i64 f, .slice (some ⟨g, 0, none⟩) n c] (0, 0) _ ?_ Tryz.underlying37 (by rfl) Tryz.infoNd ?_; exact RA5.out) | (refine wpList_store_row (by rfl) 37 _ _ (by rfl) D #[.int .i64 id, .int .i64 f, .slice (some ⟨g, 0, none⟩) n c] (by rfl) (by rfl) 37 #[.int .i64 0, .int .i64 0, .slice none 0 0] ?_ Tryz.infoNd rfl (by simp [Value.oneCell']) ?_; exact RD5.out; rw [← HW6.out]))
 refine bodyPost_ret (v := .tuple #[ndV id f (.slice (some ⟨g, 0, none⟩) n c), .slice (some ⟨gs, 0, none⟩) 0 0]) (by
  have p0 := R6.out.cell 0
  have p1 := R6.out.cell 1
  have p2 := R6.out.cell 2
  simp at p0 p1 p2
  simp [results, Tryz.results52, go_sem, p0, p1, p2]) rfl KF.out
theorem sNodeHear_no6 (id f : Int) (a : Option Addr) (n cap : Nat) (S : Nat → Sl) (y : Sy) (a9 : Option Addr) (c9 : Nat) (w : World) (hT : Rd w (slsD n S) (.slice a n cap)) (hB : NhB n S y) (hyes : ndB id f n S = true) (hf : 1 ≤ f ∧ f ≤ 3) (h2 : y.t = id) (h3 : -1 ≤ y.f ∧ y.f ≤ 3 * f) (h4 : 0 ≤ y.k ∧ y.k ≤ 2) (h5 : y.r.size = 16) (h6 : 40 ≤ plN S y.r n) :
  Calls Tryz.prog 52 #[ndV id f (.slice a n cap), syV y (.slice a9 y.p.m c9)] w fun e w' => NhR w w' id f n S 0 (fun _ => syA 0 0 y.r 0) e := by
 obtain ⟨A, HA⟩ : ∃ x, Hid (x = w.heap.size) := ⟨_, rfl⟩
 obtain ⟨C, HC⟩ : ∃ x, Hid (x = w.heap.size + 1) := ⟨_, rfl⟩
 obtain ⟨D, HD⟩ : ∃ x, Hid (x = w.heap.size + 1 + 1) := ⟨_, rfl⟩
 obtain ⟨w0, HW0⟩ : ∃ x, Hid (x = ((w.alloc (.cells #[.int .i64 id, .int .i64 f, .slice a n cap] 37)).alloc (.cells (syC y (.slice a9 y.p.m c9)) 87)).alloc (.cells #[.int .i64 0, .int .i64 0, .slice none 0 0] 37)) := ⟨_, rfl⟩
 have RA : Hid (Row w0 A 37 #[.int .i64 id, .int .i64 f, .slice a n cap]) := by show Row _ _ _ _; rw [HW0.out, HA.out]; exact Row.alloc (Row.alloc (Row.new w _ _) _) _
 have RC : Hid (Row w0 C 87 (syC y (.slice a9 y.p.m c9))) := by
  show Row _ _ _ _
  rw [HW0.out, HC.out]
  have := Row.new (w.alloc (.cells #[.int .i64 id, .int .i64 f, .slice a n cap] 37)) (syC y (.slice a9 y.p.m c9)) 87
  exact Row.alloc (by simpa using this) _
 have RD : Hid (Row w0 D 37 #[.int .i64 0, .int .i64 0, .slice none 0 0]) := by
  show Row _ _ _ _
  rw [HW0.out, HD.out]
  have := Row.new ((w.alloc (.cells #[.int .i64 id, .int .i64 f, .slice a n cap] 37)).alloc (.cells (syC y (.slice a9 y.p.m c9)) 87)) #[.int .i64 0, .int .i64 0, .slice none 0 0] 37
  simpa using this
 have hb0 : Below w.heap.size w w0 := by rw [HW0.out]; exact (((Below.refl _ _).alloc (Nat.le_refl _) _).alloc (by simp) _).alloc (by simp; omega) _
 have KB0 : Hid (Below w.heap.size w w0) := hb0
 have HL : Hid (w.heap.size ≤ A ∧ w.heap.size ≤ C ∧ w.heap.size ≤ D ∧ A < w0.heap.size ∧ C < w0.heap.size ∧ D < w0.heap.size) := ⟨by have := HA.out; omega, by have := HC.out; omega, by have := HD.out; omega, RA.out.lt, RC.out.lt, RD.out.lt⟩
 have LAC : Hid (A ≠ C ∧ A ≠ D ∧ C ≠ D) := ⟨by have := HA.out; have := HC.out; omega, by have := HA.out; have := HD.out; omega, by have := HC.out; have := HD.out; omega⟩
 have KCP : Hid _ := sCopyN_any id f a n cap S w0 (hT.below hb0) hB.kn (fun i hi => (hB.k i hi).s)
 have HB : Hid (NhB n S y) := hB
 have HND : Hid (ndB id f n S = true) := hyes
 have HF : Hid (1 ≤ f ∧ f ≤ 3) := hf
 obtain ⟨q, HQ⟩ : ∃ q : Int, Hid (3 * f + 1 = q) := ⟨_, rfl⟩
 obtain ⟨q1, HQ1⟩ : ∃ q1 : Int, Hid (3 * f = q1) := ⟨_, rfl⟩
 have eq1 : IntKind.i64.wrap (q - 1) = q1 := by have := HQ.out; have := HQ1.out; rw [IntKind.wrap_i64]; omega
 have H3 : Hid (inB y.f (-1) q1 = true) := by have := HQ1.out; show inB _ _ _ = true; unfold inB; exact decide_eq_true (by omega)
 have H4 : Hid (inB y.k 0 2 = true) := by show inB _ _ _ = true; unfold inB; exact decide_eq_true (by omega)
 clear h3 h4
 have HP6 : Hid (40 ≤ plN S y.r n) := h6
 clear h6
 clear hT hB hb0 hyes hf
 go_enter Tryz.func52, Tryz.ntmps52
 go_wp2_with (rw [← HW0.out, ← HD.out, ← HC.out, ← HA.out]; refine wpList_load_row (by rfl) 37 _ (by rfl) A (by rfl) 37 #[.int .i64 id, .int .i64 f, .slice a n cap] (0, 0) _ ?_ Tryz.underlying37 (by rfl) Tryz.infoNd ?_; exact RA.out)
 refine Calls.mono KCP.out ?_
 rintro e w1 ⟨g, c, rfl, O1, b1⟩
 obtain ⟨w2, HW2⟩ : ∃ x, Hid (x = w1.setRow A #[.int .i64 id, .int .i64 f, .slice (some ⟨g, 0, none⟩) n c]) := ⟨_, rfl⟩
 obtain ⟨gs, HGS⟩ : ∃ x, Hid (x = w2.heap.size) := ⟨_, rfl⟩
 obtain ⟨w3, HW3⟩ : ∃ x, Hid (x = w2.alloc (.cells #[] 87)) := ⟨_, rfl⟩
 have R1 : Hid (Row w1 A 37 #[.int .i64 id, .int .i64 f, .slice a n cap]) := RA.out.below b1 RA.out.lt
 have K3 : Hid (MhA w w0 w3 A C D id f g n c S y a9 c9 gs) := by
  have b3 : Below w2.heap.size w2 w3 := by rw [HW3.out]; exact (Below.refl _ _).alloc (Nat.le_refl _) _
  have e2 : w2.heap.size = w1.heap.size := by rw [HW2.out]; simp
  have l := HL.out
  have s1 := b1.size
  have ra2 : Row w2 A 37 #[.int .i64 id, .int .i64 f, .slice (some ⟨g, 0, none⟩) n c] := by rw [HW2.out]; exact R1.out.row
  have rc2 : Row w2 C 87 (syC y (.slice a9 y.p.m c9)) := by rw [HW2.out]; exact (RC.out.below b1 RC.out.lt).otherRow (fun e => LAC.out.1 e.symm)
  have rd2 : Row w2 D 37 #[.int .i64 0, .int .i64 0, .slice none 0 0] := by rw [HW2.out]; exact (RD.out.below b1 RD.out.lt).otherRow (fun e => LAC.out.2.1 e.symm)
  have o2 : Ow w2 w0.heap.size (slsD n S) (.slice (some ⟨g, 0, none⟩) n c) (rng w0.heap.size w1.heap.size) := by
   rw [HW2.out]
   exact O1.frame fun x hx _ => setRow_other _ _ _ _ (fun e => by have h1 : w0.heap.size ≤ x := hx.1; omega)
  have b2 : Below w.heap.size w w2 := by rw [HW2.out]; exact belowSetRow (below2 KB0.out b1) l.1 _
  refine ⟨ra2.below b3 ra2.lt, rc2.below b3 rc2.lt, rd2.below b3 rd2.lt, (o2.below b3).mono (fun x hx => ⟨hx.1, ?_⟩), below2 b2 b3, ?_, ?_, ?_⟩
  ·have h1 : x < w1.heap.size := hx.2
   rw [HGS.out]; omega
  ·rw [HW3.out, HGS.out]; exact Row.new w2 _ _
  ·rw [HGS.out]; omega
  ·rw [HGS.out]
   have := b3.size
   rw [HW3.out]
   simp
 have KRA3 : Hid (Row w3 A 37 #[.int .i64 id, .int .i64 f, .slice (some ⟨g, 0, none⟩) n c]) := K3.out.ra
 have KRC3 : Hid (Row w3 C 87 (syC y (.slice a9 y.p.m c9))) := K3.out.rc
 have KPL : Hid _ := sPlace_any id f (some ⟨g, 0, none⟩) n c S y.r w3 K3.out.o.rd HB.out.kn
 have u3 := KRC3.out.cell 3
 simp at u3
 clear O1 b1
 go_wp2_with (first | (refine wpList_store_row (by rfl) 37 _ _ (by rfl) A #[.int .i64 id, .int .i64 f, .slice (some ⟨g, 0, none⟩) n c] (by rfl) (by rfl) 37 #[.int .i64 id, .int .i64 f, .slice a n cap] ?_ Tryz.infoNd rfl (by simp [Value.oneCell']) ?_; exact R1.out; rw [← HW2.out]) | (rw [← HW3.out, ← HGS.out]; refine wpList_load_row (by rfl) 37 _ (by rfl) A (by rfl) 37 #[.int .i64 id, .int .i64 f, .slice (some ⟨g, 0, none⟩) n c] (0, 0) _ ?_ Tryz.underlying37 (by rfl) Tryz.infoNd ?_; exact KRA3.out))
 refine Calls.mono KPL.out ?_
 rintro e w4 ⟨rfl, b4⟩
 have K4 : Hid (MhA w w0 w4 A C D id f g n c S y a9 c9 gs) := K3.out.below b4
 obtain ⟨pl, HPL⟩ : ∃ x : Int, Hid (x = ((plN S y.r n : Nat) : Int)) := ⟨_, rfl⟩
 rw [← HPL.out]
 have RA4 : Hid (Row w4 A 37 #[.int .i64 id, .int .i64 f, .slice (some ⟨g, 0, none⟩) n c]) := K4.out.ra
 have RC4 : Hid (Row w4 C 87 (syC y (.slice a9 y.p.m c9))) := K4.out.rc
 have t6 : 40 ≤ pl := by have := HP6.out; have := HPL.out; omega
 clear u3 b4 KPL KCP K3 KRA3 KRC3 R1 HW3 HW2 HGS
 have x0 := RA4.out.cell 0
 have x1 := RA4.out.cell 1
 have x2 := RA4.out.cell 2
 have v0 := RC4.out.cell 0
 have v1 := RC4.out.cell 1
 have v2 := RC4.out.cell 2
 have v3 := RC4.out.cell 3
 simp at x0 x1 x2 v0 v1 v2 v3
 have X0 : ∀ d os, (grow (redrawn w4 d) os).cell? ⟨A, 0, none⟩ = _ := fun d os => cell_regrown x0 d os
 have X1 : ∀ d os, (grow (redrawn w4 d) os).cell? ⟨A, 1, none⟩ = _ := fun d os => cell_regrown x1 d os
 have X2 : ∀ d os, (grow (redrawn w4 d) os).cell? ⟨A, 2, none⟩ = _ := fun d os => cell_regrown x2 d os
 have V0 : ∀ d os, (grow (redrawn w4 d) os).cell? ⟨C, 0, none⟩ = _ := fun d os => cell_regrown v0 d os
 have V1 : ∀ d os, (grow (redrawn w4 d) os).cell? ⟨C, 1, none⟩ = _ := fun d os => cell_regrown v1 d os
 have V2 : ∀ d os, (grow (redrawn w4 d) os).cell? ⟨C, 2, none⟩ = _ := fun d os => cell_regrown v2 d os
 have V3 : ∀ d os, (grow (redrawn w4 d) os).cell? ⟨C, 3, none⟩ = _ := fun d os => cell_regrown v3 d os
 have N1 : ∀ d os, Calls Tryz.prog 79 #[.agg #[.int .i64 id, .int .i64 f, .slice (some ⟨g, 0, none⟩) n c]] (grow (redrawn w4 d) os) fun e w' => e = .returned (.bool true) ∧ ∃ p : Regrown, w' = grow (redrawn w4 p.d) p.os := fun d os => Calls.regrown_of (by have := sNodeOk_any id f (some ⟨g, 0, none⟩) n c S (grow (redrawn w4 d) os) (K4.out.o.rd.below (below_regrown w4 d os)) HB.out.kn (fun i hi => (HB.out.k i hi).ok); rw [HND.out] at this; exact this)
 have N2 : ∀ d os, Calls Tryz.prog 49 #[.int .i64 f] (grow (redrawn w4 d) os) fun e w' => e = .returned (.int .i64 q) ∧ ∃ p : Regrown, w' = grow (redrawn w4 p.d) p.os := fun d os => Calls.regrown_of ((sAllN_any f _ HF.out).mono fun e w' h => ⟨by rw [h.1, HQ.out], by rw [h.2]; exact Below.refl _ _⟩)
 have NN3 : ∀ d os, Calls Tryz.prog 63 #[.int .i64 y.f, .int .i64 (-1), .int .i64 q1] (grow (redrawn w4 d) os) fun e w' => e = .returned (.bool true) ∧ ∃ p : Regrown, w' = grow (redrawn w4 p.d) p.os := fun d os => Calls.regrown_of ((sIn_any y.f (-1) q1 _).mono fun e w' h => ⟨by rw [h.1, H3.out], by rw [h.2]; exact Below.refl _ _⟩)
 have N4 : ∀ d os, Calls Tryz.prog 63 #[.int .i64 y.k, .int .i64 0, .int .i64 2] (grow (redrawn w4 d) os) fun e w' => e = .returned (.bool true) ∧ ∃ p : Regrown, w' = grow (redrawn w4 p.d) p.os := fun d os => Calls.regrown_of ((sIn_any y.k 0 2 _).mono fun e w' h => ⟨by rw [h.1, H4.out], by rw [h.2]; exact Below.refl _ _⟩)
 clear HND
 go_wp2_with fail
 refine wp_region_quiet_below (by kernel_rfl) (by kernel_rfl) ?_
 repeat (go_big_quiet_step (first | (with_reducible exact N1 _ _) | (with_reducible exact N2 _ _) | (with_reducible exact NN3 _ _) | (with_reducible exact N4 _ _)))
 refine wpQuiet_nil ?_
 intro _ hw'
 obtain ⟨⟨dq, osq⟩, hw''⟩ := hw'
 obtain ⟨w5, HW5⟩ : ∃ x, Hid (x = grow (redrawn w4 dq) osq) := ⟨_, rfl⟩
 subst hw''
 have K5 : Hid (MhA w w0 w5 A C D id f g n c S y a9 c9 gs) := by rw [HW5.out]; exact K4.out.below (below_regrown w4 dq osq)
 have RA5 : Hid (Row w5 A 37 #[.int .i64 id, .int .i64 f, .slice (some ⟨g, 0, none⟩) n c]) := K5.out.ra
 have RD5 : Hid (Row w5 D 37 #[.int .i64 0, .int .i64 0, .slice none 0 0]) := K5.out.rd
 obtain ⟨w6, HW6⟩ : ∃ x, Hid (x = w5.setRow D #[.int .i64 id, .int .i64 f, .slice (some ⟨g, 0, none⟩) n c]) := ⟨_, rfl⟩
 have R6 : Hid (Row w6 D 37 #[.int .i64 id, .int .i64 f, .slice (some ⟨g, 0, none⟩) n c]) := by show Row _ _ _ _; rw [HW6.out]; exact RD5.out.row
 have KF : Hid (NhR w w6 id f n S 0 (fun _ => syA 0 0 y.r 0) (.returned (.tuple #[ndV id f (.slice (some ⟨g, 0, none⟩) n c), .slice (some ⟨gs, 0, none⟩) 0 0]))) := by
  have hD := HL.out.2.2.2.2.2
  have hw0 := KB0.out.size
  refine ⟨_, _, _, _, rfl, ?_, fun W' _ _ => rd_none W' _ _, ?_, ?_⟩
  ·rw [HW6.out]
   exact Rf.of_ow (K5.out.o.frame (fun x hx _ => setRow_other _ _ _ _ (fun e => by have h1 : w0.heap.size ≤ x := hx.1; omega))) (fun x hx k => by have h1 : w0.heap.size ≤ x := hx.1; have h2 : x < w.heap.size := k; omega)
  ·rw [HW6.out]
   exact belowSetRow K5.out.b HL.out.2.2.1 _
  ·rw [HW6.out]
   exact ⟨_, (K5.out.o.frame (fun x hx _ => setRow_other _ _ _ _ (fun e => by have h1 : w0.heap.size ≤ x := hx.1; omega))).base hw0⟩
 clear x0 x1 x2 v0 v1 v2 v3 X0 X1 X2 V0 V1 V2 V3
 rw [← HW5.out]
 go_wp2_with (first | (refine wpList_load_row (by rfl) 37 _ (by rfl) A (by rfl) 37 #[.int .i64 id, .int .i64 f, .slice (some ⟨g, 0, none⟩) n c] (0, 0) _ ?_ Tryz.underlying37 (by rfl) Tryz.infoNd ?_; exact RA5.out) | (refine wpList_store_row (by rfl) 37 _ _ (by rfl) D #[.int .i64 id, .int .i64 f, .slice (some ⟨g, 0, none⟩) n c] (by rfl) (by rfl) 37 #[.int .i64 0, .int .i64 0, .slice none 0 0] ?_ Tryz.infoNd rfl (by simp [Value.oneCell']) ?_; exact RD5.out; rw [← HW6.out]))
 refine bodyPost_ret (v := .tuple #[ndV id f (.slice (some ⟨g, 0, none⟩) n c), .slice (some ⟨gs, 0, none⟩) 0 0]) (by
  have p0 := R6.out.cell 0
  have p1 := R6.out.cell 1
  have p2 := R6.out.cell 2
  simp at p0 p1 p2
  simp [results, Tryz.results52, go_sem, p0, p1, p2]) rfl KF.out
end Go.Proofs.YtaenoiffamgcfaaGreatDoor
