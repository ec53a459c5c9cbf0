import Derived.Test.YtcaejlalnjnifaaGreatA38
import Derived.Test.YtcaejlalnjnifaaGreatA32
import Derived.Test.YtcaejlalnjnifaaGreatA34
import Derived.Test.YtcaejlalnjnifaaGreatA29
import Derived.Test.YtcaejlalnjnifaaGreatA35
import Derived.Test.YtcaejlalnjnifaaGreatA8
import Derived.Test.YtcaejlalnjnifaaGreatA15
import Derived.Test.YtcaejlalnjnifaaGreatA6
set_option maxHeartbeats 8000000
set_option maxRecDepth 2000
open Go.ChangeShapes Go.WideShapes Go.ChangeAt Go.RowKit
namespace Go.Proofs.YtcaejlalnjnifaaGreat
def NhA (w W : World) (id f : Int) (n : Nat) (S : Nat → Sl) (m : Nat) (Y : Nat → Sy) (e : Ending) : Prop :=
 ∃ g cap sa sc F1 F2, e = .returned (.tuple #[ndV id f (.slice (some ⟨g, 0, none⟩) n cap), .slice sa m sc]) ∧ Ow W w.heap.size (slsD n S) (.slice (some ⟨g, 0, none⟩) n cap) F1 ∧ Ow W w.heap.size (sysD m Y) (.slice sa m sc) F2 ∧ (∀ x, F1 x → ¬ F2 x) ∧ Below w.heap.size w W
structure NhB (n : Nat) (S : Nat → Sl) (y : Sy) : Prop where
 kn : n ≤ 1048576
 k : ∀ i, i < n → SlK (S i)
 r : y.r.size ≤ 1048576
 m : y.p.m ≤ 1048576
 pr : y.p.r.size ≤ 1048576
 pb : y.p.b.size ≤ 1048576
 ps : ∀ i, i < y.p.m → (y.p.S i).size ≤ 1048576
theorem SlK.ok {s : Sl} (h : SlK s) : SlN s := ⟨h.m, fun i hi => Nat.le_trans (h.tx i hi) (by unfold maxLen; omega), h.ne, h.nr⟩
theorem nodeHear_no1 (id f : Int) (a : Option Addr) (n cap : Nat) (S : Nat → Sl) (y : Sy) (a9 : Option Addr) (c9 : Nat) (w : World) (hT : Rd w (slsD n S) (.slice a n cap)) (hB : NhB n S y) (hno : ndB id f n S = false) :
  Calls Tryz.prog 9 #[ndV id f (.slice a n cap), syV y (.slice a9 y.p.m c9)] w fun e w' => NhA w w' id f n S 0 (fun _ => syA 0 0 y.r 0) e := by
 obtain ⟨A, HA⟩ : ∃ x, Hid (x = w.heap.size) := ⟨_, rfl⟩
 obtain ⟨C, HC⟩ : ∃ x, Hid (x = w.heap.size + 1) := ⟨_, rfl⟩
 obtain ⟨D, HD⟩ : ∃ x, Hid (x = w.heap.size + 1 + 1) := ⟨_, rfl⟩
 obtain ⟨w0, HW0⟩ : ∃ x, Hid (x = ((w.alloc (.cells #[.int .i64 id, .int .i64 f, .slice a n cap] 26)).alloc (.cells (syC y (.slice a9 y.p.m c9)) 31)).alloc (.cells #[.int .i64 0, .int .i64 0, .slice none 0 0] 26)) := ⟨_, rfl⟩
 have RA : Hid (Row w0 A 26 #[.int .i64 id, .int .i64 f, .slice a n cap]) := by show Row _ _ _ _; rw [HW0.out, HA.out]; exact Row.alloc (Row.alloc (Row.new w _ _) _) _
 have RC : Hid (Row w0 C 31 (syC y (.slice a9 y.p.m c9))) := by
  show Row _ _ _ _
  rw [HW0.out, HC.out]
  have := Row.new (w.alloc (.cells #[.int .i64 id, .int .i64 f, .slice a n cap] 26)) (syC y (.slice a9 y.p.m c9)) 31
  exact Row.alloc (by simpa using this) _
 have RD : Hid (Row w0 D 26 #[.int .i64 0, .int .i64 0, .slice none 0 0]) := by
  show Row _ _ _ _
  rw [HW0.out, HD.out]
  have := Row.new ((w.alloc (.cells #[.int .i64 id, .int .i64 f, .slice a n cap] 26)).alloc (.cells (syC y (.slice a9 y.p.m c9)) 31)) #[.int .i64 0, .int .i64 0, .slice none 0 0] 26
  simpa using this
 have hb0 : Below w.heap.size w w0 := by rw [HW0.out]; exact (((Below.refl _ _).alloc (Nat.le_refl _) _).alloc (by simp) _).alloc (by simp; omega) _
 have KB0 : Hid (Below w.heap.size w w0) := hb0
 have HL : Hid (w.heap.size ≤ A ∧ w.heap.size ≤ C ∧ w.heap.size ≤ D ∧ A < w0.heap.size ∧ C < w0.heap.size ∧ D < w0.heap.size) := ⟨by have := HA.out; omega, by have := HC.out; omega, by have := HD.out; omega, RA.out.lt, RC.out.lt, RD.out.lt⟩
 have KCP : Hid _ := copiedN_any id f a n cap S w0 (hT.below hb0) hB.kn hB.k
 have KOK : Hid (∀ W, Below w0.heap.size w0 W → Calls Tryz.prog 13 #[ndV id f (.slice a n cap)] W fun e w' => e = .returned (.bool (ndB id f n S)) ∧ Below W.heap.size W w') := fun W hW => nodeOk_any id f a n cap S W ((hT.below hb0).below hW) hB.kn (fun i hi => (hB.k i hi).ok)
 rw [hno] at KOK
 clear hT hB hb0 hno
 go_enter Tryz.func9, Tryz.ntmps9
 go_wp2_with (rw [← HW0.out, ← HD.out, ← HC.out, ← HA.out]; refine wpList_load_row (by rfl) 26 _ (by rfl) A (by rfl) 26 #[.int .i64 id, .int .i64 f, .slice a n cap] (0, 0) _ ?_ Tryz.underlying26 (by rfl) Tryz.infoNd ?_; exact RA.out)
 refine Calls.mono KCP.out ?_
 rintro e w1 ⟨g, rfl, O1, b1⟩
 obtain ⟨N2, HN2⟩ : ∃ x, Hid (x = w1.heap.size) := ⟨_, rfl⟩
 obtain ⟨w2, HW2⟩ : ∃ x, Hid (x = w1.alloc (.cells #[.int .i64 id, .int .i64 f, .slice (some ⟨g, 0, none⟩) n n] 26)) := ⟨_, rfl⟩
 have b12 : Below w1.heap.size w1 w2 := by rw [HW2.out]; exact (Below.refl _ _).alloc (Nat.le_refl _) _
 have K2 : Hid (Nw w2 w.heap.size N2 id f g n n S (rng w0.heap.size w1.heap.size) ∧ Below w0.heap.size w0 w2) := by
  have s0 := KB0.out.size
  have s1 := b1.size
  have s2 := b12.size
  have r2 : Row w2 N2 26 #[.int .i64 id, .int .i64 f, .slice (some ⟨g, 0, none⟩) n n] := by rw [HW2.out, HN2.out]; exact Row.new w1 _ _
  refine ⟨⟨r2, (O1.base s0).below b12, fun k => ?_, ⟨?_, ?_⟩, fun x k => ⟨?_, ?_⟩⟩, below2 b1 b12⟩
  ·have h1 : N2 < w1.heap.size := k.2
   have := HN2.out
   omega
  ·have := HN2.out; omega
  ·omega
  ·have h1 : w0.heap.size ≤ x := k.1
   omega
  ·have h1 : x < w1.heap.size := k.2
   omega
 have KB2 : Hid (Below w0.heap.size w0 w2) := K2.out.2
 have LW : Hid (w0.heap.size ≤ w1.heap.size) := b1.size
 have RA2 : Hid (Row w2 A 26 #[.int .i64 id, .int .i64 f, .slice a n cap]) := RA.out.below KB2.out RA.out.lt
 have KO2 : Hid _ := KOK.out w2 KB2.out
 clear b1 b12 O1
 go_wp2_with (rw [← HW2.out, ← HN2.out]; refine wpList_load_row (by rfl) 26 _ (by rfl) A (by rfl) 26 #[.int .i64 id, .int .i64 f, .slice a n cap] (0, 0) _ ?_ Tryz.underlying26 (by rfl) Tryz.infoNd ?_; exact RA2.out)
 refine Calls.mono KO2.out ?_
 rintro e w3 ⟨rfl, b3⟩
 have BX : Below w2.heap.size w2 w3 := b3
 have K4 : Hid (Nw w3 w.heap.size N2 id f g n n S (rng w0.heap.size w1.heap.size) ∧ Below w0.heap.size w0 w3) := ⟨K2.out.1.below BX, below2 K2.out.2 BX⟩
 have RN4 : Hid _ := K4.out.1.r
 have RD4 := RD.out.below K4.out.2 RD.out.lt
 obtain ⟨gs, HGS⟩ : ∃ x, Hid (x = w3.heap.size) := ⟨_, rfl⟩
 obtain ⟨w5, HW5⟩ : ∃ x, Hid (x = w3.alloc (.cells #[] 31)) := ⟨_, rfl⟩
 have b5 : Below w3.heap.size w3 w5 := by rw [HW5.out]; exact (Below.refl _ _).alloc (Nat.le_refl _) _
 have RD5 : Hid (Row w5 D 26 #[.int .i64 0, .int .i64 0, .slice none 0 0]) := RD4.below b5 RD4.lt
 obtain ⟨w6, HW6⟩ : ∃ x, Hid (x = w5.setRow D #[.int .i64 id, .int .i64 f, .slice (some ⟨g, 0, none⟩) n n]) := ⟨_, rfl⟩
 have R6 : Hid (Row w6 D 26 #[.int .i64 id, .int .i64 f, .slice (some ⟨g, 0, none⟩) n n]) := by show Row _ _ _ _; rw [HW6.out]; exact RD5.out.row
 have KF : Hid (NhA w w6 id f n S 0 (fun _ => syA 0 0 y.r 0) (.returned (.tuple #[ndV id f (.slice (some ⟨g, 0, none⟩) n n), .slice (some ⟨gs, 0, none⟩) 0 0]))) := by
  have s4 := K4.out.2.size
  have hD := HL.out.2.2.2.2.2
  have o5 : Ow w5 w.heap.size (sysD 0 (fun _ => syA 0 0 y.r 0)) (.slice (some ⟨gs, 0, none⟩) 0 0) (fun x => x = gs) := by
   refine ⟨_, 0, fun _ _ => undef, fun _ _ _ => False, rfl, ?_, ⟨fun x e => by cases e; rfl, fun _ _ _ hi => absurd hi (Nat.not_lt_zero _), fun _ _ _ hi => absurd hi (Nat.not_lt_zero _), fun _ _ _ _ _ hi => absurd hi (Nat.not_lt_zero _)⟩, fun _ _ hi => absurd hi (Nat.not_lt_zero _)⟩
   have := World.ownsRow_lit (e := 31) (size := 10) (base := w.heap.size) w3 #[] 0 K4.out.1.b.2 (by unfold maxLen; omega) (by simp)
   rw [HW5.out, HGS.out]
   simpa [cL] using this
  refine ⟨g, n, some ⟨gs, 0, none⟩, 0, rng w0.heap.size w1.heap.size, (fun x => x = gs), rfl, ?_, ?_, fun x k e => ?_, ?_⟩
  ·rw [HW6.out]
   exact (K4.out.1.o.below b5).frame fun x hx _ => setRow_other _ _ _ _ (fun e => by have h1 : w0.heap.size ≤ x := hx.1; omega)
  ·rw [HW6.out]
   exact o5.frame fun x hx _ => setRow_other _ _ _ _ (fun e => by have h1 : x = gs := hx; have := HGS.out; omega)
  ·have h1 := (K4.out.1.l1 x k).2
   have h2 : x = gs := e
   have := HGS.out
   omega
  ·rw [HW6.out]
   exact belowSetRow (below2 KB0.out (below2 K4.out.2 b5)) HL.out.2.2.1 _
 clear b5 RD4
 go_wp2_with (first | (refine wpList_load_row (by rfl) 26 _ (by rfl) N2 (by rfl) 26 #[.int .i64 id, .int .i64 f, .slice (some ⟨g, 0, none⟩) n n] (0, 0) _ ?_ Tryz.underlying26 (by rfl) Tryz.infoNd ?_; exact RN4.out) | ((try rw [← HW5.out]); refine wpList_store_row (by rfl) 26 _ _ (by rfl) D #[.int .i64 id, .int .i64 f, .slice (some ⟨g, 0, none⟩) n n] (by rfl) (by rfl) 26 #[.int .i64 0, .int .i64 0, .slice none 0 0] ?_ Tryz.infoNd rfl (by simp [Value.oneCell']) ?_; exact RD5.out; rw [← HW6.out]))
 try rw [← HGS.out]
 refine bodyPost_ret (v := .tuple #[ndV id f (.slice (some ⟨g, 0, none⟩) n n), .slice (some ⟨gs, 0, none⟩) 0 0]) (by
  have p0 := R6.out.cell 0
  have p1 := R6.out.cell 1
  have p2 := R6.out.cell 2
  simp at p0 p1 p2
  simp [results, Tryz.results9, go_sem, p0, p1, p2]) rfl KF.out
theorem nodeHear_no2 (id f : Int) (a : Option Addr) (n cap : Nat) (S : Nat → Sl) (y : Sy) (a9 : Option Addr) (c9 : Nat) (w : World) (hT : Rd w (slsD n S) (.slice a n cap)) (hB : NhB n S y) (hyes : ndB id f n S = true) (hf : 1 ≤ f ∧ f ≤ 3) (hno : mindB id f n S y = false) :
  Calls Tryz.prog 9 #[ndV id f (.slice a n cap), syV y (.slice a9 y.p.m c9)] w fun e w' => NhA w w' id f n S 0 (fun _ => syA 0 0 y.r 0) e := by
 obtain ⟨A, HA⟩ : ∃ x, Hid (x = w.heap.size) := ⟨_, rfl⟩
 obtain ⟨C, HC⟩ : ∃ x, Hid (x = w.heap.size + 1) := ⟨_, rfl⟩
 obtain ⟨D, HD⟩ : ∃ x, Hid (x = w.heap.size + 1 + 1) := ⟨_, rfl⟩
 obtain ⟨w0, HW0⟩ : ∃ x, Hid (x = ((w.alloc (.cells #[.int .i64 id, .int .i64 f, .slice a n cap] 26)).alloc (.cells (syC y (.slice a9 y.p.m c9)) 31)).alloc (.cells #[.int .i64 0, .int .i64 0, .slice none 0 0] 26)) := ⟨_, rfl⟩
 have RA : Hid (Row w0 A 26 #[.int .i64 id, .int .i64 f, .slice a n cap]) := by show Row _ _ _ _; rw [HW0.out, HA.out]; exact Row.alloc (Row.alloc (Row.new w _ _) _) _
 have RC : Hid (Row w0 C 31 (syC y (.slice a9 y.p.m c9))) := by
  show Row _ _ _ _
  rw [HW0.out, HC.out]
  have := Row.new (w.alloc (.cells #[.int .i64 id, .int .i64 f, .slice a n cap] 26)) (syC y (.slice a9 y.p.m c9)) 31
  exact Row.alloc (by simpa using this) _
 have RD : Hid (Row w0 D 26 #[.int .i64 0, .int .i64 0, .slice none 0 0]) := by
  show Row _ _ _ _
  rw [HW0.out, HD.out]
  have := Row.new ((w.alloc (.cells #[.int .i64 id, .int .i64 f, .slice a n cap] 26)).alloc (.cells (syC y (.slice a9 y.p.m c9)) 31)) #[.int .i64 0, .int .i64 0, .slice none 0 0] 26
  simpa using this
 have hb0 : Below w.heap.size w w0 := by rw [HW0.out]; exact (((Below.refl _ _).alloc (Nat.le_refl _) _).alloc (by simp) _).alloc (by simp; omega) _
 have KB0 : Hid (Below w.heap.size w w0) := hb0
 have HL : Hid (w.heap.size ≤ A ∧ w.heap.size ≤ C ∧ w.heap.size ≤ D ∧ A < w0.heap.size ∧ C < w0.heap.size ∧ D < w0.heap.size) := ⟨by have := HA.out; omega, by have := HC.out; omega, by have := HD.out; omega, RA.out.lt, RC.out.lt, RD.out.lt⟩
 have KCP : Hid _ := copiedN_any id f a n cap S w0 (hT.below hb0) hB.kn hB.k
 have KOK : Hid (∀ W, Below w0.heap.size w0 W → Calls Tryz.prog 13 #[ndV id f (.slice a n cap)] W fun e w' => e = .returned (.bool (ndB id f n S)) ∧ Below W.heap.size W w') := fun W hW => nodeOk_any id f a n cap S W ((hT.below hb0).below hW) hB.kn (fun i hi => (hB.k i hi).ok)
 have KMI : Hid (∀ W, Below w0.heap.size w0 W → Calls Tryz.prog 46 #[ndV id f (.slice a n cap), syV y (.slice a9 y.p.m c9)] W fun e w' => e = .returned (.bool (mindB id f n S y)) ∧ Below W.heap.size W w') := fun W hW => minds_any id f a n cap S y a9 y.p.m c9 W ((hT.below hb0).below hW) hB.kn hf
 rw [hyes] at KOK
 rw [hno] at KMI
 clear hT hB hb0 hno hyes hf
 go_enter Tryz.func9, Tryz.ntmps9
 go_wp2_with (rw [← HW0.out, ← HD.out, ← HC.out, ← HA.out]; refine wpList_load_row (by rfl) 26 _ (by rfl) A (by rfl) 26 #[.int .i64 id, .int .i64 f, .slice a n cap] (0, 0) _ ?_ Tryz.underlying26 (by rfl) Tryz.infoNd ?_; exact RA.out)
 refine Calls.mono KCP.out ?_
 rintro e w1 ⟨g, rfl, O1, b1⟩
 obtain ⟨N2, HN2⟩ : ∃ x, Hid (x = w1.heap.size) := ⟨_, rfl⟩
 obtain ⟨w2, HW2⟩ : ∃ x, Hid (x = w1.alloc (.cells #[.int .i64 id, .int .i64 f, .slice (some ⟨g, 0, none⟩) n n] 26)) := ⟨_, rfl⟩
 have b12 : Below w1.heap.size w1 w2 := by rw [HW2.out]; exact (Below.refl _ _).alloc (Nat.le_refl _) _
 have K2 : Hid (Nw w2 w.heap.size N2 id f g n n S (rng w0.heap.size w1.heap.size) ∧ Below w0.heap.size w0 w2) := by
  have s0 := KB0.out.size
  have s1 := b1.size
  have s2 := b12.size
  have r2 : Row w2 N2 26 #[.int .i64 id, .int .i64 f, .slice (some ⟨g, 0, none⟩) n n] := by rw [HW2.out, HN2.out]; exact Row.new w1 _ _
  refine ⟨⟨r2, (O1.base s0).below b12, fun k => ?_, ⟨?_, ?_⟩, fun x k => ⟨?_, ?_⟩⟩, below2 b1 b12⟩
  ·have h1 : N2 < w1.heap.size := k.2
   have := HN2.out
   omega
  ·have := HN2.out; omega
  ·omega
  ·have h1 : w0.heap.size ≤ x := k.1
   omega
  ·have h1 : x < w1.heap.size := k.2
   omega
 have KB2 : Hid (Below w0.heap.size w0 w2) := K2.out.2
 have LW : Hid (w0.heap.size ≤ w1.heap.size) := b1.size
 have RA2 : Hid (Row w2 A 26 #[.int .i64 id, .int .i64 f, .slice a n cap]) := RA.out.below KB2.out RA.out.lt
 have KO2 : Hid _ := KOK.out w2 KB2.out
 clear b1 b12 O1
 go_wp2_with (rw [← HW2.out, ← HN2.out]; refine wpList_load_row (by rfl) 26 _ (by rfl) A (by rfl) 26 #[.int .i64 id, .int .i64 f, .slice a n cap] (0, 0) _ ?_ Tryz.underlying26 (by rfl) Tryz.infoNd ?_; exact RA2.out)
 refine Calls.mono KO2.out ?_
 rintro e w3 ⟨rfl, b3⟩
 have KB3 : Hid (Below w2.heap.size w2 w3) := b3
 have RA3 : Hid (Row w3 A 26 #[.int .i64 id, .int .i64 f, .slice a n cap]) := RA2.out.below b3 RA2.out.lt
 have RC2 : Row w2 C 31 (syC y (.slice a9 y.p.m c9)) := RC.out.below KB2.out RC.out.lt
 have RC3 : Hid (Row w3 C 31 (syC y (.slice a9 y.p.m c9))) := RC2.below b3 RC2.lt
 have KM3 : Hid _ := KMI.out w3 (below2 KB2.out b3)
 clear b3 RC2
 have u0 := RA3.out.cell 0
 have u1 := RA3.out.cell 1
 have u2 := RA3.out.cell 2
 have v0 := RC3.out.cell 0
 have v1 := RC3.out.cell 1
 have v2 := RC3.out.cell 2
 have v3 := RC3.out.cell 3
 have v4 := RC3.out.cell 4
 have v5 := RC3.out.cell 5
 have v6 := RC3.out.cell 6
 have v7 := RC3.out.cell 7
 have v8 := RC3.out.cell 8
 have v9 := RC3.out.cell 9
 simp at u0 u1 u2 v0 v1 v2 v3 v4 v5 v6 v7 v8 v9
 go_wp2_with fail
 refine Calls.mono KM3.out ?_
 rintro e w4 ⟨rfl, b4⟩
 clear u0 u1 u2 v0 v1 v2 v3 v4 v5 v6 v7 v8 v9
 have BX : Below w2.heap.size w2 w4 := below2 KB3.out b4
 clear b4
 have K4 : Hid (Nw w4 w.heap.size N2 id f g n n S (rng w0.heap.size w1.heap.size) ∧ Below w0.heap.size w0 w4) := ⟨K2.out.1.below BX, below2 K2.out.2 BX⟩
 have RN4 : Hid _ := K4.out.1.r
 have RD4 := RD.out.below K4.out.2 RD.out.lt
 obtain ⟨gs, HGS⟩ : ∃ x, Hid (x = w4.heap.size) := ⟨_, rfl⟩
 obtain ⟨w5, HW5⟩ : ∃ x, Hid (x = w4.alloc (.cells #[] 31)) := ⟨_, rfl⟩
 have b5 : Below w4.heap.size w4 w5 := by rw [HW5.out]; exact (Below.refl _ _).alloc (Nat.le_refl _) _
 have RD5 : Hid (Row w5 D 26 #[.int .i64 0, .int .i64 0, .slice none 0 0]) := RD4.below b5 RD4.lt
 obtain ⟨w6, HW6⟩ : ∃ x, Hid (x = w5.setRow D #[.int .i64 id, .int .i64 f, .slice (some ⟨g, 0, none⟩) n n]) := ⟨_, rfl⟩
 have R6 : Hid (Row w6 D 26 #[.int .i64 id, .int .i64 f, .slice (some ⟨g, 0, none⟩) n n]) := by show Row _ _ _ _; rw [HW6.out]; exact RD5.out.row
 have KF : Hid (NhA w w6 id f n S 0 (fun _ => syA 0 0 y.r 0) (.returned (.tuple #[ndV id f (.slice (some ⟨g, 0, none⟩) n n), .slice (some ⟨gs, 0, none⟩) 0 0]))) := by
  have s4 := K4.out.2.size
  have hD := HL.out.2.2.2.2.2
  have o5 : Ow w5 w.heap.size (sysD 0 (fun _ => syA 0 0 y.r 0)) (.slice (some ⟨gs, 0, none⟩) 0 0) (fun x => x = gs) := by
   refine ⟨_, 0, fun _ _ => undef, fun _ _ _ => False, rfl, ?_, ⟨fun x e => by cases e; rfl, fun _ _ _ hi => absurd hi (Nat.not_lt_zero _), fun _ _ _ hi => absurd hi (Nat.not_lt_zero _), fun _ _ _ _ _ hi => absurd hi (Nat.not_lt_zero _)⟩, fun _ _ hi => absurd hi (Nat.not_lt_zero _)⟩
   have := World.ownsRow_lit (e := 31) (size := 10) (base := w.heap.size) w4 #[] 0 K4.out.1.b.2 (by unfold maxLen; omega) (by simp)
   rw [HW5.out, HGS.out]
   simpa [cL] using this
  refine ⟨g, n, some ⟨gs, 0, none⟩, 0, rng w0.heap.size w1.heap.size, (fun x => x = gs), rfl, ?_, ?_, fun x k e => ?_, ?_⟩
  ·rw [HW6.out]
   exact (K4.out.1.o.below b5).frame fun x hx _ => setRow_other _ _ _ _ (fun e => by have h1 : w0.heap.size ≤ x := hx.1; omega)
  ·rw [HW6.out]
   exact o5.frame fun x hx _ => setRow_other _ _ _ _ (fun e => by have h1 : x = gs := hx; have := HGS.out; omega)
  ·have h1 := (K4.out.1.l1 x k).2
   have h2 : x = gs := e
   have := HGS.out
   omega
  ·rw [HW6.out]
   exact belowSetRow (below2 KB0.out (below2 K4.out.2 b5)) HL.out.2.2.1 _
 clear b5 RD4
 go_wp2_with (first | (refine wpList_load_row (by rfl) 26 _ (by rfl) N2 (by rfl) 26 #[.int .i64 id, .int .i64 f, .slice (some ⟨g, 0, none⟩) n n] (0, 0) _ ?_ Tryz.underlying26 (by rfl) Tryz.infoNd ?_; exact RN4.out) | ((try rw [← HW5.out]); refine wpList_store_row (by rfl) 26 _ _ (by rfl) D #[.int .i64 id, .int .i64 f, .slice (some ⟨g, 0, none⟩) n n] (by rfl) (by rfl) 26 #[.int .i64 0, .int .i64 0, .slice none 0 0] ?_ Tryz.infoNd rfl (by simp [Value.oneCell']) ?_; exact RD5.out; rw [← HW6.out]))
 try rw [← HGS.out]
 refine bodyPost_ret (v := .tuple #[ndV id f (.slice (some ⟨g, 0, none⟩) n n), .slice (some ⟨gs, 0, none⟩) 0 0]) (by
  have p0 := R6.out.cell 0
  have p1 := R6.out.cell 1
  have p2 := R6.out.cell 2
  simp at p0 p1 p2
  simp [results, Tryz.results9, go_sem, p0, p1, p2]) rfl KF.out
theorem nodeHear_yes (id f : Int) (a : Option Addr) (n cap : Nat) (S : Nat → Sl) (y : Sy) (a9 : Option Addr) (c9 : Nat) (w : World) (hT : Rd w (slsD n S) (.slice a n cap)) (h9 : TxtAt w a9 y.p.m y.p.S) (hB : NhB n S y) (hyes : ndB id f n S = true) (hf : 1 ≤ f ∧ f ≤ 3) (hmi : mindB id f n S y = true) (hk : 0 ≤ y.k ∧ y.k ≤ 2) (hK : HvK (slF S y.r n) (plN S y.r n) y) :
  Calls Tryz.prog 9 #[ndV id f (.slice a n cap), syV y (.slice a9 y.p.m c9)] w fun e w' => NhA w w' id f (hrN S y.r n) (hvS id f (slF S y.r n) (plN S y.r n) y) (hvM id f (slF S y.r n) (plN S y.r n) y) (hvY id (slF S y.r n) (plN S y.r n) y) e := by
 obtain ⟨A, HA⟩ : ∃ x, Hid (x = w.heap.size) := ⟨_, rfl⟩
 obtain ⟨C, HC⟩ : ∃ x, Hid (x = w.heap.size + 1) := ⟨_, rfl⟩
 obtain ⟨D, HD⟩ : ∃ x, Hid (x = w.heap.size + 1 + 1) := ⟨_, rfl⟩
 obtain ⟨w0, HW0⟩ : ∃ x, Hid (x = ((w.alloc (.cells #[.int .i64 id, .int .i64 f, .slice a n cap] 26)).alloc (.cells (syC y (.slice a9 y.p.m c9)) 31)).alloc (.cells #[.int .i64 0, .int .i64 0, .slice none 0 0] 26)) := ⟨_, rfl⟩
 have RA : Hid (Row w0 A 26 #[.int .i64 id, .int .i64 f, .slice a n cap]) := by show Row _ _ _ _; rw [HW0.out, HA.out]; exact Row.alloc (Row.alloc (Row.new w _ _) _) _
 have RC : Hid (Row w0 C 31 (syC y (.slice a9 y.p.m c9))) := by
  show Row _ _ _ _
  rw [HW0.out, HC.out]
  have := Row.new (w.alloc (.cells #[.int .i64 id, .int .i64 f, .slice a n cap] 26)) (syC y (.slice a9 y.p.m c9)) 31
  exact Row.alloc (by simpa using this) _
 have RD : Hid (Row w0 D 26 #[.int .i64 0, .int .i64 0, .slice none 0 0]) := by
  show Row _ _ _ _
  rw [HW0.out, HD.out]
  have := Row.new ((w.alloc (.cells #[.int .i64 id, .int .i64 f, .slice a n cap] 26)).alloc (.cells (syC y (.slice a9 y.p.m c9)) 31)) #[.int .i64 0, .int .i64 0, .slice none 0 0] 26
  simpa using this
 have hb0 : Below w.heap.size w w0 := by rw [HW0.out]; exact (((Below.refl _ _).alloc (Nat.le_refl _) _).alloc (by simp) _).alloc (by simp; omega) _
 have KB0 : Hid (Below w.heap.size w w0) := hb0
 have HL : Hid (w.heap.size ≤ A ∧ w.heap.size ≤ C ∧ w.heap.size ≤ D ∧ A < w0.heap.size ∧ C < w0.heap.size ∧ D < w0.heap.size) := ⟨by have := HA.out; omega, by have := HC.out; omega, by have := HD.out; omega, RA.out.lt, RC.out.lt, RD.out.lt⟩
 have KCP : Hid _ := copiedN_any id f a n cap S w0 (hT.below hb0) hB.kn hB.k
 have KOK : Hid (∀ W, Below w0.heap.size w0 W → Calls Tryz.prog 13 #[ndV id f (.slice a n cap)] W fun e w' => e = .returned (.bool (ndB id f n S)) ∧ Below W.heap.size W w') := fun W hW => nodeOk_any id f a n cap S W ((hT.below hb0).below hW) hB.kn (fun i hi => (hB.k i hi).ok)
 have KMI : Hid (∀ W, Below w0.heap.size w0 W → Calls Tryz.prog 46 #[ndV id f (.slice a n cap), syV y (.slice a9 y.p.m c9)] W fun e w' => e = .returned (.bool (mindB id f n S y)) ∧ Below W.heap.size W w') := fun W hW => minds_any id f a n cap S y a9 y.p.m c9 W ((hT.below hb0).below hW) hB.kn hf
 rw [hyes] at KOK
 rw [hmi] at KMI
 have KHE : Hid (∀ Nb g F1 W, Below w.heap.size w W → Nw W w.heap.size Nb id f g n n S F1 → Calls Tryz.prog 47 #[.pointer (some ⟨Nb, 0, none⟩), syV y (.slice a9 y.p.m c9)] W fun e w' => ∃ v, e = .returned v ∧ Heard W w' w.heap.size Nb id f (hrN S y.r n) (hvS id f (slF S y.r n) (plN S y.r n) y) (hvM id f (slF S y.r n) (plN S y.r n) y) (hvY id (slF S y.r n) (plN S y.r n) y) F1 v) := fun Nb g F1 W hW hN => hear_any id f w.heap.size Nb g n n S y a9 c9 F1 W w hN hB.kn hB.r hk hf hW (fun W' hW' => h9.below hW') hK
 obtain ⟨nn, HNN⟩ : ∃ x, Hid (hrN S y.r n = x) := ⟨_, rfl⟩
 obtain ⟨mm, HMM⟩ : ∃ x, Hid (hvM id f (slF S y.r n) (plN S y.r n) y = x) := ⟨_, rfl⟩
 rw [HNN.out, HMM.out] at KHE
 rw [HNN.out, HMM.out]
 clear hT h9 hB hb0 hmi hyes hf hk hK
 go_enter Tryz.func9, Tryz.ntmps9
 go_wp2_with (rw [← HW0.out, ← HD.out, ← HC.out, ← HA.out]; refine wpList_load_row (by rfl) 26 _ (by rfl) A (by rfl) 26 #[.int .i64 id, .int .i64 f, .slice a n cap] (0, 0) _ ?_ Tryz.underlying26 (by rfl) Tryz.infoNd ?_; exact RA.out)
 refine Calls.mono KCP.out ?_
 rintro e w1 ⟨g, rfl, O1, b1⟩
 obtain ⟨N2, HN2⟩ : ∃ x, Hid (x = w1.heap.size) := ⟨_, rfl⟩
 obtain ⟨w2, HW2⟩ : ∃ x, Hid (x = w1.alloc (.cells #[.int .i64 id, .int .i64 f, .slice (some ⟨g, 0, none⟩) n n] 26)) := ⟨_, rfl⟩
 have b12 : Below w1.heap.size w1 w2 := by rw [HW2.out]; exact (Below.refl _ _).alloc (Nat.le_refl _) _
 have K2 : Hid (Nw w2 w.heap.size N2 id f g n n S (rng w0.heap.size w1.heap.size) ∧ Below w0.heap.size w0 w2) := by
  have s0 := KB0.out.size
  have s1 := b1.size
  have s2 := b12.size
  have r2 : Row w2 N2 26 #[.int .i64 id, .int .i64 f, .slice (some ⟨g, 0, none⟩) n n] := by rw [HW2.out, HN2.out]; exact Row.new w1 _ _
  refine ⟨⟨r2, (O1.base s0).below b12, fun k => ?_, ⟨?_, ?_⟩, fun x k => ⟨?_, ?_⟩⟩, below2 b1 b12⟩
  ·have h1 : N2 < w1.heap.size := k.2
   have := HN2.out
   omega
  ·have := HN2.out; omega
  ·omega
  ·have h1 : w0.heap.size ≤ x := k.1
   omega
  ·have h1 : x < w1.heap.size := k.2
   omega
 have KB2 : Hid (Below w0.heap.size w0 w2) := K2.out.2
 have LW : Hid (w0.heap.size ≤ w1.heap.size) := b1.size
 have RA2 : Hid (Row w2 A 26 #[.int .i64 id, .int .i64 f, .slice a n cap]) := RA.out.below KB2.out RA.out.lt
 have KO2 : Hid _ := KOK.out w2 KB2.out
 clear b1 b12 O1
 go_wp2_with (rw [← HW2.out, ← HN2.out]; refine wpList_load_row (by rfl) 26 _ (by rfl) A (by rfl) 26 #[.int .i64 id, .int .i64 f, .slice a n cap] (0, 0) _ ?_ Tryz.underlying26 (by rfl) Tryz.infoNd ?_; exact RA2.out)
 refine Calls.mono KO2.out ?_
 rintro e w3 ⟨rfl, b3⟩
 have KB3 : Hid (Below w2.heap.size w2 w3) := b3
 have RA3 : Hid (Row w3 A 26 #[.int .i64 id, .int .i64 f, .slice a n cap]) := RA2.out.below b3 RA2.out.lt
 have RC2 : Row w2 C 31 (syC y (.slice a9 y.p.m c9)) := RC.out.below KB2.out RC.out.lt
 have RC3 : Hid (Row w3 C 31 (syC y (.slice a9 y.p.m c9))) := RC2.below b3 RC2.lt
 have KM3 : Hid _ := KMI.out w3 (below2 KB2.out b3)
 clear b3 RC2
 have u0 := RA3.out.cell 0
 have u1 := RA3.out.cell 1
 have u2 := RA3.out.cell 2
 have v0 := RC3.out.cell 0
 have v1 := RC3.out.cell 1
 have v2 := RC3.out.cell 2
 have v3 := RC3.out.cell 3
 have v4 := RC3.out.cell 4
 have v5 := RC3.out.cell 5
 have v6 := RC3.out.cell 6
 have v7 := RC3.out.cell 7
 have v8 := RC3.out.cell 8
 have v9 := RC3.out.cell 9
 simp at u0 u1 u2 v0 v1 v2 v3 v4 v5 v6 v7 v8 v9
 go_wp2_with fail
 refine Calls.mono KM3.out ?_
 rintro e w4 ⟨rfl, b4⟩
 clear u0 u1 u2 v0 v1 v2 v3 v4 v5 v6 v7 v8 v9
 have BX : Below w2.heap.size w2 w4 := below2 KB3.out b4
 have RC4 : Hid (Row w4 C 31 (syC y (.slice a9 y.p.m c9))) := RC3.out.below b4 RC3.out.lt
 have K4 : Hid (Nw w4 w.heap.size N2 id f g n n S (rng w0.heap.size w1.heap.size) ∧ Below w0.heap.size w0 w4) := ⟨K2.out.1.below BX, below2 K2.out.2 BX⟩
 have RD4 : Hid (Row w4 D 26 #[.int .i64 0, .int .i64 0, .slice none 0 0]) := RD.out.below K4.out.2 RD.out.lt
 have KC4 : Hid _ := KHE.out N2 g (rng w0.heap.size w1.heap.size) w4 (below2 KB0.out K4.out.2) K4.out.1
 have LDN : Hid (D ≠ N2) := by
  have h1 := HL.out.2.2.2.2.2
  have h2 := K2.out.2.size
  have h3 := HN2.out
  have h4 := K2.out.1.r.lt
  show D ≠ N2
  intro e
  have h5 : w0.heap.size ≤ w1.heap.size := LW.out
  omega
 clear b4 BX
 go_wp2_with (refine wpList_load_row (by rfl) 31 _ (by rfl) C (by rfl) 31 (syC y (.slice a9 y.p.m c9)) (0, 0) _ ?_ Tryz.underlying31 (by rfl) Tryz.infoSy ?_; exact RC4.out)
 refine Calls.mono KC4.out ?_
 rintro e w5 ⟨v, rfl, g5, cap5, sa5, sc5, F15, F25, rfl, hN5, hO5, hd5, hn5, t5, hF15, hF25⟩
 have RN5 : Hid _ := hN5.r
 have RD5 : Hid (Row w5 D 26 #[.int .i64 0, .int .i64 0, .slice none 0 0]) := (t5.block D RD4.out.lt (fun k => by
  rcases k with k | k
  ·exact LDN.out k
  ·have h1 : w0.heap.size ≤ D := k.1
   have := HL.out.2.2.2.2.2
   omega)).trans RD4.out
 obtain ⟨w6, HW6⟩ : ∃ x, Hid (x = w5.setRow D #[.int .i64 id, .int .i64 f, .slice (some ⟨g5, 0, none⟩) nn cap5]) := ⟨_, rfl⟩
 have R6 : Hid (Row w6 D 26 #[.int .i64 id, .int .i64 f, .slice (some ⟨g5, 0, none⟩) nn cap5]) := by show Row _ _ _ _; rw [HW6.out]; exact RD5.out.row
 have KF : Hid (NhA w w6 id f nn (hvS id f (slF S y.r n) (plN S y.r n) y) mm (hvY id (slF S y.r n) (plN S y.r n) y) (.returned (.tuple #[ndV id f (.slice (some ⟨g5, 0, none⟩) nn cap5), .slice sa5 mm sc5]))) := by
  have hD := HL.out.2.2.2.2.2
  have hwD := HL.out.2.2.1
  have s4 := K4.out.2.size
  have lw := LW.out
  refine ⟨g5, cap5, sa5, sc5, F15, F25, rfl, ?_, ?_, hd5, ?_⟩
  ·rw [HW6.out]
   exact hN5.o.frame fun x hx _ => setRow_other _ _ _ _ (fun e => by
    rcases hF15 x hx with k | k
    ·have h1 : w0.heap.size ≤ x := k.1
     omega
    ·omega)
  ·rw [HW6.out]
   exact hO5.frame fun x hx _ => setRow_other _ _ _ _ (fun e => by have := (hF25 x hx).1; omega)
  ·rw [HW6.out]
   refine belowSetRow ((below2 KB0.out K4.out.2).trans (t5.below (fun x k => ?_) K4.out.1.b.2)) hwD _
   rcases k with k | k
   ·rw [k]; exact K4.out.1.b.1
   ·exact (K4.out.1.l1 x k).1
 clear hN5 hO5 hd5 hn5 t5 hF15 hF25
 go_wp2_with (first | (refine wpList_load_row (by rfl) 26 _ (by rfl) N2 (by rfl) 26 #[.int .i64 id, .int .i64 f, .slice (some ⟨g5, 0, none⟩) nn cap5] (0, 0) _ ?_ Tryz.underlying26 (by rfl) Tryz.infoNd ?_; exact RN5.out) | (refine wpList_store_row (by rfl) 26 _ _ (by rfl) D #[.int .i64 id, .int .i64 f, .slice (some ⟨g5, 0, none⟩) nn cap5] (by rfl) (by rfl) 26 #[.int .i64 0, .int .i64 0, .slice none 0 0] ?_ Tryz.infoNd rfl (by simp [Value.oneCell']) ?_; exact RD5.out; rw [← HW6.out]))
 refine bodyPost_ret (v := .tuple #[ndV id f (.slice (some ⟨g5, 0, none⟩) nn cap5), .slice sa5 mm sc5]) (by
  have p0 := R6.out.cell 0
  have p1 := R6.out.cell 1
  have p2 := R6.out.cell 2
  simp at p0 p1 p2
  simp [results, Tryz.results9, go_sem, p0, p1, p2]) rfl KF.out
theorem NumP.at {f : Int} {zs : List Int} (h : NumP f zs) : ∀ i, i < zs.length → (i : Int) ≤ zs.getD i 0 := by
 intro i
 induction i with
 | zero => intro hi; exact_mod_cast (h 0 hi).1.1
 | succ j ih =>
  intro hi
  have h1 := ih (by omega)
  have h2 := (h (j + 1) hi).2 (by omega)
  simp only [Nat.add_sub_cancel] at h2
  omega
theorem NumP.len {f : Int} {zs : List Int} (h : NumP f zs) (hf : 1 ≤ f ∧ f ≤ 3) : zs.length ≤ 10 := by
 rcases Nat.eq_zero_or_pos zs.length with k | k
 ·omega
 ·have h1 := h.at (zs.length - 1) (by omega)
  have h2 := (h (zs.length - 1) (by omega)).1.2
  omega
theorem NumP.step {f : Int} {zs : List Int} (h : NumP f zs) (i : Nat) : ∀ d, i + d < zs.length → zs.getD i 0 ≤ zs.getD (i + d) 0 := by
 intro d
 induction d with
 | zero => intro _; exact Int.le_refl _
 | succ j ih =>
  intro hi
  have h1 := ih (by omega)
  have h2 := (h (i + (j + 1)) hi).2 (by omega)
  have e : i + (j + 1) - 1 = i + j := by omega
  rw [e] at h2
  omega
theorem NumP.sorted {f : Int} {zs : List Int} (h : NumP f zs) : zs.Pairwise (· ≤ ·) := by
 rw [List.pairwise_iff_getElem]
 intro i j hi hj hij
 have := h.step i (j - i) (by omega)
 have e : i + (j - i) = j := by omega
 rw [e] at this
 simpa [List.getD_eq_getElem?_getD, List.getElem?_eq_getElem hi, List.getElem?_eq_getElem hj] using this
theorem numP_of {f : Int} {zs : List Int} (h : numB f zs = true) : NumP f zs := by
 rcases Classical.em (NumP f zs) with k | k
 ·exact k
 ·rw [numB_no k] at h; cases h
theorem ndP_of {id f : Int} {n : Nat} {S : Nat → Sl} (h : ndB id f n S = true) : NdP id f n S := by
 rcases Classical.em (NdP id f n S) with k | k
 ·exact k
 ·rw [ndB_no k] at h; cases h
theorem mindP_of {id f : Int} {n : Nat} {S : Nat → Sl} {y : Sy} (h : mindB id f n S y = true) : MindP id f n S y := by
 rcases Classical.em (MindP id f n S y) with k | k
 ·exact k
 ·rw [mindB_no k] at h; cases h
theorem slF_at (S : Nat → Sl) (r : ByteArray) (n : Nat) : (plN S r n = n ∧ slF S r n (plN S r n) = slR r) ∨ (plN S r n < n ∧ slF S r n (plN S r n) = S (plN S r n) ∧ (S (plN S r n)).r = r) := by
 unfold plN
 cases e : plc S r n with
 | none => left; simp [slF]
 | some x =>
  obtain ⟨_, h, h1, _⟩ := plF_some e
  right
  refine ⟨by simp; omega, ?_, h1⟩
  unfold slF; rw [if_neg (by simp; omega)]
noncomputable def nhB (id f : Int) (n : Nat) (S : Nat → Sl) (y : Sy) : Bool := ndB id f n S && mindB id f n S y
noncomputable def nhN (id f : Int) (n : Nat) (S : Nat → Sl) (y : Sy) : Nat := if nhB id f n S y then hrN S y.r n else n
noncomputable def nhS (id f : Int) (n : Nat) (S : Nat → Sl) (y : Sy) : Nat → Sl := if nhB id f n S y then hvS id f (slF S y.r n) (plN S y.r n) y else S
noncomputable def nhM (id f : Int) (n : Nat) (S : Nat → Sl) (y : Sy) : Nat := if nhB id f n S y then hvM id f (slF S y.r n) (plN S y.r n) y else 0
noncomputable def nhY (id f : Int) (n : Nat) (S : Nat → Sl) (y : Sy) : Nat → Sy := if nhB id f n S y then hvY id (slF S y.r n) (plN S y.r n) y else fun _ => syA 0 0 y.r 0
theorem hvK_of {id f : Int} {n : Nat} {S : Nat → Sl} {y : Sy} (hB : NhB n S y) (h : NdP id f n S) : HvK (slF S y.r n) (plN S y.r n) y := by
 have hf := seB_f h.1
 rcases slF_at S y.r n with ⟨_, k⟩ | ⟨k1, k, _⟩
 ·refine ⟨?_, ?_, ?_, ?_, ?_, hB.m, hB.pr, hB.pb, hB.ps⟩ <;> rw [k]
  ·simp [slR]
  ·simp [slR]
  ·simp [slR]
  ·simp [slR]
  ·exact hB.r
 ·have hs := (h.2.2 _ k1).1
  have he := numP_of hs.2.1
  have hz := numP_of hs.2.2.1
  refine ⟨?_, ?_, ?_, ?_, ?_, hB.m, hB.pr, hB.pb, hB.ps⟩ <;> rw [k]
  ·have := he.len hf; omega
  ·have := hz.len hf; omega
  ·exact he.sorted
  ·exact hz.sorted
  ·have := hs.1; omega
theorem nodeHear_any (id f : Int) (a : Option Addr) (n cap : Nat) (S : Nat → Sl) (y : Sy) (a9 : Option Addr) (c9 : Nat) (w : World) (hT : Rd w (slsD n S) (.slice a n cap)) (h9 : TxtAt w a9 y.p.m y.p.S) (hB : NhB n S y) :
  Calls Tryz.prog 9 #[ndV id f (.slice a n cap), syV y (.slice a9 y.p.m c9)] w fun e w' => NhA w w' id f (nhN id f n S y) (nhS id f n S y) (nhM id f n S y) (nhY id f n S y) e := by
 cases e1 : ndB id f n S with
 | false =>
  have hb : nhB id f n S y = false := by unfold nhB; rw [e1]; rfl
  simp only [nhN, nhS, nhM, nhY, hb]
  exact nodeHear_no1 id f a n cap S y a9 c9 w hT hB e1
 | true =>
  have hP := ndP_of e1
  cases e2 : mindB id f n S y with
  | false =>
   have hb : nhB id f n S y = false := by unfold nhB; rw [e1, e2]; rfl
   simp only [nhN, nhS, nhM, nhY, hb]
   exact nodeHear_no2 id f a n cap S y a9 c9 w hT hB e1 (seB_f hP.1) e2
  | true =>
   have hM := mindP_of e2
   have hb : nhB id f n S y = true := by unfold nhB; rw [e1, e2]; rfl
   simp only [nhN, nhS, nhM, nhY, hb, if_true]
   exact nodeHear_yes id f a n cap S y a9 c9 w hT h9 hB e1 (seB_f hP.1) e2 hM.2.2.1 (hvK_of hB hP)
structure SlG (k : Nat) (s : Sl) : Prop where
 he : s.h = s.e
 r : s.r.size ≤ 4096
 pr : s.p.r.size ≤ 4096
 pb : s.p.b.size ≤ 4096
 m : s.p.m ≤ 64
 t : ∀ j, j < s.p.m → (s.p.S j).size ≤ 4096
 ze : s.ze.length ≤ k
 zr : s.zr.length ≤ k
theorem SlG.up {k : Nat} {s : Sl} (h : SlG k s) : SlG (k + 1) s := ⟨h.he, h.r, h.pr, h.pb, h.m, h.t, Nat.le_succ_of_le h.ze, Nat.le_succ_of_le h.zr⟩
theorem putI_one (zs : List Int) (x : Int) : (putI zs x).length ≤ zs.length + 1 := by
 unfold putI
 split
 ·omega
 ·simp [List.length_append, List.length_take, List.length_drop]
  omega
theorem slR_good {k : Nat} {r : ByteArray} (hr : r.size ≤ 4096) : SlG k (slR r) := ⟨rfl, hr, Nat.zero_le _, Nat.zero_le _, Nat.zero_le _, fun j hj => absurd hj (Nat.not_lt_zero j), Nat.zero_le _, Nat.zero_le _⟩
theorem slF_good {k n : Nat} {S : Nat → Sl} {r : ByteArray} (hS : ∀ i, i < n → SlG k (S i)) (hr : r.size ≤ 4096) {i : Nat} (hi : i ≤ n) : SlG k (slF S r n i) := by
 unfold slF
 split
 ·exact slR_good hr
 ·exact hS i (by omega)
theorem hvA_good {k : Nat} {S : Nat → Sl} {p : Nat} {y : Sy} {i : Nat} (hi : SlG k (S i)) (hp : SlG k (S p)) : SlG (k + 1) (hvA S p y i) := by
 unfold hvA
 split
 ·unfold slEc
  split
  ·exact ⟨hp.he, hp.r, hp.pr, hp.pb, hp.m, hp.t, Nat.le_trans (putI_one _ _) (Nat.succ_le_succ hp.ze), Nat.le_succ_of_le hp.zr⟩
  ·exact hi.up
 ·unfold slRd
  split
  ·exact ⟨hp.he, hp.r, hp.pr, hp.pb, hp.m, hp.t, Nat.le_succ_of_le hp.ze, Nat.le_trans (putI_one _ _) (Nat.succ_le_succ hp.zr)⟩
  ·exact hi.up
theorem hvB_good {k : Nat} {f : Int} {S : Nat → Sl} {p : Nat} {y : Sy} {i : Nat} (hi : SlG k (S i)) (hp : SlG k (S p)) : SlG (k + 1) (hvB f S p y i) := by
 unfold hvB
 split
 ·exact hvA_good hi hp
 ·unfold slDn
  split
  ·have h := hvA_good (y := y) hp hp
   exact ⟨h.he, h.r, h.pr, h.pb, h.m, h.t, h.ze, h.zr⟩
  ·exact hvA_good hi hp
theorem hvS_good {k : Nat} {id f : Int} {S : Nat → Sl} {p : Nat} {y : Sy} (hy : SaS y) {i : Nat} (hi : SlG k (S i)) (hp : SlG k (S p)) : SlG (k + 1) (hvS id f S p y i) := by
 unfold hvS
 split
 ·split
  ·unfold slGot
   split
   ·exact ⟨rfl, hp.r, hy.pr, hy.pb, hy.m, hy.s, Nat.le_succ_of_le hp.ze, Nat.le_succ_of_le hp.zr⟩
   ·exact hi.up
  ·exact hi.up
 ·split
  ·unfold slRy
   split
   ·have h := hvB_good (f := f) (y := y) hp hp
    exact ⟨h.he, h.r, h.pr, h.pb, h.m, h.t, h.ze, h.zr⟩
   ·exact hvB_good hi hp
  ·exact hvB_good hi hp
theorem nh_good {k : Nat} {id f : Int} {n : Nat} {S : Nat → Sl} {y : Sy} (hS : ∀ i, i < n → SlG k (S i)) (hy : SaS y) : nhN id f n S y ≤ n + 1 ∧ ∀ i, i < nhN id f n S y → SlG (k + 1) (nhS id f n S y i) := by
 have hl : hrN S y.r n ≤ n + 1 := by unfold hrN; split <;> omega
 have hp : plN S y.r n ≤ n := by have := plN_lt S y.r n; omega
 unfold nhN nhS
 cases nhB id f n S y with
 | false => exact ⟨by simp, fun i hi => (hS i (by simpa using hi)).up⟩
 | true =>
  simp only [if_true]
  exact ⟨hl, fun i hi => hvS_good hy (slF_good hS hy.r (by omega)) (slF_good hS hy.r hp)⟩
theorem SlG.k {k : Nat} {s : Sl} (h : SlG k s) (hk : k ≤ 1000) : SlK s := ⟨by have := h.r; omega, by have := h.pr; omega, by have := h.pb; omega, by have := h.m; omega, fun i hi => by have := h.t i hi; omega, by have := h.ze; omega, by have := h.zr; omega⟩
theorem nhB_of {k n : Nat} {S : Nat → Sl} {y : Sy} (hk : k ≤ 1000) (hn : n ≤ k) (h : ∀ i, i < n → SlG k (S i)) (hy : SaS y) : NhB n S y := ⟨by omega, fun i hi => (h i hi).k hk, by have := hy.r; omega, by have := hy.m; omega, by have := hy.pr; omega, by have := hy.pb; omega, fun i hi => by have := hy.s i hi; omega⟩
structure NdW (w0 W : World) (g X E : Nat) (a0 : Option Addr) (n cap : Nat) (id f : Int) (m : Nat) (v : Value) (S : Nat → Sl) (k : Nat) (F : Nat → Prop) : Prop where
 b : w0.grownBy W (some g)
 c : Cur W g a0 n cap
 x : Row W X 26 #[.int .i64 id, .int .i64 f, v]
 o : Ow W (g + 1) (slsD m S) v F
 d : ∀ b, F b → E ≤ b
 s : ∀ i, i < m → SlG k (S i)
 l : m ≤ k
 lt : g < X
 le : X < E
theorem ow_kept {W W' : World} {g E : Nat} {d : Dt} {v : Value} {F : Nat → Prop} (h : Ow W (g + 1) d v F) (hd : ∀ b, F b → E ≤ b) (hE : g < E) (hg : W.grownBy W' (some g)) : Ow W' (g + 1) d v F :=
 h.frame (fun b hb hl => hg.block b hl (fun e => by have h1 := hd b hb; injection e with e; omega))
theorem NdW.kept {w0 W W' : World} {g X E : Nat} {a0 : Option Addr} {n cap : Nat} {id f : Int} {m : Nat} {v : Value} {S : Nat → Sl} {k : Nat} {F : Nat → Prop} (h : NdW w0 W g X E a0 n cap id f m v S k F) (hg : W.grownBy W' (some g)) (hc : Cur W' g a0 n cap) : NdW w0 W' g X E a0 n cap id f m v S k F :=
 ⟨grownBy_trans h.b hg, hc, h.x.keptG hg (by have := h.lt; omega), ow_kept h.o h.d (by have := h.lt; have := h.le; omega) hg, h.d, h.s, h.l, h.lt, h.le⟩
def FrB (LB : Nat) (w6 W : World) : Prop := w6.heap.size ≤ W.heap.size ∧ ∀ b, LB ≤ b → b < w6.heap.size → W.heap[b]? = w6.heap[b]?
theorem FrB.kept {LB g : Nat} {w6 W W' : World} (h : FrB LB w6 W) (hg : W.grownBy W' (some g)) (hl : g < LB) : FrB LB w6 W' := ⟨Nat.le_trans h.1 hg.size, fun b h1 h2 => (hg.block b (by have := h.1; omega) (fun e => by injection e with e; omega)).trans (h.2 b h1 h2)⟩
theorem FrB.row {LB X : Nat} {w6 W : World} {cs : Array Value} (h : FrB LB w6 W) (hl : X < LB) : FrB LB w6 (W.setRow X cs) := ⟨by simpa using h.1, fun b h1 h2 => (setRow_other W X b cs (by omega)).trans (h.2 b h1 h2)⟩
theorem FrB.cell {LB X : Nat} {w6 W : World} (o : Nat) (v : Value) (h : FrB LB w6 W) (hl : X < LB ∨ w6.heap.size ≤ X) : FrB LB w6 (W.setCell ⟨X, o, none⟩ v) := ⟨by simpa using h.1, fun b h1 h2 => (heap_setCell_other W ⟨X, o, none⟩ b v (by show b ≠ X; omega)).trans (h.2 b h1 h2)⟩
theorem own_fr {w w' : World} {B : Nat} {t : TypeId} {sz : Nat} {a : Option Addr} {n cap : Nat} {cs : List Value} (h : w.ownsRow B t sz (.slice a n cap) n cs) (hf : ∀ b, B ≤ b → b < w.heap.size → w'.heap[b]? = w.heap[b]?) : w'.ownsRow B t sz (.slice a n cap) n cs := by
 refine ⟨h.1, ?_⟩
 rcases h.2 with h' | ⟨g, cap', cur, h1, h2, h3, h4⟩
 ·exact .inl h'
 ·refine .inr ⟨g, cap', cur, h1, h2, ?_, h4⟩
  cases h1
  exact (hf g (World.ownsRow.lt h g rfl).1 (Array.getElem?_eq_some_iff.1 h3).1).trans h3
theorem OwnP.fr {w w' : World} {B n c : Nat} {a : Option Addr} {A : Nat → Option Addr} {C : Nat → Nat} {P : Nat → Pc} (h : OwnP w B a n c A C P) (hf : ∀ b, B ≤ b → b < w.heap.size → w'.heap[b]? = w.heap[b]?) : OwnP w' B a n c A C P :=
 ⟨own_fr h.1 hf, fun i hi => own_fr (h.2.1 i hi) hf, h.2.2⟩
theorem nd_slice {w : World} {B m : Nat} {S : Nat → Sl} {v : Value} {F : Nat → Prop} (h : Ow w B (slsD m S) v F) : ∃ a c, v = .slice a m c := by
 obtain ⟨a, c, _, _, e, _⟩ := h
 exact ⟨a, c, e⟩
structure NdX (w0 w6 W : World) (g X E LB : Nat) (a0 : Option Addr) (n cap : Nat) (id f : Int) (m : Nat) (a : Option Addr) (vc : Nat) (S : Nat → Sl) (F : Nat → Prop) : Prop where
 b : w0.grownBy W (some g)
 c : Cur W g a0 n cap
 x : Row W X 26 #[.int .i64 id, .int .i64 f, .slice a m vc]
 o : Ow W (g + 1) (slsD m S) (.slice a m vc) F
 d : ∀ b, F b → E ≤ b
 fr : FrB LB w6 W
theorem NdX.kept {w0 w6 W W' : World} {g X E LB : Nat} {a0 : Option Addr} {n cap : Nat} {id f : Int} {m : Nat} {a : Option Addr} {c : Nat} {S : Nat → Sl} {F : Nat → Prop} (h : NdX w0 w6 W g X E LB a0 n cap id f m a c S F) (hg : W.grownBy W' (some g)) (hc : Cur W' g a0 n cap) (h1 : g < X) (h2 : X < E) (h3 : g < LB) : NdX w0 w6 W' g X E LB a0 n cap id f m a c S F :=
 ⟨grownBy_trans h.b hg, hc, h.x.keptG hg (by omega), ow_kept h.o h.d (by omega) hg, h.d, h.fr.kept hg h3⟩
theorem slD_d (s : Sl) (b : Bool) (q : Nat) (hq : q < 13) : (if q = 9 then Dt.val (.bool b) else slD s q) = slD { s with d := b } q := by
 match q, hq with
 | 0, _ | 1, _ | 2, _ | 3, _ | 4, _ | 5, _ | 6, _ | 7, _ | 8, _ | 9, _ | 10, _ | 11, _ | 12, _ => rfl
theorem slD_ze (s : Sl) (zs : List Int) (q : Nat) (hq : q < 13) : (if q = 11 then inD zs else slD s q) = slD { s with ze := zs } q := by
 match q, hq with
 | 0, _ | 1, _ | 2, _ | 3, _ | 4, _ | 5, _ | 6, _ | 7, _ | 8, _ | 9, _ | 10, _ | 11, _ | 12, _ => rfl
theorem slD_at {S : Nat → Sl} {s' : Sl} {d : Dt} {k i q : Nat} (h : (if q = k then d else slD (S 0) q) = slD s' q) : (if i = 0 ∧ q = k then d else slD (S i) q) = slD (if i = 0 then s' else S i) q := by
 by_cases e : i = 0
 ·subst e
  rw [if_pos rfl, ← h]
  by_cases e2 : q = k
  ·rw [if_pos ⟨rfl, e2⟩, if_pos e2]
  ·rw [if_neg (fun k => e2 k.2), if_neg e2]
 ·rw [if_neg (fun k => e k.1), if_neg e]
theorem nd_flip {w0 w6 W : World} {g X E LB : Nat} {a0 : Option Addr} {n cap : Nat} {id f : Int} {m G1 c : Nat} {S : Nat → Sl} {F : Nat → Prop} (h : NdX w0 w6 W g X E LB a0 n cap id f m (some ⟨G1, 0, none⟩) c S F) (hab : Under a0 n g) (_h1 : g < X) (h2 : X < E) (hw : w0.heap.size ≤ X) (hE : E = w6.heap.size) (hm : 0 < m) :
  W.cell? ⟨G1, 9, none⟩ = some (.bool (S 0).d) ∧ W.frozen? ⟨G1, 9, none⟩ = false ∧ ∀ b, ∃ F', NdX w0 w6 (W.setCell ⟨G1, 9, none⟩ (.bool b)) g X E LB a0 n cap id f m (some ⟨G1, 0, none⟩) c (fun i => if i = 0 then { S 0 with d := b } else S i) F' := by
 obtain ⟨y, K, cy, fz, hy, hK, hFg, hB, hl, put⟩ := Ow.focus h.o hm (show 9 < 13 by omega)
 have hEG : E ≤ G1 := h.d _ hFg
 have ey : y = .bool (S 0).d := hy
 rw [ey] at cy
 refine ⟨cy, fz 9, fun b => ⟨fun x => F x ∨ False, ?_⟩⟩
 have O := put W (.val (.bool b)) (.bool b) (fun _ => False) (fun _ _ _ _ => rfl) rfl (fun _ h => h.elim)
 exact ⟨grownCell 9 _ h.b (by omega), h.c.setc 9 _ (by omega) hab, (heap_setCell_other W ⟨G1, 9, none⟩ X _ (by show X ≠ G1; omega)).trans h.x, O.congr (fun i q _ hq => slD_at (slD_d (S 0) b q hq)), fun b hb => by
  rcases hb with hb | hb
  ·exact h.d b hb
  ·exact hb.elim, h.fr.cell 9 _ (.inr (by omega))⟩
theorem nd_echo {w0 w6 W : World} {g X E LB : Nat} {a0 : Option Addr} {n cap : Nat} {id f : Int} {m G1 c : Nat} {S : Nat → Sl} {F : Nat → Prop} (h : NdX w0 w6 W g X E LB a0 n cap id f m (some ⟨G1, 0, none⟩) c S F) (hab : Under a0 n g) (h1 : g < X) (h2 : X < E) (hw : w0.heap.size ≤ X) (hE : E = w6.heap.size) (hm : 0 < m) :
  ∃ e1 ce, W.cell? ⟨G1, 11, none⟩ = some (.slice e1 (S 0).ze.length ce) ∧ W.frozen? ⟨G1, 11, none⟩ = false ∧ W.ownsRow (g + 1) 3 1 (.slice e1 (S 0).ze.length ce) (S 0).ze.length ((S 0).ze.map (Value.int .i64)) ∧ (∀ x, e1 = some x → E ≤ x.block ∧ x.block ≠ G1) ∧ E ≤ G1 ∧ G1 < W.heap.size ∧
   ∀ W1 g2 c2, W.grownBy W1 (Value.slice e1 (S 0).ze.length ce).ownBlock → W1.ownsRow (g + 1) 3 1 (.slice (some ⟨g2, 0, none⟩) ((S 0).ze.length + 1) c2) ((S 0).ze.length + 1) (((S 0).ze ++ [0]).map (Value.int .i64)) → ((Value.slice e1 (S 0).ze.length ce).ownBlock = some g2 ∨ g2 = W.heap.size) →
    ∃ F', NdX w0 w6 (W1.setCell ⟨G1, 11, none⟩ (.slice (some ⟨g2, 0, none⟩) ((S 0).ze.length + 1) c2)) g X E LB a0 n cap id f m (some ⟨G1, 0, none⟩) c (fun i => if i = 0 then { S 0 with ze := (S 0).ze ++ [0] } else S i) F' := by
 obtain ⟨y, K, cy, fz, hy, hK, hFg, hB, hl, put⟩ := Ow.focus h.o.cut hm (show 11 < 13 by omega)
 have hEG : E ≤ G1 := h.d _ hFg.1
 obtain ⟨e1, ce, rfl, ho, hx⟩ := ints_ow (zs := (S 0).ze) hy
 have hx2 : ∀ x, e1 = some x → E ≤ x.block ∧ x.block ≠ G1 := fun x e => ⟨h.d _ (hK _ (hx x e)).1.1, (hK _ (hx x e)).2⟩
 refine ⟨e1, ce, cy, fz 11, ho, hx2, hEG, hl, fun W1 g2 c2 hg ho2 hor => ⟨fun x => (F x ∧ g + 1 ≤ x ∧ x < W.heap.size) ∨ x = g2, ?_⟩⟩
 have hob : ∀ b, some b = (Value.slice e1 (S 0).ze.length ce).ownBlock → K b := fun b eb => by
  cases e1 with
  | none => cases eb
  | some x => injection eb with eb; subst eb; exact hx x rfl
 have hblk : ∀ b, b < W.heap.size → b < E → W1.heap[b]? = W.heap[b]? := fun b hb hE => hg.block b hb (fun e => by have h3 := h.d _ (hK _ (hob b e)).1.1; omega)
 have hls : ((S 0).ze ++ [0]).length = (S 0).ze.length + 1 := by simp
 have O2 : Ow W1 (g + 1) (inD ((S 0).ze ++ [0])) (.slice (some ⟨g2, 0, none⟩) ((S 0).ze.length + 1) c2) (fun x => x = g2) := by
  have := ow_ints (w := W1) (B := g + 1) (a := some ⟨g2, 0, none⟩) (cap := c2) (zs := (S 0).ze ++ [0]) (F := fun x => x = g2) (by rw [hls]; exact ho2) (fun x e => by cases e; rfl)
  rw [hls] at this
  exact this
 have O := put W1 (inD ((S 0).ze ++ [0])) _ (fun x => x = g2) (fun b hF hnK hb => hg.block b hb (fun e => hnK (hob b e))) O2 (fun x e => by
  subst e
  rcases hor with e | e
  ·exact .inl (hob _ e.symm)
  ·exact .inr (fun k => by have := k.2.2; omega))
 have hW := h.fr.1
 have hWs := hg.size
 have hbb := h.b.size
 have hg1 : ∃ r, W.grownBy W1 (some r) ∧ g < r := by
  cases e1 with
  | none => exact ⟨G1, ⟨hg.os, hg.tape, hg.output, hg.size, fun j hj _ => hg.block j hj (fun e => by cases e)⟩, by omega⟩
  | some x => exact ⟨x.block, hg, by have := (hx2 x rfl).1; omega⟩
 obtain ⟨r, hg1, hgl⟩ := hg1
 have hg2E : E ≤ g2 := by
  rcases hor with e | e
  ·have := h.d _ (hK _ (hob _ e.symm)).1.1; omega
  ·omega
 exact ⟨grownCell 11 _ ⟨hg.os.trans h.b.os, hg.tape.trans h.b.tape, hg.output.trans h.b.output, Nat.le_trans h.b.size hg.size, fun j hj hne => (hblk j (by omega) (by omega)).trans (h.b.block j hj hne)⟩ (by omega), (h.c.far hg1 hgl hab).setc 11 _ (by omega) hab, (heap_setCell_other W1 ⟨G1, 11, none⟩ X _ (by show X ≠ G1; omega)).trans ((hblk X h.x.lt h2).trans h.x), O.congr (fun i q _ hq => slD_at (slD_ze (S 0) ((S 0).ze ++ [0]) q hq)), fun b hb => by
  rcases hb with hb | hb
  ·exact h.d b hb.1
  ·show E ≤ b; rw [hb]; exact hg2E, FrB.cell 11 _ ⟨Nat.le_trans hW hWs, fun b k1 k2 => (hblk b (by omega) (by omega)).trans (h.fr.2 b k1 k2)⟩ (.inr (by omega))⟩
theorem Cur.upto {w w' : World} {g n cap : Nat} {a : Option Addr} (h : Cur w g a n cap) (hb : Below (g + 1) w w') (hab : Under a n g) : Cur w' g a n cap := by
 obtain ⟨hn, ⟨i, hh, hi, hblk⟩, hby⟩ := h
 refine ⟨hn, ⟨i, hh, hi, ?_⟩, ?_⟩
 ·rw [hb.block g (by omega)]; exact hblk
 ·intro j hj
  obtain ⟨b, off, x, e, hbg, hc, hx⟩ := hby j hj
  have := hab (by omega) b off e
  exact ⟨b, off, x, e, hbg, (World.cell?_of_block (hb.block b (by omega))).trans hc, hx⟩
theorem slK_d {s : Sl} (h : SlK s) (b : Bool) : SlK { s with d := b } := ⟨h.1, h.2, h.3, h.4, h.5, h.6, h.7⟩
theorem slK_ze {s : Sl} (h : SlK s) (zs : List Int) (hz : zs.length ≤ 1048576) : SlK { s with ze := zs } := ⟨h.1, h.2, h.3, h.4, h.5, hz, h.7⟩
theorem nd_more {w0 w6 wq W : World} {g X E LB : Nat} {a0 : Option Addr} {n cap : Nat} {id f : Int} {m : Nat} {a : Option Addr} {c : Nat} {S S' : Nat → Sl} {F F8 : Nat → Prop} {g8 c8 : Nat} (h : NdX w0 w6 wq g X E LB a0 n cap id f m a c S F) (hab : Under a0 n g) (h1 : g < X) (h2 : X < E) (hw : w0.heap.size ≤ X) (hE : E = w6.heap.size) (h3 : X < LB)
  (o : Ow W (g + 1) (slsD (m + 1) S') (.slice (some ⟨g8, 0, none⟩) (m + 1) c8) F8) (d : ∀ b, F8 b → E ≤ b) (t : Trn wq W F) (hb : Below (g + 1) wq W) :
  Row W X 26 #[.int .i64 id, .int .i64 f, .slice a m c] ∧ NdX w0 w6 (W.setCell ⟨X, 2, none⟩ (.slice (some ⟨g8, 0, none⟩) (m + 1) c8)) g X E LB a0 n cap id f (m + 1) (some ⟨g8, 0, none⟩) c8 S' F8 := by
 have hblk : ∀ b, b < wq.heap.size → b < E → W.heap[b]? = wq.heap[b]? := fun b hb hE => t.block b hb (fun hF => by have := h.d b hF; omega)
 have hx : Row W X 26 #[.int .i64 id, .int .i64 f, .slice a m c] := (hblk X h.x.lt h2).trans h.x
 have hbs := h.b.size
 have hfs := h.fr.1
 refine ⟨hx, grownCell 2 _ ⟨t.os.trans h.b.os, t.tape.trans h.b.tape, t.output.trans h.b.output, Nat.le_trans h.b.size t.size, fun j hj hne => (hblk j (by omega) (by omega)).trans (h.b.block j hj hne)⟩ hw, (h.c.upto hb hab).setc 2 _ h1 hab, hx.set 2 _, o.frame (fun b hb _ => heap_setCell_other W ⟨X, 2, none⟩ b _ (by show b ≠ X; have := d b hb; omega)), d, FrB.cell 2 _ ⟨Nat.le_trans h.fr.1 t.size, fun b k1 k2 => (hblk b (by omega) (by omega)).trans (h.fr.2 b k1 k2)⟩ (.inl h3)⟩
def lenAt (W : World) (X : Nat) : Nat := match W.cell? ⟨X, 2, none⟩ with
 | some (.slice _ n _) => n
 | _ => 0
theorem lenAt_is {W : World} {X m c : Nat} {id f : Int} {a : Option Addr} {t : TypeId} (h : Row W X t #[.int .i64 id, .int .i64 f, .slice a m c]) : lenAt W X = m := by
 have := h.cell 2
 simp at this
 unfold lenAt
 rw [this]
end Go.Proofs.YtcaejlalnjnifaaGreat
