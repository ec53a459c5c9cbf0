import Derived.Test.YtcaejlalnjnifaaGreatA30
import Derived.Test.YtcaejlalnjnifaaGreatA34
import Derived.Test.YtcaejlalnjnifaaGreatA15
set_option maxHeartbeats 8000000
set_option maxRecDepth 2000
open Go.ChangeShapes Go.WideShapes Go.ChangeAt Go.RowKit
namespace Go.Proofs.YtcaejlalnjnifaaGreat
theorem ho3_one {F6 F11 F12 : Nat → Prop} (d1 : ∀ g, F6 g → ¬ F11 g) (d2 : ∀ g, F6 g → ¬ F12 g) (d3 : ∀ g, F11 g → ¬ F12 g) (q q' x : Nat) (hx : HO3 F6 F11 F12 q x) (hx' : HO3 F6 F11 F12 q' x) : q = q' := by
 rcases hx with ⟨e1, hx⟩ | ⟨e1, hx⟩ | ⟨e1, hx⟩ <;> rcases hx' with ⟨e2, hx'⟩ | ⟨e2, hx'⟩ | ⟨e2, hx'⟩
 ·omega
 ·exact absurd hx' (d1 x hx)
 ·exact absurd hx' (d2 x hx)
 ·exact absurd hx (d1 x hx')
 ·omega
 ·exact absurd hx' (d3 x hx)
 ·exact absurd hx (d2 x hx')
 ·exact absurd hx (d3 x hx')
 ·omega
theorem HO3.any {F6 F11 F12 : Nat → Prop} {q x : Nat} (h : HO3 F6 F11 F12 q x) : F6 x ∨ F11 x ∨ F12 x := by
 rcases h with ⟨_, h⟩ | ⟨_, h⟩ | ⟨_, h⟩
 ·exact .inl h
 ·exact .inr (.inl h)
 ·exact .inr (.inr h)
theorem sCopyN_any (id f : Int) (a : Option Addr) (n cap : Nat) (S : Nat → Sl) (w : World) (h : Rd w (slsD n S) (.slice a n cap)) (hn : n ≤ 1048576) (hs : ∀ i, i < n → SlS (S i)) :
  Calls Tryz.prog 48 #[ndV id f (.slice a n cap)] w fun e w' => ∃ g c, e = .returned (ndV id f (.slice (some ⟨g, 0, none⟩) n c)) ∧ Ow w' w.heap.size (slsD n S) (.slice (some ⟨g, 0, none⟩) n c) (rng w.heap.size w'.heap.size) ∧ Below w.heap.size w w' := by
 obtain ⟨i0, hi, hz0, hz1, hz2⟩ := info_parts Tryz.infoSlZ
 obtain ⟨A, HA⟩ : ∃ x, Hid (x = w.heap.size) := ⟨_, rfl⟩
 obtain ⟨D, HD⟩ : ∃ x, Hid (x = w.heap.size + 1) := ⟨_, rfl⟩
 obtain ⟨w0, HW0⟩ : ∃ x, Hid (x = (w.alloc (.cells #[.int .i64 id, .int .i64 f, .slice a n cap] 26)).alloc (.cells #[.int .i64 0, .int .i64 0, .slice none 0 0] 26)) := ⟨_, rfl⟩
 have RA : Hid (Row w0 A 26 #[.int .i64 id, .int .i64 f, .slice a n cap]) := by show Row _ _ _ _; rw [HW0.out, HA.out]; exact Row.alloc (Row.new w _ _) _
 have RD : Hid (Row w0 D 26 #[.int .i64 0, .int .i64 0, .slice none 0 0]) := by
  show Row _ _ _ _
  rw [HW0.out, HD.out]
  have := Row.new (w.alloc (.cells #[.int .i64 id, .int .i64 f, .slice a n cap] 26)) #[.int .i64 0, .int .i64 0, .slice none 0 0] 26
  simpa using this
 have hb0 : Below w.heap.size w w0 := by rw [HW0.out]; exact ((Below.refl _ _).alloc (Nat.le_refl _) _).alloc (by simp) _
 have KB0 : Hid (Below w.heap.size w w0) := hb0
 have HL : Hid (A ≠ D ∧ w.heap.size ≤ A ∧ w.heap.size ≤ D ∧ A < w0.heap.size ∧ D < w0.heap.size) := ⟨by have := HA.out; have := HD.out; omega, by have := HA.out; omega, by have := HD.out; omega, RA.out.lt, RD.out.lt⟩
 have KH : Hid (Rd w0 (slsD n S) (.slice a n cap)) := h.below hb0
 have HS : Hid (∀ i, i < n → SlS (S i)) := hs
 obtain ⟨w1, HW1⟩ : ∃ x, Hid (x = w0.alloc (.cells #[] 42)) := ⟨_, rfl⟩
 have K1 : Hid (Ow w1 w0.heap.size (slsD 0 S) (.slice (some ⟨w0.heap.size, 0, none⟩) 0 0) (rng w0.heap.size w1.heap.size) ∧ Below w0.heap.size w0 w1) := by
  rw [HW1.out]
  refine ⟨⟨_, 0, fun _ _ => undef, fun _ _ _ => False, rfl, ?_, ⟨fun x e => ?_, fun _ _ _ hi => absurd hi (Nat.not_lt_zero _), fun _ _ _ hi => absurd hi (Nat.not_lt_zero _), fun _ _ _ _ _ hi => absurd hi (Nat.not_lt_zero _)⟩, fun _ _ hi => absurd hi (Nat.not_lt_zero _)⟩, (Below.refl _ _).alloc (Nat.le_refl _) _⟩
  ·have := World.ownsRow_lit (e := 42) (size := 13) (base := w0.heap.size) w0 #[] 0 (by simp) (by unfold maxLen; omega) (by simp)
   simpa [cL] using this
  ·cases e
   exact ⟨Nat.le_refl _, by simp⟩
 obtain ⟨g1, HG1⟩ : ∃ x, Hid (x = D + 1) := ⟨_, rfl⟩
 have hg1 : D + 1 = w0.heap.size := by rw [HW0.out, HD.out]; simp
 have K1' : Hid (Ow w1 w0.heap.size (slsD 0 S) (.slice (some ⟨g1, 0, none⟩) 0 0) (rng w0.heap.size w1.heap.size) ∧ Below w0.heap.size w0 w1) := by rw [HG1.out, hg1]; exact K1.out
 clear h hb0 hs K1 hg1
 go_enter Tryz.func48, Tryz.ntmps48
 go_wp2_with fail
 rw [← HW0.out, ← HD.out, ← HA.out, ← HW1.out, ← HG1.out]
 go_loopw [3, 4] (fun v vi wr => ∃ k g c : Nat, k ≤ n ∧ v = .slice (some ⟨g, 0, none⟩) k c ∧ vi = .int .i64 (k : Int) ∧ Hid (Ow wr w0.heap.size (slsD k S) (.slice (some ⟨g, 0, none⟩) k c) (rng w0.heap.size wr.heap.size) ∧ Below w0.heap.size w0 wr)) (fun _ vi _ => n - (intOf vi).toNat)
 case atStart => exact ⟨0, g1, 0, Nat.zero_le _, rfl, rfl, K1'⟩
 case round =>
  obtain ⟨k, g, c, hk, rfl, rfl, HO⟩ := hrel
  clear K1' HW1 HG1
  have x2 := (RA.out.below HO.out.2 RA.out.lt).cell 2
  simp at x2
  by_cases hlt : k < n
  ·have hki : (k : Int) < (n : Int) := by omega
   obtain ⟨b1, f1, p6, p11, p12, q6, q11, q12, rfl, R1', t6, t11, t12⟩ := slot_at (KH.out.below HO.out.2) hlt
   have R1 : Hid (wr.rangeAt b1 (f1 + k * 13) (slL (S k) (.slice p6 (S k).p.m q6) (.slice p11 (S k).ze.length q11) (.slice p12 (S k).zr.length q12))) := R1'
   have KC : Hid _ := sCopyS_any (S k) p6 p11 p12 q6 q11 q12 wr t6 t11 t12 (HS.out k hlt)
   have HLT : Hid (k < n) := hlt
   clear R1' t6 t11 t12 KH HS
   go_wp2_with (refine wpList_load_mid (by rfl) 42 _ (by rfl) b1 (f1 + k * 13) (by rfl) (slL (S k) (.slice p6 (S k).p.m q6) (.slice p11 (S k).ze.length q11) (.slice p12 (S k).zr.length q12)) _ ?_ Tryz.underlying42 (by rfl) Tryz.infoSl ?_; exact R1.out)
   refine Calls.mono KC.out ?_
   rintro e w3 ⟨g6, g11, g12, h6, h11, h12, F6', F11', F12', rfl, SO', b3⟩
   obtain ⟨F6, F11, F12, SO, SC⟩ : ∃ H6 H11 H12, SlO w3 wr.heap.size (S k) (.slice (some ⟨g6, 0, none⟩) (S k).p.m h6) (.slice (some ⟨g11, 0, none⟩) (S k).ze.length h11) (.slice (some ⟨g12, 0, none⟩) (S k).zr.length h12) H6 H11 H12 ∧ ∀ g, H6 g ∨ H11 g ∨ H12 g → wr.heap.size ≤ g ∧ g < w3.heap.size := ⟨_, _, _, ⟨SO'.t.cut, SO'.e.cut, SO'.z.cut, fun g h1 h2 => SO'.d1 g h1.1 h2.1, fun g h1 h2 => SO'.d2 g h1.1 h2.1, fun g h1 h2 => SO'.d3 g h1.1 h2.1⟩, fun g hg => by rcases hg with hg | hg | hg <;> exact hg.2⟩
   obtain ⟨w5, HW5⟩ : ∃ x, Hid (x = w3.alloc (.cells (slC (S k) (.slice (some ⟨g6, 0, none⟩) (S k).p.m h6) (.slice (some ⟨g11, 0, none⟩) (S k).ze.length h11) (.slice (some ⟨g12, 0, none⟩) (S k).zr.length h12)) 42)) := ⟨_, rfl⟩
   have b5 : Below w3.heap.size w3 w5 := by rw [HW5.out]; exact (Below.refl _ _).alloc (Nat.le_refl _) _
   have b35 : Below wr.heap.size wr w5 := below2 b3 b5
   have hsz := HO.out.2.size
   clear R1 KC SO'
   go_wp2_with (at_builtin; rw [← HW5.out]; refine (show True → _ from ?_) trivial)
   intro _
   refine wpList_snoc w5 (by rfl) _ _ 24 (by rfl) w0.heap.size 42 i0 (.agg zcS.toArray) 13 _ Tryz.underlying24 hi hz0 hz1 hz2 rfl (by decide) (.slice (some ⟨g, 0, none⟩) k c) k _ _ (by rfl) (HO.out.1.below b35) ⟨w3.heap.size, 0, none⟩ 1 (slC (S k) (.slice (some ⟨g6, 0, none⟩) (S k).p.m h6) (.slice (some ⟨g11, 0, none⟩) (S k).ze.length h11) (.slice (some ⟨g12, 0, none⟩) (S k).zr.length h12)).toList (by rfl) rfl ?_ (by simp [Value.oneCell']) (slD (S k)) (HO3 F6 F11 F12) ?_ ?_ (fun q q' x _ _ hx hx' => ho3_one SO.d1 SO.d2 SO.d3 q q' x hx hx') (by unfold maxLen; omega) (by omega) ?_ ?_
   ·rw [HW5.out]
    exact World.news_of_block (t := 42) (fr := (0, 0)) (Row.new w3 _ _)
   ·intro q hq
    exact ow_slotO ⟨(SO.t.base hsz).below b5, (SO.e.base hsz).below b5, (SO.z.base hsz).below b5, SO.d1, SO.d2, SO.d3⟩ q hq
   ·intro q x _ hx hf
    have h1 := (SC x hx.any).1
    have h2 := hf.2
    omega
   ·have := b35.size
    omega
   intro g' c' w6 O6 b6 _
   have K6 : Hid (Ow w6 w0.heap.size (slsD (k + 1) S) (.slice (some ⟨g', 0, none⟩) (k + 1) c') (rng w0.heap.size w6.heap.size) ∧ Below w0.heap.size w0 w6) := by
    refine ⟨(O6.mono (fun x hx => ?_)).congr (fun i q _ _ => ?_), (below2 HO.out.2 b35).trans b6⟩
    ·refine ⟨?_, hx.1⟩
     have h5 := b35.size
     rcases hx.2 with (h | ⟨q, _, h⟩) | h
     ·exact h.1
     ·have := (SC x h.any).1
      show w0.heap.size ≤ x
      omega
     ·show w0.heap.size ≤ x
      omega
    ·by_cases e : i = k
     ·subst e; simp
     ·simp [e]
   clear O6 b6 b5 b35 b3 SO SC x2 HO HW5
   have h1 := HLT.out
   go_wp2
   go_roundw
   case rel => exact ⟨k + 1, g', c', by omega, by go_num, by go_num, K6⟩
   case measure => simp [intOf]; omega
  ·obtain rfl : k = n := by omega
   have RAr := RA.out.below HO.out.2 RA.out.lt
   have RDr := RD.out.below HO.out.2 RD.out.lt
   have f2 := RAr.free 2
   obtain ⟨w3, HW3⟩ : ∃ x, Hid (x = wr.setCell ⟨A, 2, none⟩ (.slice (some ⟨g, 0, none⟩) k c)) := ⟨_, rfl⟩
   have J3 : Hid (Row w3 A 26 #[.int .i64 id, .int .i64 f, .slice (some ⟨g, 0, none⟩) k c] ∧ Row w3 D 26 #[.int .i64 0, .int .i64 0, .slice none 0 0] ∧ Ow w3 w0.heap.size (slsD k S) (.slice (some ⟨g, 0, none⟩) k c) (rng w0.heap.size wr.heap.size) ∧ Below w.heap.size w w3) := by
    rw [HW3.out]
    exact ⟨RAr.set 2 _, RDr.other 2 _ (Ne.symm HL.out.1), HO.out.1.far 2 _ (fun hk => by have := hk.1; have := HL.out.2.2.2.1; omega), (below2 KB0.out HO.out.2).setCell HL.out.2.1 _⟩
   have S3 : w3.heap.size = wr.heap.size := by rw [HW3.out]; simp
   obtain ⟨w7, HW7⟩ : ∃ x, Hid (x = w3.setRow D #[.int .i64 id, .int .i64 f, .slice (some ⟨g, 0, none⟩) k c]) := ⟨_, rfl⟩
   have S7 : w7.heap.size = w3.heap.size := by rw [HW7.out]; simp [World.setRow]
   have ZR : Hid (Row w7 D 26 #[.int .i64 id, .int .i64 f, .slice (some ⟨g, 0, none⟩) k c]) := by show Row _ _ _ _; rw [HW7.out]; exact J3.out.2.1.row
   have ZB : Hid (Below w.heap.size w w7) := by show Below _ _ _; rw [HW7.out]; exact belowSetRow J3.out.2.2.2 HL.out.2.2.1 _
   have ZO : Hid (Ow w7 w.heap.size (slsD k S) (.slice (some ⟨g, 0, none⟩) k c) (rng w.heap.size w7.heap.size)) := by
    show Ow _ _ _ _ _
    rw [S7, S3]
    have hw0 := KB0.out.size
    have h1 : Ow w7 w0.heap.size (slsD k S) (.slice (some ⟨g, 0, none⟩) k c) (rng w0.heap.size wr.heap.size) := by
     rw [HW7.out]
     exact J3.out.2.2.1.frame fun x hx _ => setRow_other _ _ _ _ (fun e => by have := hx.1; have := HL.out.2.2.2.2; omega)
    exact (h1.base hw0).mono (fun x hx => ⟨by have := hx.1; omega, hx.2⟩)
   clear RAr RDr S3 S7 HO
   go_wp2_with (first | (rw [← HW3.out]; refine wpList_load_row (by rfl) 26 _ (by rfl) A (by rfl) 26 #[.int .i64 id, .int .i64 f, .slice (some ⟨g, 0, none⟩) k c] (0, 0) _ ?_ Tryz.underlying26 (by rfl) Tryz.infoNd ?_; exact J3.out.1; clear x2 f2) | (refine wpList_store_row (by rfl) 26 _ _ (by rfl) D #[.int .i64 id, .int .i64 f, .slice (some ⟨g, 0, none⟩) k c] (by rfl) (by rfl) 26 #[.int .i64 0, .int .i64 0, .slice none 0 0] ?_ Tryz.infoNd rfl (by simp [Value.oneCell']) ?_; exact J3.out.2.1; rw [← HW7.out]))
   exact bodyPost_ret (v := ndV id f (.slice (some ⟨g, 0, none⟩) k c)) (results_cell_row Tryz.results48 _ _ D 26 _ (0, 0) _ (by rfl) ZR.out Tryz.underlying26 (by rfl) Tryz.infoNd) rfl ⟨g, c, rfl, ZO.out, ZB.out⟩
end Go.Proofs.YtcaejlalnjnifaaGreat
