import Derived.Test.YtaenoiffamgcfaaGreatDoorM20
import Derived.Test.YtaenoiffamgcfaaGreatDoorM32
set_option maxHeartbeats 8000000
set_option maxRecDepth 2000
open Go.ChangeShapes Go.WideShapes Go.ChangeAt Go.RowKit
namespace Go.Proofs.YtaenoiffamgcfaaGreatDoor
noncomputable def reT (S : Nat → Sl) (root : ByteArray) (n : Nat) (salt : ByteArray) : ByteArray := if soB S root n = true ∧ (soS S root n).h = true then exT (soS S root n).p.r (soS S root n).p.k (soS S root n).p.n (soS S root n).p.i (soS S root n).p.b (soS S root n).p.m (soS S root n).p.S salt else ⟨#[]⟩
theorem soS_K {S : Nat → Sl} {root : ByteArray} {n : Nat} (h : ∀ i, i < n → SlK (S i)) : SlK (soS S root n) := by
 unfold soS
 cases e : plc S root n with
 | none => exact ⟨by simp [slZ], by simp [slZ], by simp [slZ], by simp [slZ], fun i hi => by simp [slZ] at hi, by simp [slZ], by simp [slZ]⟩
 | some x =>
  obtain ⟨_, h2, _, _⟩ := plF_some e
  exact h x (by omega)
theorem respond_any (id f : Int) (a : Option Addr) (n cap : Nat) (S : Nat → Sl) (root salt : ByteArray) (w : World) (h : Rd w (slsD n S) (.slice a n cap)) (hn : n ≤ 1048576) (hs : ∀ i, i < n → SlK (S i)) (htab : TabOk w) :
  Calls Tryz.prog 13 #[ndV id f (.slice a n cap), .string root, .string salt] w fun e w' => e = .returned (.string (reT S root n salt)) ∧ Below w.heap.size w w' := by
 obtain ⟨A, HA⟩ : ∃ x, Hid (x = w.heap.size) := ⟨_, rfl⟩
 obtain ⟨w0, HW0⟩ : ∃ x, Hid (x = w.alloc (.cells #[.int .i64 id, .int .i64 f, .slice a n cap] 37)) := ⟨_, rfl⟩
 have HR0 : Hid (Row w0 A 37 #[.int .i64 id, .int .i64 f, .slice a n cap]) := by show Row _ _ _ _; rw [HW0.out, HA.out]; exact Row.new w _ _
 have hb0 : Below w.heap.size w w0 := by rw [HW0.out]; exact (Below.refl _ _).alloc (Nat.le_refl _) _
 have KB0 : Hid (Below w.heap.size w w0) := hb0
 obtain ⟨T, HT⟩ : ∃ x, Hid (soS S root n = x) := ⟨_, rfl⟩
 obtain ⟨okv, HOK⟩ : ∃ x, Hid (soB S root n = x) := ⟨_, rfl⟩
 have HTK : Hid (SlK T) := by rw [← HT.out]; exact soS_K hs
 have KSo : Hid (Calls Tryz.prog 38 #[ndV id f (.slice a n cap), .string root] w0 fun e w' => ∃ (a6 a11 a12 : Option Addr) (c6 c11 c12 : Nat) (F6 F11 F12 : Nat → Prop), e = .returned (.tuple #[slV T (.slice a6 T.p.m c6) (.slice a11 T.ze.length c11) (.slice a12 T.zr.length c12), .bool okv]) ∧ SlO w' w0.heap.size T (.slice a6 T.p.m c6) (.slice a11 T.ze.length c11) (.slice a12 T.zr.length c12) F6 F11 F12 ∧ Below w0.heap.size w0 w') := by
  have := slotOf_any id f a n cap S root w0 (h.below hb0) hn hs
  rw [HT.out, HOK.out] at this
  exact this
 have HRE : Hid (reT S root n salt = if okv = true ∧ T.h = true then exT T.p.r T.p.k T.p.n T.p.i T.p.b T.p.m T.p.S salt else ⟨#[]⟩) := by show _ = _; unfold reT; rw [HT.out, HOK.out]
 rw [HRE.out]
 have HTb : Hid (TabOk w) := htab
 clear h hs hb0 htab
 cases hok : okv with
 | false =>
   rw [if_neg (fun h => by cases h.1)]
   rw [hok] at KSo
   clear hok
   go_enter Tryz.func13, Tryz.ntmps13
   go_wp2_with (rw [← HW0.out, ← HA.out]; refine wpList_load_row (by rfl) 37 _ (by rfl) A (by rfl) 37 #[.int .i64 id, .int .i64 f, .slice a n cap] (0, 0) _ ?_ Tryz.underlying37 (by rfl) Tryz.infoNd ?_; exact HR0.out)
   refine Calls.mono KSo.out ?_
   rintro e w1 ⟨a6, a11, a12, c6, c11, c12, F6, F11, F12, rfl, SO1, b1⟩
   obtain ⟨G, HG⟩ : ∃ x, Hid (x = w1.heap.size) := ⟨_, rfl⟩
   obtain ⟨w2, HW2⟩ : ∃ x, Hid (x = w1.alloc (.cells (slC T (.slice a6 T.p.m c6) (.slice a11 T.ze.length c11) (.slice a12 T.zr.length c12)) 65)) := ⟨_, rfl⟩
   have b12 : Below w1.heap.size w1 w2 := by rw [HW2.out]; exact (Below.refl _ _).alloc (Nat.le_refl _) _
   have HR2 : Hid (Row w2 G 65 (slC T (.slice a6 T.p.m c6) (.slice a11 T.ze.length c11) (.slice a12 T.zr.length c12))) := by show Row _ _ _ _; rw [HW2.out, HG.out]; exact Row.new w1 _ _
   have KB2 : Hid (Below w.heap.size w w2) := below2 KB0.out (below2 b1 b12)
   have KX : Hid (Calls Tryz.prog 11 #[pcV T.p.r T.p.k T.p.n T.p.i T.p.b (.slice a6 T.p.m c6), .string salt] w2 fun e w' => e = .returned (.string (exT T.p.r T.p.k T.p.n T.p.i T.p.b T.p.m T.p.S salt)) ∧ Below w2.heap.size w2 w') := expect_any T.p.r T.p.k T.p.n T.p.i T.p.b a6 T.p.m c6 T.p.S salt w2 (SO1.rd.1.below b12) HTK.out.m (fun i hi => Nat.le_trans (HTK.out.tx i hi) (by unfold maxLen; omega)) (HTb.out.below KB2.out)
   clear b1 b12 SO1 HRE HT HOK
   have y1 := HR2.out.cell 1
   have y2 := HR2.out.cell 2
   have y3 := HR2.out.cell 3
   have y4 := HR2.out.cell 4
   have y5 := HR2.out.cell 5
   have y6 := HR2.out.cell 6
   have y7 := HR2.out.cell 7
   simp at y1 y2 y3 y4 y5 y6 y7
   go_wp2_with fail
   rw [← HW2.out]
   go_ret
   exact ⟨rfl, KB2.out⟩
 | true =>
  rw [hok] at KSo
  clear hok
  cases hth : T.h with
  | false =>
   have HTH : Hid (T.h = false) := hth
   clear hth
   rw [if_neg (fun h => by cases h.2)]
   go_enter Tryz.func13, Tryz.ntmps13
   go_wp2_with (rw [← HW0.out, ← HA.out]; refine wpList_load_row (by rfl) 37 _ (by rfl) A (by rfl) 37 #[.int .i64 id, .int .i64 f, .slice a n cap] (0, 0) _ ?_ Tryz.underlying37 (by rfl) Tryz.infoNd ?_; exact HR0.out)
   refine Calls.mono KSo.out ?_
   rintro e w1 ⟨a6, a11, a12, c6, c11, c12, F6, F11, F12, rfl, SO1, b1⟩
   obtain ⟨G, HG⟩ : ∃ x, Hid (x = w1.heap.size) := ⟨_, rfl⟩
   obtain ⟨w2, HW2⟩ : ∃ x, Hid (x = w1.alloc (.cells (slC T (.slice a6 T.p.m c6) (.slice a11 T.ze.length c11) (.slice a12 T.zr.length c12)) 65)) := ⟨_, rfl⟩
   have b12 : Below w1.heap.size w1 w2 := by rw [HW2.out]; exact (Below.refl _ _).alloc (Nat.le_refl _) _
   have HR2 : Hid (Row w2 G 65 (slC T (.slice a6 T.p.m c6) (.slice a11 T.ze.length c11) (.slice a12 T.zr.length c12))) := by show Row _ _ _ _; rw [HW2.out, HG.out]; exact Row.new w1 _ _
   have KB2 : Hid (Below w.heap.size w w2) := below2 KB0.out (below2 b1 b12)
   have KX : Hid (Calls Tryz.prog 11 #[pcV T.p.r T.p.k T.p.n T.p.i T.p.b (.slice a6 T.p.m c6), .string salt] w2 fun e w' => e = .returned (.string (exT T.p.r T.p.k T.p.n T.p.i T.p.b T.p.m T.p.S salt)) ∧ Below w2.heap.size w2 w') := expect_any T.p.r T.p.k T.p.n T.p.i T.p.b a6 T.p.m c6 T.p.S salt w2 (SO1.rd.1.below b12) HTK.out.m (fun i hi => Nat.le_trans (HTK.out.tx i hi) (by unfold maxLen; omega)) (HTb.out.below KB2.out)
   clear b1 b12 SO1 HRE HT HOK
   have y1 := HR2.out.cell 1
   have y2 := HR2.out.cell 2
   have y3 := HR2.out.cell 3
   have y4 := HR2.out.cell 4
   have y5 := HR2.out.cell 5
   have y6 := HR2.out.cell 6
   have y7 := HR2.out.cell 7
   simp at y1 y2 y3 y4 y5 y6 y7
   rw [HTH.out] at y7
   go_upto_region 2 with fail
   rw [← HW2.out, ← HG.out]
   go_wp2_with fail
   go_ret
   exact ⟨rfl, KB2.out⟩
  | true =>
   have HTH : Hid (T.h = true) := hth
   clear hth
   rw [if_pos ⟨rfl, rfl⟩]
   go_enter Tryz.func13, Tryz.ntmps13
   go_wp2_with (rw [← HW0.out, ← HA.out]; refine wpList_load_row (by rfl) 37 _ (by rfl) A (by rfl) 37 #[.int .i64 id, .int .i64 f, .slice a n cap] (0, 0) _ ?_ Tryz.underlying37 (by rfl) Tryz.infoNd ?_; exact HR0.out)
   refine Calls.mono KSo.out ?_
   rintro e w1 ⟨a6, a11, a12, c6, c11, c12, F6, F11, F12, rfl, SO1, b1⟩
   obtain ⟨G, HG⟩ : ∃ x, Hid (x = w1.heap.size) := ⟨_, rfl⟩
   obtain ⟨w2, HW2⟩ : ∃ x, Hid (x = w1.alloc (.cells (slC T (.slice a6 T.p.m c6) (.slice a11 T.ze.length c11) (.slice a12 T.zr.length c12)) 65)) := ⟨_, rfl⟩
   have b12 : Below w1.heap.size w1 w2 := by rw [HW2.out]; exact (Below.refl _ _).alloc (Nat.le_refl _) _
   have HR2 : Hid (Row w2 G 65 (slC T (.slice a6 T.p.m c6) (.slice a11 T.ze.length c11) (.slice a12 T.zr.length c12))) := by show Row _ _ _ _; rw [HW2.out, HG.out]; exact Row.new w1 _ _
   have KB2 : Hid (Below w.heap.size w w2) := below2 KB0.out (below2 b1 b12)
   have KX : Hid (Calls Tryz.prog 11 #[pcV T.p.r T.p.k T.p.n T.p.i T.p.b (.slice a6 T.p.m c6), .string salt] w2 fun e w' => e = .returned (.string (exT T.p.r T.p.k T.p.n T.p.i T.p.b T.p.m T.p.S salt)) ∧ Below w2.heap.size w2 w') := expect_any T.p.r T.p.k T.p.n T.p.i T.p.b a6 T.p.m c6 T.p.S salt w2 (SO1.rd.1.below b12) HTK.out.m (fun i hi => Nat.le_trans (HTK.out.tx i hi) (by unfold maxLen; omega)) (HTb.out.below KB2.out)
   clear b1 b12 SO1 HRE HT HOK
   have y1 := HR2.out.cell 1
   have y2 := HR2.out.cell 2
   have y3 := HR2.out.cell 3
   have y4 := HR2.out.cell 4
   have y5 := HR2.out.cell 5
   have y6 := HR2.out.cell 6
   have y7 := HR2.out.cell 7
   simp at y1 y2 y3 y4 y5 y6 y7
   rw [HTH.out] at y7
   go_upto_region 2 with fail
   rw [← HW2.out, ← HG.out]
   go_wp2_with fail
   refine Calls.mono KX.out ?_
   rintro e w3 ⟨rfl, b3⟩
   have KB3 : Hid (Below w.heap.size w w3) := below2 KB2.out b3
   clear b3
   go_wp2
   go_ret
   exact ⟨rfl, KB3.out⟩
theorem sRespond_any (id f : Int) (a : Option Addr) (n cap : Nat) (S : Nat → Sl) (root salt : ByteArray) (w : World) (h : Rd w (slsD n S) (.slice a n cap)) (hn : n ≤ 1048576) (hs : ∀ i, i < n → SlS (S i)) (hk : ∀ i, i < n → SlK (S i)) :
  Calls Tryz.prog 14 #[ndV id f (.slice a n cap), .string root, .string salt] w fun e w' => e = .returned (.string (reT S root n salt)) ∧ Below w.heap.size w w' := by
 obtain ⟨A, HA⟩ : ∃ x, Hid (x = w.heap.size) := ⟨_, rfl⟩
 obtain ⟨w0, HW0⟩ : ∃ x, Hid (x = w.alloc (.cells #[.int .i64 id, .int .i64 f, .slice a n cap] 37)) := ⟨_, rfl⟩
 have HR0 : Hid (Row w0 A 37 #[.int .i64 id, .int .i64 f, .slice a n cap]) := by show Row _ _ _ _; rw [HW0.out, HA.out]; exact Row.new w _ _
 have hb0 : Below w.heap.size w w0 := by rw [HW0.out]; exact (Below.refl _ _).alloc (Nat.le_refl _) _
 have KB0 : Hid (Below w.heap.size w w0) := hb0
 obtain ⟨T, HT⟩ : ∃ x, Hid (soS S root n = x) := ⟨_, rfl⟩
 obtain ⟨okv, HOK⟩ : ∃ x, Hid (soB S root n = x) := ⟨_, rfl⟩
 have HTK : Hid (SlK T) := by rw [← HT.out]; exact soS_K hk
 have KSo : Hid (Calls Tryz.prog 39 #[ndV id f (.slice a n cap), .string root] w0 fun e w' => ∃ (a6 a11 a12 : Option Addr) (c6 c11 c12 : Nat) (F6 F11 F12 : Nat → Prop), e = .returned (.tuple #[slV T (.slice a6 T.p.m c6) (.slice a11 T.ze.length c11) (.slice a12 T.zr.length c12), .bool okv]) ∧ SlO w' w0.heap.size T (.slice a6 T.p.m c6) (.slice a11 T.ze.length c11) (.slice a12 T.zr.length c12) F6 F11 F12 ∧ Below w0.heap.size w0 w') := by
  have := sSlotOf_any id f a n cap S root w0 (h.below hb0) hn hs
  rw [HT.out, HOK.out] at this
  exact this
 have HRE : Hid (reT S root n salt = if okv = true ∧ T.h = true then exT T.p.r T.p.k T.p.n T.p.i T.p.b T.p.m T.p.S salt else ⟨#[]⟩) := by show _ = _; unfold reT; rw [HT.out, HOK.out]
 rw [HRE.out]
 clear h hs hb0 hk
 cases hok : okv with
 | false =>
   rw [if_neg (fun h => by cases h.1)]
   rw [hok] at KSo
   clear hok
   go_enter Tryz.func14, Tryz.ntmps14
   go_wp2_with (rw [← HW0.out, ← HA.out]; refine wpList_load_row (by rfl) 37 _ (by rfl) A (by rfl) 37 #[.int .i64 id, .int .i64 f, .slice a n cap] (0, 0) _ ?_ Tryz.underlying37 (by rfl) Tryz.infoNd ?_; exact HR0.out)
   refine Calls.mono KSo.out ?_
   rintro e w1 ⟨a6, a11, a12, c6, c11, c12, F6, F11, F12, rfl, SO1, b1⟩
   obtain ⟨G, HG⟩ : ∃ x, Hid (x = w1.heap.size) := ⟨_, rfl⟩
   obtain ⟨w2, HW2⟩ : ∃ x, Hid (x = w1.alloc (.cells (slC T (.slice a6 T.p.m c6) (.slice a11 T.ze.length c11) (.slice a12 T.zr.length c12)) 65)) := ⟨_, rfl⟩
   have b12 : Below w1.heap.size w1 w2 := by rw [HW2.out]; exact (Below.refl _ _).alloc (Nat.le_refl _) _
   have HR2 : Hid (Row w2 G 65 (slC T (.slice a6 T.p.m c6) (.slice a11 T.ze.length c11) (.slice a12 T.zr.length c12))) := by show Row _ _ _ _; rw [HW2.out, HG.out]; exact Row.new w1 _ _
   have KB2 : Hid (Below w.heap.size w w2) := below2 KB0.out (below2 b1 b12)
   have KX : Hid (Calls Tryz.prog 12 #[pcV T.p.r T.p.k T.p.n T.p.i T.p.b (.slice a6 T.p.m c6), .string salt] w2 fun e w' => e = .returned (.string (exT T.p.r T.p.k T.p.n T.p.i T.p.b T.p.m T.p.S salt)) ∧ Below w2.heap.size w2 w') := sExpect_any T.p.r T.p.k T.p.n T.p.i T.p.b a6 T.p.m c6 T.p.S salt w2 (SO1.rd.1.below b12) HTK.out.m (fun i hi => Nat.le_trans (HTK.out.tx i hi) (by unfold maxLen; omega))
   clear b1 b12 SO1 HRE HT HOK
   have y1 := HR2.out.cell 1
   have y2 := HR2.out.cell 2
   have y3 := HR2.out.cell 3
   have y4 := HR2.out.cell 4
   have y5 := HR2.out.cell 5
   have y6 := HR2.out.cell 6
   have y7 := HR2.out.cell 7
   simp at y1 y2 y3 y4 y5 y6 y7
   go_wp2_with fail
   rw [← HW2.out]
   go_ret
   exact ⟨rfl, KB2.out⟩
 | true =>
  rw [hok] at KSo
  clear hok
  cases hth : T.h with
  | false =>
   have HTH : Hid (T.h = false) := hth
   clear hth
   rw [if_neg (fun h => by cases h.2)]
   go_enter Tryz.func14, Tryz.ntmps14
   go_wp2_with (rw [← HW0.out, ← HA.out]; refine wpList_load_row (by rfl) 37 _ (by rfl) A (by rfl) 37 #[.int .i64 id, .int .i64 f, .slice a n cap] (0, 0) _ ?_ Tryz.underlying37 (by rfl) Tryz.infoNd ?_; exact HR0.out)
   refine Calls.mono KSo.out ?_
   rintro e w1 ⟨a6, a11, a12, c6, c11, c12, F6, F11, F12, rfl, SO1, b1⟩
   obtain ⟨G, HG⟩ : ∃ x, Hid (x = w1.heap.size) := ⟨_, rfl⟩
   obtain ⟨w2, HW2⟩ : ∃ x, Hid (x = w1.alloc (.cells (slC T (.slice a6 T.p.m c6) (.slice a11 T.ze.length c11) (.slice a12 T.zr.length c12)) 65)) := ⟨_, rfl⟩
   have b12 : Below w1.heap.size w1 w2 := by rw [HW2.out]; exact (Below.refl _ _).alloc (Nat.le_refl _) _
   have HR2 : Hid (Row w2 G 65 (slC T (.slice a6 T.p.m c6) (.slice a11 T.ze.length c11) (.slice a12 T.zr.length c12))) := by show Row _ _ _ _; rw [HW2.out, HG.out]; exact Row.new w1 _ _
   have KB2 : Hid (Below w.heap.size w w2) := below2 KB0.out (below2 b1 b12)
   have KX : Hid (Calls Tryz.prog 12 #[pcV T.p.r T.p.k T.p.n T.p.i T.p.b (.slice a6 T.p.m c6), .string salt] w2 fun e w' => e = .returned (.string (exT T.p.r T.p.k T.p.n T.p.i T.p.b T.p.m T.p.S salt)) ∧ Below w2.heap.size w2 w') := sExpect_any T.p.r T.p.k T.p.n T.p.i T.p.b a6 T.p.m c6 T.p.S salt w2 (SO1.rd.1.below b12) HTK.out.m (fun i hi => Nat.le_trans (HTK.out.tx i hi) (by unfold maxLen; omega))
   clear b1 b12 SO1 HRE HT HOK
   have y1 := HR2.out.cell 1
   have y2 := HR2.out.cell 2
   have y3 := HR2.out.cell 3
   have y4 := HR2.out.cell 4
   have y5 := HR2.out.cell 5
   have y6 := HR2.out.cell 6
   have y7 := HR2.out.cell 7
   simp at y1 y2 y3 y4 y5 y6 y7
   rw [HTH.out] at y7
   go_upto_region 2 with fail
   rw [← HW2.out, ← HG.out]
   go_wp2_with fail
   go_ret
   exact ⟨rfl, KB2.out⟩
  | true =>
   have HTH : Hid (T.h = true) := hth
   clear hth
   rw [if_pos ⟨rfl, rfl⟩]
   go_enter Tryz.func14, Tryz.ntmps14
   go_wp2_with (rw [← HW0.out, ← HA.out]; refine wpList_load_row (by rfl) 37 _ (by rfl) A (by rfl) 37 #[.int .i64 id, .int .i64 f, .slice a n cap] (0, 0) _ ?_ Tryz.underlying37 (by rfl) Tryz.infoNd ?_; exact HR0.out)
   refine Calls.mono KSo.out ?_
   rintro e w1 ⟨a6, a11, a12, c6, c11, c12, F6, F11, F12, rfl, SO1, b1⟩
   obtain ⟨G, HG⟩ : ∃ x, Hid (x = w1.heap.size) := ⟨_, rfl⟩
   obtain ⟨w2, HW2⟩ : ∃ x, Hid (x = w1.alloc (.cells (slC T (.slice a6 T.p.m c6) (.slice a11 T.ze.length c11) (.slice a12 T.zr.length c12)) 65)) := ⟨_, rfl⟩
   have b12 : Below w1.heap.size w1 w2 := by rw [HW2.out]; exact (Below.refl _ _).alloc (Nat.le_refl _) _
   have HR2 : Hid (Row w2 G 65 (slC T (.slice a6 T.p.m c6) (.slice a11 T.ze.length c11) (.slice a12 T.zr.length c12))) := by show Row _ _ _ _; rw [HW2.out, HG.out]; exact Row.new w1 _ _
   have KB2 : Hid (Below w.heap.size w w2) := below2 KB0.out (below2 b1 b12)
   have KX : Hid (Calls Tryz.prog 12 #[pcV T.p.r T.p.k T.p.n T.p.i T.p.b (.slice a6 T.p.m c6), .string salt] w2 fun e w' => e = .returned (.string (exT T.p.r T.p.k T.p.n T.p.i T.p.b T.p.m T.p.S salt)) ∧ Below w2.heap.size w2 w') := sExpect_any T.p.r T.p.k T.p.n T.p.i T.p.b a6 T.p.m c6 T.p.S salt w2 (SO1.rd.1.below b12) HTK.out.m (fun i hi => Nat.le_trans (HTK.out.tx i hi) (by unfold maxLen; omega))
   clear b1 b12 SO1 HRE HT HOK
   have y1 := HR2.out.cell 1
   have y2 := HR2.out.cell 2
   have y3 := HR2.out.cell 3
   have y4 := HR2.out.cell 4
   have y5 := HR2.out.cell 5
   have y6 := HR2.out.cell 6
   have y7 := HR2.out.cell 7
   simp at y1 y2 y3 y4 y5 y6 y7
   rw [HTH.out] at y7
   go_upto_region 2 with fail
   rw [← HW2.out, ← HG.out]
   go_wp2_with fail
   refine Calls.mono KX.out ?_
   rintro e w3 ⟨rfl, b3⟩
   have KB3 : Hid (Below w.heap.size w w3) := below2 KB2.out b3
   clear b3
   go_wp2
   go_ret
   exact ⟨rfl, KB3.out⟩
end Go.Proofs.YtaenoiffamgcfaaGreatDoor
