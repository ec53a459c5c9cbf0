/- One slot that the exact laws mark and ask for its marks. Conditions: lists of at most 2^20. -/
import Derived.Test.YtpempddpenpbhaaGreatDoorH35
import Derived.Test.YtpempddpenpbhaaGreatDoorH41
import Derived.Test.YtpempddpenpbhaaGreatDoorH33
import Derived.Test.YtpempddpenpbhaaGreatDoorH37
import Derived.Test.YtpempddpenpbhaaGreatDoorH32
namespace Go.Proofs.YtpempddpenpbhaaGreatDoor
set_option maxRecDepth 2000
open Go.ChangeShapes Go.WideShapes Go.ChangeAt Go.RowKit

end Go.Proofs.YtpempddpenpbhaaGreatDoor
/- For every input: the function SlotOf of the program answers as its model does, whatever its node and its root are; it leaves the node as it was, and its answer owns its memory. No condition. Written by a program. -/
namespace Go.Proofs.YtpempddpenpbhaaGreatDoor
set_option maxRecDepth 2000
open Go.ChangeShapes Go.WideShapes Go.ChangeAt Go.RowKit
theorem Tryz.infoNdL2 : (Tryz.prog.info? 24).map (·.size) = some 3 := by kernel_rfl
theorem tot_ge2 {g : Nat → Nat} {n i : Nat} (hi : i < n) : g i ≤ tot g n := by have := tot_step (g := g) hi; omega
/-- What the count tells of the slots. -/
theorem wtL_little {n : Nat} {S : Nat → Sl} (h : wtL n S ≤ 1048576) : n ≤ 1048576 ∧ (∀ i, i < n → SlS (S i)) ∧ (∀ i, i < n → SlK (S i)) ∧ 1 + tot (fun i => wkS (S i)) n ≤ 40000000 := by
  unfold wtL at h
  have hw : ∀ i, i < n → wtS (S i) ≤ 1048576 := fun i hi => by have : wtS (S i) ≤ tot (fun i => wtS (S i)) n := tot_ge2 (g := fun i => wtS (S i)) hi; omega
  have h10 : tot (fun i => wkS (S i)) n ≤ 10 * n + tot (fun i => wtS (S i)) n := by
    clear h hw
    induction n with
    | zero => exact Nat.le_refl _
    | succ n ih =>
      show tot (fun i => wkS (S i)) n + wkS (S n) ≤ 10 * (n + 1) + (tot (fun i => wtS (S i)) n + wtS (S n))
      have : wkS (S n) ≤ 10 + wtS (S n) := by unfold wkS wtS wtP; omega
      omega
  refine ⟨by omega, fun i hi => ?_, fun i hi => ?_, by omega⟩
  · have := hw i hi
    unfold wtS wtP at this
    exact ⟨by omega, by omega, by omega⟩
  · have := hw i hi
    unfold wtS wtP at this
    refine ⟨by omega, by omega, by omega, by omega, fun j hj => ?_, by omega, by omega⟩
    have : ((S i).p.S j).size ≤ tot (fun j => ((S i).p.S j).size) (S i).p.m := tot_ge2 (g := fun j => ((S i).p.S j).size) hj
    omega
/-- What stands in memory while the law is gone through. -/
structure SoF (w : World) (B E X G bx bg : Nat) (id f : Int) (a : Option Addr) (n c gx : Nat) (T TG : Sl) (v6 v11 v12 u6 u11 u12 : Value) (W : World) : Prop where
  rb : Row W B 24 #[.int .i64 id, .int .i64 f, .slice a n c]
  re : Row W E 39 (slC T v6 v11 v12)
  rx : Row W X 29 #[.int .i64 id, .int .i64 f, .slice (some ⟨gx, 0, none⟩) n n]
  rg : Row W G 39 (slC T u6 u11 u12)
  se : ∃ F6 F11 F12, SlO W 0 T v6 v11 v12 F6 F11 F12 ∧ ∀ g, F6 g ∨ F11 g ∨ F12 g → g < bx
  sg : ∃ F6 F11 F12, SlO W bg TG u6 u11 u12 F6 F11 F12 ∧ ∀ g, F6 g ∨ F11 g ∨ F12 g → bg ≤ g ∧ g < G
  bw : Below w.heap.size w W
theorem SlO.below {w w' : World} {B : Nat} {s : Sl} {v6 v11 v12 : Value} {F6 F11 F12 : Nat → Prop} (h : SlO w B s v6 v11 v12 F6 F11 F12) (hb : Below w.heap.size w w') : SlO w' B s v6 v11 v12 F6 F11 F12 := ⟨h.t.below hb, h.e.below hb, h.z.below hb, h.d1, h.d2, h.d3⟩
theorem SlO.turned {w w' : World} {B : Nat} {s : Sl} {v6 v11 v12 : Value} {F6 F11 F12 F : Nat → Prop} (h : SlO w B s v6 v11 v12 F6 F11 F12) (ht : Trn w w' F) (hd : ∀ g, F6 g ∨ F11 g ∨ F12 g → ¬ F g) : SlO w' B s v6 v11 v12 F6 F11 F12 := ⟨h.t.turned ht (fun g hg => hd g (.inl hg)), h.e.turned ht (fun g hg => hd g (.inr (.inl hg))), h.z.turned ht (fun g hg => hd g (.inr (.inr hg))), h.d1, h.d2, h.d3⟩
theorem SlO.cut {w : World} {B : Nat} {s : Sl} {v6 v11 v12 : Value} {F6 F11 F12 : Nat → Prop} (h : SlO w B s v6 v11 v12 F6 F11 F12) : ∃ H6 H11 H12, SlO w B s v6 v11 v12 H6 H11 H12 ∧ ∀ g, H6 g ∨ H11 g ∨ H12 g → B ≤ g ∧ g < w.heap.size :=
  ⟨_, _, _, ⟨h.t.cut, h.e.cut, h.z.cut, fun g h1 h2 => h.d1 g h1.1 h2.1, fun g h1 h2 => h.d2 g h1.1 h2.1, fun g h1 h2 => h.d3 g h1.1 h2.1⟩, fun g hg => by rcases hg with hg | hg | hg <;> exact hg.2⟩
theorem SlO.base {w : World} {B B' : Nat} {s : Sl} {v6 v11 v12 : Value} {F6 F11 F12 : Nat → Prop} (h : SlO w B s v6 v11 v12 F6 F11 F12) (hB : B' ≤ B) : SlO w B' s v6 v11 v12 F6 F11 F12 := ⟨h.t.base hB, h.e.base hB, h.z.base hB, h.d1, h.d2, h.d3⟩
theorem SlO.rd {w : World} {B : Nat} {s : Sl} {a6 a11 a12 : Option Addr} {c6 c11 c12 m e z : Nat} {F6 F11 F12 : Nat → Prop} (h : SlO w B s (.slice a6 m c6) (.slice a11 e c11) (.slice a12 z c12) F6 F11 F12) : TxtAt w a6 s.p.m s.p.S ∧ IntsAt w a11 s.ze.length s.ze ∧ IntsAt w a12 s.zr.length s.zr := by
  have h1 := h.t.rd
  have h2 := h.e.rd
  have h3 := h.z.rd
  obtain ⟨_, _, e1⟩ := h1.shape
  obtain ⟨_, _, e2⟩ := h2.shape
  obtain ⟨_, _, e3⟩ := h3.shape
  simp only [Value.slice.injEq] at e1 e2 e3
  rw [e1.2.1] at h1
  rw [e2.2.1] at h2
  rw [e3.2.1] at h3
  exact ⟨rd_txt.1 h1, rd_ints.1 h2, rd_ints.1 h3⟩
section
variable {w W W' : World} {B E X G bx bg : Nat} {id f : Int} {a : Option Addr} {n c gx : Nat} {T TG TH : Sl} {v6 v11 v12 u6 u11 u12 : Value}
theorem SoF.below (h : SoF w B E X G bx bg id f a n c gx T TG v6 v11 v12 u6 u11 u12 W) (hb : Below W.heap.size W W') : SoF w B E X G bx bg id f a n c gx T TG v6 v11 v12 u6 u11 u12 W' := by
  obtain ⟨F6, F11, F12, s1, s2⟩ := h.se
  obtain ⟨H6, H11, H12, g1, g2⟩ := h.sg
  exact ⟨h.rb.below hb h.rb.lt, h.re.below hb h.re.lt, h.rx.below hb h.rx.lt, h.rg.below hb h.rg.lt, ⟨_, _, _, s1.below hb, s2⟩, ⟨_, _, _, g1.below hb, g2⟩, below2 h.bw hb⟩
end
end Go.Proofs.YtpempddpenpbhaaGreatDoor
/- What a node answers when it is asked for its piece of a root (Respond), in the program and in its model. Conditions: lists of at most 2^20, texts that can be; the library's table of powers of ten stands as its text lays it. -/
namespace Go.Proofs.YtpempddpenpbhaaGreatDoor
set_option maxRecDepth 2000
open Go.ChangeShapes Go.WideShapes Go.ChangeAt Go.RowKit

noncomputable def reT (S : Nat → Sl) (root : ByteArray) (n : Nat) (salt : ByteArray) : ByteArray := if soB S root n = true ∧ (soS S root n).h = true then exT (soS S root n).p.r (soS S root n).p.k (soS S root n).p.n (soS S root n).p.i (soS S root n).p.b (soS S root n).p.m (soS S root n).p.S salt else ⟨#[]⟩
theorem soS_K {S : Nat → Sl} {root : ByteArray} {n : Nat} (h : ∀ i, i < n → SlK (S i)) : SlK (soS S root n) := by
  unfold soS
  cases e : plc S root n with
  | none => exact ⟨by simp [slZ], by simp [slZ], by simp [slZ], by simp [slZ], fun i hi => by simp [slZ] at hi, by simp [slZ], by simp [slZ]⟩
  | some x =>
    obtain ⟨_, h2, _, _⟩ := plF_some e
    exact h x (by omega)

set_option maxHeartbeats 2000000 in
theorem respond_any (id f : Int) (a : Option Addr) (n cap : Nat) (S : Nat → Sl) (root salt : ByteArray) (w : World) (h : Rd w (slsD n S) (.slice a n cap)) (hn : n ≤ 1048576) (hs : ∀ i, i < n → SlK (S i)) (htab : TabOk w) :
    Calls Tryz.prog 7 #[ndV id f (.slice a n cap), .string root, .string salt] w fun e w' => e = .returned (.string (reT S root n salt)) ∧ Below w.heap.size w w' := by
  obtain ⟨A, HA⟩ : ∃ x, Hid (x = w.heap.size) := ⟨_, rfl⟩
  obtain ⟨w0, HW0⟩ : ∃ x, Hid (x = w.alloc (.cells #[.int .i64 id, .int .i64 f, .slice a n cap] 29)) := ⟨_, rfl⟩
  have HR0 : Hid (Row w0 A 29 #[.int .i64 id, .int .i64 f, .slice a n cap]) := by show Row _ _ _ _; rw [HW0.out, HA.out]; exact Row.new w _ _
  have hb0 : Below w.heap.size w w0 := by rw [HW0.out]; exact (Below.refl _ _).alloc (Nat.le_refl _) _
  have KB0 : Hid (Below w.heap.size w w0) := hb0
  obtain ⟨T, HT⟩ : ∃ x, Hid (soS S root n = x) := ⟨_, rfl⟩
  obtain ⟨okv, HOK⟩ : ∃ x, Hid (soB S root n = x) := ⟨_, rfl⟩
  have HTK : Hid (SlK T) := by rw [← HT.out]; exact soS_K hs
  have KSo : Hid (Calls Tryz.prog 13 #[ndV id f (.slice a n cap), .string root] w0 fun e w' => ∃ (a6 a11 a12 : Option Addr) (c6 c11 c12 : Nat) (F6 F11 F12 : Nat → Prop), e = .returned (.tuple #[slV T (.slice a6 T.p.m c6) (.slice a11 T.ze.length c11) (.slice a12 T.zr.length c12), .bool okv]) ∧ SlO w' w0.heap.size T (.slice a6 T.p.m c6) (.slice a11 T.ze.length c11) (.slice a12 T.zr.length c12) F6 F11 F12 ∧ Below w0.heap.size w0 w') := by
    have := slotOf_any id f a n cap S root w0 (h.below hb0) hn hs
    rw [HT.out, HOK.out] at this
    exact this
  have HRE : Hid (reT S root n salt = if okv = true ∧ T.h = true then exT T.p.r T.p.k T.p.n T.p.i T.p.b T.p.m T.p.S salt else ⟨#[]⟩) := by show _ = _; unfold reT; rw [HT.out, HOK.out]
  rw [HRE.out]
  have HTb : Hid (TabOk w) := htab
  clear h hs hb0 htab
  cases hok : okv with
  | false =>
      rw [if_neg (fun h => by cases h.1)]
      rw [hok] at KSo
      clear hok
      go_enter Tryz.func7, Tryz.ntmps7
      go_wp2_with (rw [← HW0.out, ← HA.out]; refine wpList_load_row (by rfl) 29 _ (by rfl) A (by rfl) 29 #[.int .i64 id, .int .i64 f, .slice a n cap] (0, 0) _ ?_ Tryz.underlying29 (by rfl) Tryz.infoNd ?_; exact HR0.out)
      refine Calls.mono KSo.out ?_
      rintro e w1 ⟨a6, a11, a12, c6, c11, c12, F6, F11, F12, rfl, SO1, b1⟩
      obtain ⟨G, HG⟩ : ∃ x, Hid (x = w1.heap.size) := ⟨_, rfl⟩
      obtain ⟨w2, HW2⟩ : ∃ x, Hid (x = w1.alloc (.cells (slC T (.slice a6 T.p.m c6) (.slice a11 T.ze.length c11) (.slice a12 T.zr.length c12)) 39)) := ⟨_, rfl⟩
      have b12 : Below w1.heap.size w1 w2 := by rw [HW2.out]; exact (Below.refl _ _).alloc (Nat.le_refl _) _
      have HR2 : Hid (Row w2 G 39 (slC T (.slice a6 T.p.m c6) (.slice a11 T.ze.length c11) (.slice a12 T.zr.length c12))) := by show Row _ _ _ _; rw [HW2.out, HG.out]; exact Row.new w1 _ _
      have KB2 : Hid (Below w.heap.size w w2) := below2 KB0.out (below2 b1 b12)
      have KX : Hid (Calls Tryz.prog 14 #[pcV T.p.r T.p.k T.p.n T.p.i T.p.b (.slice a6 T.p.m c6), .string salt] w2 fun e w' => e = .returned (.string (exT T.p.r T.p.k T.p.n T.p.i T.p.b T.p.m T.p.S salt)) ∧ Below w2.heap.size w2 w') := expect_any T.p.r T.p.k T.p.n T.p.i T.p.b a6 T.p.m c6 T.p.S salt w2 (SO1.rd.1.below b12) HTK.out.m (fun i hi => Nat.le_trans (HTK.out.tx i hi) (by unfold maxLen; omega)) (HTb.out.below KB2.out)
      clear b1 b12 SO1 HRE HT HOK
      have y1 := HR2.out.cell 1
      have y2 := HR2.out.cell 2
      have y3 := HR2.out.cell 3
      have y4 := HR2.out.cell 4
      have y5 := HR2.out.cell 5
      have y6 := HR2.out.cell 6
      have y7 := HR2.out.cell 7
      simp at y1 y2 y3 y4 y5 y6 y7
      go_wp2_with fail
      rw [← HW2.out]
      go_ret
      exact ⟨rfl, KB2.out⟩
  | true =>
    rw [hok] at KSo
    clear hok
    cases hth : T.h with
    | false =>
      have HTH : Hid (T.h = false) := hth
      clear hth
      rw [if_neg (fun h => by cases h.2)]
      go_enter Tryz.func7, Tryz.ntmps7
      go_wp2_with (rw [← HW0.out, ← HA.out]; refine wpList_load_row (by rfl) 29 _ (by rfl) A (by rfl) 29 #[.int .i64 id, .int .i64 f, .slice a n cap] (0, 0) _ ?_ Tryz.underlying29 (by rfl) Tryz.infoNd ?_; exact HR0.out)
      refine Calls.mono KSo.out ?_
      rintro e w1 ⟨a6, a11, a12, c6, c11, c12, F6, F11, F12, rfl, SO1, b1⟩
      obtain ⟨G, HG⟩ : ∃ x, Hid (x = w1.heap.size) := ⟨_, rfl⟩
      obtain ⟨w2, HW2⟩ : ∃ x, Hid (x = w1.alloc (.cells (slC T (.slice a6 T.p.m c6) (.slice a11 T.ze.length c11) (.slice a12 T.zr.length c12)) 39)) := ⟨_, rfl⟩
      have b12 : Below w1.heap.size w1 w2 := by rw [HW2.out]; exact (Below.refl _ _).alloc (Nat.le_refl _) _
      have HR2 : Hid (Row w2 G 39 (slC T (.slice a6 T.p.m c6) (.slice a11 T.ze.length c11) (.slice a12 T.zr.length c12))) := by show Row _ _ _ _; rw [HW2.out, HG.out]; exact Row.new w1 _ _
      have KB2 : Hid (Below w.heap.size w w2) := below2 KB0.out (below2 b1 b12)
      have KX : Hid (Calls Tryz.prog 14 #[pcV T.p.r T.p.k T.p.n T.p.i T.p.b (.slice a6 T.p.m c6), .string salt] w2 fun e w' => e = .returned (.string (exT T.p.r T.p.k T.p.n T.p.i T.p.b T.p.m T.p.S salt)) ∧ Below w2.heap.size w2 w') := expect_any T.p.r T.p.k T.p.n T.p.i T.p.b a6 T.p.m c6 T.p.S salt w2 (SO1.rd.1.below b12) HTK.out.m (fun i hi => Nat.le_trans (HTK.out.tx i hi) (by unfold maxLen; omega)) (HTb.out.below KB2.out)
      clear b1 b12 SO1 HRE HT HOK
      have y1 := HR2.out.cell 1
      have y2 := HR2.out.cell 2
      have y3 := HR2.out.cell 3
      have y4 := HR2.out.cell 4
      have y5 := HR2.out.cell 5
      have y6 := HR2.out.cell 6
      have y7 := HR2.out.cell 7
      simp at y1 y2 y3 y4 y5 y6 y7
      rw [HTH.out] at y7
      go_upto_region 2 with fail
      rw [← HW2.out, ← HG.out]
      go_wp2_with fail
      go_ret
      exact ⟨rfl, KB2.out⟩
    | true =>
      have HTH : Hid (T.h = true) := hth
      clear hth
      rw [if_pos ⟨rfl, rfl⟩]
      go_enter Tryz.func7, Tryz.ntmps7
      go_wp2_with (rw [← HW0.out, ← HA.out]; refine wpList_load_row (by rfl) 29 _ (by rfl) A (by rfl) 29 #[.int .i64 id, .int .i64 f, .slice a n cap] (0, 0) _ ?_ Tryz.underlying29 (by rfl) Tryz.infoNd ?_; exact HR0.out)
      refine Calls.mono KSo.out ?_
      rintro e w1 ⟨a6, a11, a12, c6, c11, c12, F6, F11, F12, rfl, SO1, b1⟩
      obtain ⟨G, HG⟩ : ∃ x, Hid (x = w1.heap.size) := ⟨_, rfl⟩
      obtain ⟨w2, HW2⟩ : ∃ x, Hid (x = w1.alloc (.cells (slC T (.slice a6 T.p.m c6) (.slice a11 T.ze.length c11) (.slice a12 T.zr.length c12)) 39)) := ⟨_, rfl⟩
      have b12 : Below w1.heap.size w1 w2 := by rw [HW2.out]; exact (Below.refl _ _).alloc (Nat.le_refl _) _
      have HR2 : Hid (Row w2 G 39 (slC T (.slice a6 T.p.m c6) (.slice a11 T.ze.length c11) (.slice a12 T.zr.length c12))) := by show Row _ _ _ _; rw [HW2.out, HG.out]; exact Row.new w1 _ _
      have KB2 : Hid (Below w.heap.size w w2) := below2 KB0.out (below2 b1 b12)
      have KX : Hid (Calls Tryz.prog 14 #[pcV T.p.r T.p.k T.p.n T.p.i T.p.b (.slice a6 T.p.m c6), .string salt] w2 fun e w' => e = .returned (.string (exT T.p.r T.p.k T.p.n T.p.i T.p.b T.p.m T.p.S salt)) ∧ Below w2.heap.size w2 w') := expect_any T.p.r T.p.k T.p.n T.p.i T.p.b a6 T.p.m c6 T.p.S salt w2 (SO1.rd.1.below b12) HTK.out.m (fun i hi => Nat.le_trans (HTK.out.tx i hi) (by unfold maxLen; omega)) (HTb.out.below KB2.out)
      clear b1 b12 SO1 HRE HT HOK
      have y1 := HR2.out.cell 1
      have y2 := HR2.out.cell 2
      have y3 := HR2.out.cell 3
      have y4 := HR2.out.cell 4
      have y5 := HR2.out.cell 5
      have y6 := HR2.out.cell 6
      have y7 := HR2.out.cell 7
      simp at y1 y2 y3 y4 y5 y6 y7
      rw [HTH.out] at y7
      go_upto_region 2 with fail
      rw [← HW2.out, ← HG.out]
      go_wp2_with fail
      refine Calls.mono KX.out ?_
      rintro e w3 ⟨rfl, b3⟩
      have KB3 : Hid (Below w.heap.size w w3) := below2 KB2.out b3
      clear b3
      go_wp2
      go_ret
      exact ⟨rfl, KB3.out⟩

set_option maxHeartbeats 2000000 in
theorem sRespond_any (id f : Int) (a : Option Addr) (n cap : Nat) (S : Nat → Sl) (root salt : ByteArray) (w : World) (h : Rd w (slsD n S) (.slice a n cap)) (hn : n ≤ 1048576) (hs : ∀ i, i < n → SlS (S i)) (hk : ∀ i, i < n → SlK (S i)) :
    Calls Tryz.prog 5 #[ndV id f (.slice a n cap), .string root, .string salt] w fun e w' => e = .returned (.string (reT S root n salt)) ∧ Below w.heap.size w w' := by
  obtain ⟨A, HA⟩ : ∃ x, Hid (x = w.heap.size) := ⟨_, rfl⟩
  obtain ⟨w0, HW0⟩ : ∃ x, Hid (x = w.alloc (.cells #[.int .i64 id, .int .i64 f, .slice a n cap] 29)) := ⟨_, rfl⟩
  have HR0 : Hid (Row w0 A 29 #[.int .i64 id, .int .i64 f, .slice a n cap]) := by show Row _ _ _ _; rw [HW0.out, HA.out]; exact Row.new w _ _
  have hb0 : Below w.heap.size w w0 := by rw [HW0.out]; exact (Below.refl _ _).alloc (Nat.le_refl _) _
  have KB0 : Hid (Below w.heap.size w w0) := hb0
  obtain ⟨T, HT⟩ : ∃ x, Hid (soS S root n = x) := ⟨_, rfl⟩
  obtain ⟨okv, HOK⟩ : ∃ x, Hid (soB S root n = x) := ⟨_, rfl⟩
  have HTK : Hid (SlK T) := by rw [← HT.out]; exact soS_K hk
  have KSo : Hid (Calls Tryz.prog 10 #[ndV id f (.slice a n cap), .string root] w0 fun e w' => ∃ (a6 a11 a12 : Option Addr) (c6 c11 c12 : Nat) (F6 F11 F12 : Nat → Prop), e = .returned (.tuple #[slV T (.slice a6 T.p.m c6) (.slice a11 T.ze.length c11) (.slice a12 T.zr.length c12), .bool okv]) ∧ SlO w' w0.heap.size T (.slice a6 T.p.m c6) (.slice a11 T.ze.length c11) (.slice a12 T.zr.length c12) F6 F11 F12 ∧ Below w0.heap.size w0 w') := by
    have := sSlotOf_any id f a n cap S root w0 (h.below hb0) hn hs
    rw [HT.out, HOK.out] at this
    exact this
  have HRE : Hid (reT S root n salt = if okv = true ∧ T.h = true then exT T.p.r T.p.k T.p.n T.p.i T.p.b T.p.m T.p.S salt else ⟨#[]⟩) := by show _ = _; unfold reT; rw [HT.out, HOK.out]
  rw [HRE.out]
  
  clear h hs hb0 hk
  cases hok : okv with
  | false =>
      rw [if_neg (fun h => by cases h.1)]
      rw [hok] at KSo
      clear hok
      go_enter Tryz.func5, Tryz.ntmps5
      go_wp2_with (rw [← HW0.out, ← HA.out]; refine wpList_load_row (by rfl) 29 _ (by rfl) A (by rfl) 29 #[.int .i64 id, .int .i64 f, .slice a n cap] (0, 0) _ ?_ Tryz.underlying29 (by rfl) Tryz.infoNd ?_; exact HR0.out)
      refine Calls.mono KSo.out ?_
      rintro e w1 ⟨a6, a11, a12, c6, c11, c12, F6, F11, F12, rfl, SO1, b1⟩
      obtain ⟨G, HG⟩ : ∃ x, Hid (x = w1.heap.size) := ⟨_, rfl⟩
      obtain ⟨w2, HW2⟩ : ∃ x, Hid (x = w1.alloc (.cells (slC T (.slice a6 T.p.m c6) (.slice a11 T.ze.length c11) (.slice a12 T.zr.length c12)) 39)) := ⟨_, rfl⟩
      have b12 : Below w1.heap.size w1 w2 := by rw [HW2.out]; exact (Below.refl _ _).alloc (Nat.le_refl _) _
      have HR2 : Hid (Row w2 G 39 (slC T (.slice a6 T.p.m c6) (.slice a11 T.ze.length c11) (.slice a12 T.zr.length c12))) := by show Row _ _ _ _; rw [HW2.out, HG.out]; exact Row.new w1 _ _
      have KB2 : Hid (Below w.heap.size w w2) := below2 KB0.out (below2 b1 b12)
      have KX : Hid (Calls Tryz.prog 11 #[pcV T.p.r T.p.k T.p.n T.p.i T.p.b (.slice a6 T.p.m c6), .string salt] w2 fun e w' => e = .returned (.string (exT T.p.r T.p.k T.p.n T.p.i T.p.b T.p.m T.p.S salt)) ∧ Below w2.heap.size w2 w') := sExpect_any T.p.r T.p.k T.p.n T.p.i T.p.b a6 T.p.m c6 T.p.S salt w2 (SO1.rd.1.below b12) HTK.out.m (fun i hi => Nat.le_trans (HTK.out.tx i hi) (by unfold maxLen; omega))
      clear b1 b12 SO1 HRE HT HOK
      have y1 := HR2.out.cell 1
      have y2 := HR2.out.cell 2
      have y3 := HR2.out.cell 3
      have y4 := HR2.out.cell 4
      have y5 := HR2.out.cell 5
      have y6 := HR2.out.cell 6
      have y7 := HR2.out.cell 7
      simp at y1 y2 y3 y4 y5 y6 y7
      go_wp2_with fail
      rw [← HW2.out]
      go_ret
      exact ⟨rfl, KB2.out⟩
  | true =>
    rw [hok] at KSo
    clear hok
    cases hth : T.h with
    | false =>
      have HTH : Hid (T.h = false) := hth
      clear hth
      rw [if_neg (fun h => by cases h.2)]
      go_enter Tryz.func5, Tryz.ntmps5
      go_wp2_with (rw [← HW0.out, ← HA.out]; refine wpList_load_row (by rfl) 29 _ (by rfl) A (by rfl) 29 #[.int .i64 id, .int .i64 f, .slice a n cap] (0, 0) _ ?_ Tryz.underlying29 (by rfl) Tryz.infoNd ?_; exact HR0.out)
      refine Calls.mono KSo.out ?_
      rintro e w1 ⟨a6, a11, a12, c6, c11, c12, F6, F11, F12, rfl, SO1, b1⟩
      obtain ⟨G, HG⟩ : ∃ x, Hid (x = w1.heap.size) := ⟨_, rfl⟩
      obtain ⟨w2, HW2⟩ : ∃ x, Hid (x = w1.alloc (.cells (slC T (.slice a6 T.p.m c6) (.slice a11 T.ze.length c11) (.slice a12 T.zr.length c12)) 39)) := ⟨_, rfl⟩
      have b12 : Below w1.heap.size w1 w2 := by rw [HW2.out]; exact (Below.refl _ _).alloc (Nat.le_refl _) _
      have HR2 : Hid (Row w2 G 39 (slC T (.slice a6 T.p.m c6) (.slice a11 T.ze.length c11) (.slice a12 T.zr.length c12))) := by show Row _ _ _ _; rw [HW2.out, HG.out]; exact Row.new w1 _ _
      have KB2 : Hid (Below w.heap.size w w2) := below2 KB0.out (below2 b1 b12)
      have KX : Hid (Calls Tryz.prog 11 #[pcV T.p.r T.p.k T.p.n T.p.i T.p.b (.slice a6 T.p.m c6), .string salt] w2 fun e w' => e = .returned (.string (exT T.p.r T.p.k T.p.n T.p.i T.p.b T.p.m T.p.S salt)) ∧ Below w2.heap.size w2 w') := sExpect_any T.p.r T.p.k T.p.n T.p.i T.p.b a6 T.p.m c6 T.p.S salt w2 (SO1.rd.1.below b12) HTK.out.m (fun i hi => Nat.le_trans (HTK.out.tx i hi) (by unfold maxLen; omega))
      clear b1 b12 SO1 HRE HT HOK
      have y1 := HR2.out.cell 1
      have y2 := HR2.out.cell 2
      have y3 := HR2.out.cell 3
      have y4 := HR2.out.cell 4
      have y5 := HR2.out.cell 5
      have y6 := HR2.out.cell 6
      have y7 := HR2.out.cell 7
      simp at y1 y2 y3 y4 y5 y6 y7
      rw [HTH.out] at y7
      go_upto_region 2 with fail
      rw [← HW2.out, ← HG.out]
      go_wp2_with fail
      go_ret
      exact ⟨rfl, KB2.out⟩
    | true =>
      have HTH : Hid (T.h = true) := hth
      clear hth
      rw [if_pos ⟨rfl, rfl⟩]
      go_enter Tryz.func5, Tryz.ntmps5
      go_wp2_with (rw [← HW0.out, ← HA.out]; refine wpList_load_row (by rfl) 29 _ (by rfl) A (by rfl) 29 #[.int .i64 id, .int .i64 f, .slice a n cap] (0, 0) _ ?_ Tryz.underlying29 (by rfl) Tryz.infoNd ?_; exact HR0.out)
      refine Calls.mono KSo.out ?_
      rintro e w1 ⟨a6, a11, a12, c6, c11, c12, F6, F11, F12, rfl, SO1, b1⟩
      obtain ⟨G, HG⟩ : ∃ x, Hid (x = w1.heap.size) := ⟨_, rfl⟩
      obtain ⟨w2, HW2⟩ : ∃ x, Hid (x = w1.alloc (.cells (slC T (.slice a6 T.p.m c6) (.slice a11 T.ze.length c11) (.slice a12 T.zr.length c12)) 39)) := ⟨_, rfl⟩
      have b12 : Below w1.heap.size w1 w2 := by rw [HW2.out]; exact (Below.refl _ _).alloc (Nat.le_refl _) _
      have HR2 : Hid (Row w2 G 39 (slC T (.slice a6 T.p.m c6) (.slice a11 T.ze.length c11) (.slice a12 T.zr.length c12))) := by show Row _ _ _ _; rw [HW2.out, HG.out]; exact Row.new w1 _ _
      have KB2 : Hid (Below w.heap.size w w2) := below2 KB0.out (below2 b1 b12)
      have KX : Hid (Calls Tryz.prog 11 #[pcV T.p.r T.p.k T.p.n T.p.i T.p.b (.slice a6 T.p.m c6), .string salt] w2 fun e w' => e = .returned (.string (exT T.p.r T.p.k T.p.n T.p.i T.p.b T.p.m T.p.S salt)) ∧ Below w2.heap.size w2 w') := sExpect_any T.p.r T.p.k T.p.n T.p.i T.p.b a6 T.p.m c6 T.p.S salt w2 (SO1.rd.1.below b12) HTK.out.m (fun i hi => Nat.le_trans (HTK.out.tx i hi) (by unfold maxLen; omega))
      clear b1 b12 SO1 HRE HT HOK
      have y1 := HR2.out.cell 1
      have y2 := HR2.out.cell 2
      have y3 := HR2.out.cell 3
      have y4 := HR2.out.cell 4
      have y5 := HR2.out.cell 5
      have y6 := HR2.out.cell 6
      have y7 := HR2.out.cell 7
      simp at y1 y2 y3 y4 y5 y6 y7
      rw [HTH.out] at y7
      go_upto_region 2 with fail
      rw [← HW2.out, ← HG.out]
      go_wp2_with fail
      refine Calls.mono KX.out ?_
      rintro e w3 ⟨rfl, b3⟩
      have KB3 : Hid (Below w.heap.size w w3) := below2 KB2.out b3
      clear b3
      go_wp2
      go_ret
      exact ⟨rfl, KB3.out⟩
end Go.Proofs.YtpempddpenpbhaaGreatDoor
