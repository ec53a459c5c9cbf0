/- A net's start in the model, where it may start. Conditions: lists of at most 2^20. -/
import Derived.Test.YtpomffkpjldloaaH35
namespace Go.Proofs.Ytpomffkpjldloaa
set_option maxRecDepth 2000
open Go.ChangeShapes Go.WideShapes Go.ChangeAt Go.RowKit

set_option maxHeartbeats 8000000 in
theorem sNetStart_yes (f : Int) (a : Option Addr) (cap : Nat) (zs : List Int) (m : Nat) (w : World) (h : IntsAt w a zs.length zs) (hn : zs.length ≤ 1048576) (hb : nsB f zs = true) (hm : (m : Int) = 3 * f + 1) :
    Calls Try.prog 12 #[.int .i64 f, .slice a zs.length cap] w fun e w' => ∃ v g2 c2, e = .returned (.tuple #[ntV f v (.slice (some ⟨g2, 0, none⟩) zs.length c2) (.slice none 0 0), .bool true]) ∧ Ow w' w.heap.size (ndsD m (nd0 f)) v (fun _ => True) ∧ IntsAt w' (some ⟨g2, 0, none⟩) zs.length zs ∧ w.heap.size ≤ g2 ∧ Below w.heap.size w w' := by
  obtain ⟨i0, hi, hz0, hz1, hz2⟩ := info_parts Try.infoNdZ2
  obtain ⟨D, HD⟩ : ∃ x, Hid (x = w.heap.size) := ⟨_, rfl⟩
  obtain ⟨w0, HW0⟩ : ∃ x, Hid (x = w.alloc (.cells #[.int .i64 0, .slice none 0 0, .slice none 0 0, .slice none 0 0] 26)) := ⟨_, rfl⟩
  have RD : Hid (Row w0 D 26 #[.int .i64 0, .slice none 0 0, .slice none 0 0, .slice none 0 0]) := by show Row _ _ _ _; rw [HW0.out, HD.out]; exact Row.new w _ _
  have b0 : Below w.heap.size w w0 := by rw [HW0.out]; exact (Below.refl _ _).alloc (Nat.le_refl _) _
  have KB0 : Hid (Below w.heap.size w w0) := b0
  have HDw : Hid (w.heap.size ≤ D) := by show _ ≤ _; rw [HD.out]; exact Nat.le_refl _
  have hf : 1 ≤ f ∧ f ≤ 3 := by
    unfold nsB fB at hb
    rw [Bool.and_eq_true] at hb
    exact of_decide_eq_true hb.1
  have hl : lsB f zs = true := by unfold nsB at hb; rw [Bool.and_eq_true] at hb; exact hb.2
  unfold lsB at hl
  rw [Bool.and_eq_true] at hl
  have hle := of_decide_eq_true hl.1
  have KI : Hid (∀ W, Calls Try.prog 23 #[.int .i64 f, .int .i64 1, .int .i64 3] W fun e w' => e = .returned (.bool true) ∧ w' = W) := fun W => by have := sIn_any f 1 3 W; rw [show inB f 1 3 = true from decide_eq_true hf] at this; exact this
  have KN : Hid (Calls Try.prog 24 #[.slice a zs.length cap, .int .i64 f] w0 fun e w' => e = .returned (.bool true) ∧ Below w0.heap.size w0 w') := by have := sNums_any f a zs.length cap zs w0 (h.below b0) hf hn; rw [hl.2] at this; exact this
  have KA : Hid (∀ W, Calls Try.prog 25 #[.int .i64 f] W fun e w' => e = .returned (.int .i64 (m : Int)) ∧ w' = W) := fun W => by rw [hm]; exact sAllN_any f W hf
  have KH : Hid (IntsAt w0 a zs.length zs) := h.below b0
  have HM : Hid (m ≤ 10) := by show m ≤ 10; omega
  have ngt : ¬ ((zs.length : Nat) : Int) > f := by omega
  obtain ⟨n, HN⟩ : ∃ x, Hid (zs.length = x) := ⟨_, rfl⟩
  have HNn : Hid (n ≤ 1048576) := by show n ≤ 1048576; rw [← HN.out]; exact hn
  rw [HN.out] at KN ngt ⊢
  clear b0 h hf hb hl hle hm hn
  go_enter Try.func12, Try.ntmps12
  go_wp2_with (first | (go_at_call 23; refine Calls.mono (KI.out _) ?_; rintro e w' ⟨rfl, hw⟩; obtain rfl := hw.symm; clear hw) | (go_at_call 24; rw [← HW0.out, ← HD.out]; refine Calls.mono KN.out ?_; rintro e w1 ⟨rfl, b1⟩; obtain ⟨w2, HW2⟩ : ∃ x, Hid (x = w1.alloc (.cells #[] 3)) := ⟨_, rfl⟩) | (at_builtin; rw [← HW2.out]; refine (show True → _ from ?_) trivial))
  intro _
  refine wpList_app_ints w2 (by rfl) _ _ (by rfl) w1.heap.size w1.heap.size (by rfl) ?_ a zs cap ?_ ?_ ?_ ?_ ?_
  · rw [HW2.out]
    have := World.ownsRow_lit (e := 3) (size := 1) (base := w1.heap.size) w1 #[] 0 (by simp) (by unfold maxLen; omega) (by simp)
    simpa using this
  · rw [HN.out]
    try rfl
  · rw [HW2.out]
    exact (KH.out.below b1).below ((Below.refl w1.heap.size w1).alloc (Nat.le_refl _) _)
  · rw [HN.out]; exact HNn.out
  · rw [HW2.out]; simp
  intro g2 c2 w3 hown hgrow
  have b13 : Below w1.heap.size w1 w3 := by
    have := (Below.refl w1.heap.size w1).alloc (Nat.le_refl _) (.cells #[] 3)
    rw [← HW2.out] at this
    exact this.grown hgrow this.size (fun k e => by cases e; exact Nat.le_refl _)
  have KB3 : Hid (Below w0.heap.size w0 w3) := below2 b1 b13
  have KO3 : Hid (Ow w3 w1.heap.size (inD zs) (.slice (some ⟨g2, 0, none⟩) zs.length c2) (fun x => x = g2)) := ow_ints hown (fun x e => by cases e; rfl)
  have HG2 : Hid (D < g2) := by
    have h1 := (World.ownsRow.lt hown g2 rfl).1
    have h2 := b1.size
    have h3 := RD.out.lt
    show D < g2
    omega
  rw [HN.out]
  clear hown hgrow b13 b1 HW2 KN KH
  obtain ⟨V, HV⟩ : ∃ x, Hid (x = w3.heap.size) := ⟨_, rfl⟩
  obtain ⟨w4, HW4⟩ : ∃ x, Hid (x = w3.alloc (.cells #[.int .i64 f, .slice none 0 0, .slice (some ⟨g2, 0, none⟩) n c2, .slice none 0 0] 26)) := ⟨_, rfl⟩
  have RV : Hid (Row w4 V 26 #[.int .i64 f, .slice none 0 0, .slice (some ⟨g2, 0, none⟩) n c2, .slice none 0 0]) := by show Row _ _ _ _; rw [HW4.out, HV.out]; exact Row.new w3 _ _
  have KB4 : Hid (Below V w3 w4) := by show Below _ _ _; rw [HW4.out, HV.out]; exact (Below.refl _ _).alloc (Nat.le_refl _) _
  have HVl : Hid (V < w4.heap.size ∧ D < V ∧ w0.heap.size ≤ V ∧ w4.heap.size = V + 1) := ⟨RV.out.lt, by have := KB3.out.size; have := RD.out.lt; have := HV.out; omega, by have := KB3.out.size; have := HV.out; omega, by rw [HW4.out, HV.out]; simp⟩
  go_wp2
  rw [← HW4.out, ← HV.out]
  go_loopw [7] (fun vi wr => ∃ k : Nat, ∃ v : Value, k ≤ m ∧ vi = .int .i64 (k : Int) ∧ Hid (Row wr V 26 #[.int .i64 f, v, .slice (some ⟨g2, 0, none⟩) n c2, .slice none 0 0] ∧ Ow wr w4.heap.size (ndsD k (nd0 f)) v (fun x => w4.heap.size ≤ x) ∧ Below V w3 wr)) (fun vi _ => m - (intOf vi).toNat)
  case atStart => exact ⟨0, .slice none 0 0, Nat.zero_le _, rfl, RV.out, Ow.nil _ _ _ _ _ _, KB4.out⟩
  case round =>
    obtain ⟨k, v, hk, rfl, HR⟩ := hrel
    by_cases hlt : k < m
    · have hki : (k : Int) < (m : Int) := by omega
      have HLT : Hid (k < m) := hlt
      have y1 := HR.out.1.cell 1
      simp at y1
      obtain ⟨w5, HW5⟩ : ∃ x, Hid (x = wr.alloc (.cells #[.int .i64 (k : Int), .int .i64 f, .slice none 0 0] 52)) := ⟨_, rfl⟩
      have b5 : Below wr.heap.size wr w5 := by rw [HW5.out]; exact (Below.refl _ _).alloc (Nat.le_refl _) _
      have lV := HR.out.1.lt
      go_wp2_with (first | (go_at_call 25; refine Calls.mono (KA.out _) ?_; rintro e w' ⟨rfl, hw⟩; obtain rfl := hw.symm; clear hw) | (at_builtin; rw [← HW5.out]; refine (show True → _ from ?_) trivial))
      intro _
      refine wpList_snoc w5 (by rfl) _ _ 23 (by rfl) w4.heap.size 52 i0 (.agg zcN.toArray) 3 40 Try.underlying23 hi hz0 hz1 hz2 rfl (by decide) v k _ _ (by rfl) (HR.out.2.1.below b5) ⟨wr.heap.size, 0, none⟩ 1 [.int .i64 (k : Int), .int .i64 f, .slice none 0 0] (by rfl) rfl ?_ (by simp [Value.oneCell']) (ndD (nd0 f k)) (fun _ _ => False) ?_ (fun _ _ _ h => h.elim) (fun _ _ _ _ _ h => h.elim) (by have := HM.out; unfold maxLen; omega) (by have := HM.out; omega) ?_ ?_
      · rw [HW5.out]
        exact World.news_of_block (cs := #[.int .i64 (k : Int), .int .i64 f, .slice none 0 0]) (t := 52) (fr := (0, 0)) (Row.new wr _ _)
      · intro q hq
        refine (ow_node (d := nd0 f k) (F := fun _ => False) (Ow.nil _ _ _ _ _ _) q hq).mono fun x hx => hx.2
      · have := b5.size
        have := HVl.out.2.2.2
        omega
      intro g c w6 O6 b6 _
      have R6 := (HR.out.1.below b5 lV).below b6 HVl.out.1
      have z1 := R6.cell 1
      have f1 := R6.free 1
      simp at z1
      obtain ⟨w7, HW7⟩ : ∃ x, Hid (x = w6.setCell ⟨V, 1, none⟩ (.slice (some ⟨g, 0, none⟩) (k + 1) c)) := ⟨_, rfl⟩
      have HR7 : Hid (Row w7 V 26 #[.int .i64 f, .slice (some ⟨g, 0, none⟩) (k + 1) c, .slice (some ⟨g2, 0, none⟩) n c2, .slice none 0 0] ∧ Ow w7 w4.heap.size (ndsD (k + 1) (nd0 f)) (.slice (some ⟨g, 0, none⟩) (k + 1) c) (fun x => w4.heap.size ≤ x) ∧ Below V w3 w7) := by
        have hv4 := HVl.out.2.2.2
        have hs5 := b5.size
        rw [HW7.out]
        refine ⟨R6.set 1 _, ?_, Below.setCell ((HR.out.2.2.trans ⟨b5.os, b5.tape, b5.output, b5.size, fun j hj => b5.block j (by omega)⟩).trans ⟨b6.os, b6.tape, b6.output, b6.size, fun j hj => b6.block j (by omega)⟩) (Nat.le_refl _) _⟩
        have o7 : Ow w6 w4.heap.size (ndsD (k + 1) (nd0 f)) (.slice (some ⟨g, 0, none⟩) (k + 1) c) (fun x => w4.heap.size ≤ x) := (O6.mono (fun x hx => by
          rcases hx.2 with (h | ⟨_, _, h⟩) | h
          · exact h
          · exact h.elim
          · show w4.heap.size ≤ x; omega)).congr (fun i q _ _ => by
            by_cases e : i = k
            · subst e; simp
            · simp [e])
        exact o7.apart 1 _ (fun h => by have h' : w4.heap.size ≤ V := h; omega)
      clear R6 O6 b6 b5 lV y1 HR
      have h1 := HLT.out
      have h2 : m ≤ 1048576 := by have := HM.out; omega
      go_wp2
      rw [← HW7.out]
      go_roundw
      case rel => exact ⟨k + 1, _, by omega, by go_num, HR7⟩
      case measure => simp [intOf]; omega
    · obtain rfl : k = m := by omega
      obtain ⟨av, cv, rfl⟩ : ∃ av cv, v = .slice av k cv := by
        obtain ⟨a', cap', c', G', e', _⟩ := HR.out.2.1
        exact ⟨a', cap', e'⟩
      have RDr : Hid (Row wr D 26 #[.int .i64 0, .slice none 0 0, .slice none 0 0, .slice none 0 0]) := (RD.out.below KB3.out RD.out.lt).below HR.out.2.2 HVl.out.2.1
      obtain ⟨w8, HW8⟩ : ∃ x, Hid (x = wr.setRow D #[.int .i64 f, .slice av k cv, .slice (some ⟨g2, 0, none⟩) n c2, .slice none 0 0]) := ⟨_, rfl⟩
      have ZR : Hid (Row w8 D 26 #[.int .i64 f, .slice av k cv, .slice (some ⟨g2, 0, none⟩) n c2, .slice none 0 0]) := by show Row _ _ _ _; rw [HW8.out]; exact RDr.out.row
      have hw3 : Below w.heap.size w wr := (below2 KB0.out KB3.out).trans ⟨HR.out.2.2.os, HR.out.2.2.tape, HR.out.2.2.output, HR.out.2.2.size, fun j hj => HR.out.2.2.block j (by have := KB0.out.size; have := HVl.out.2.2.1; omega)⟩
      have ZB : Hid (Below w.heap.size w w8) := by show Below _ _ _; rw [HW8.out]; exact belowSetRow hw3 HDw.out _
      have ZO : Hid (Ow w8 w.heap.size (ndsD k (nd0 f)) (.slice av k cv) (fun _ => True)) := by
        have h1 : Ow w8 w4.heap.size (ndsD k (nd0 f)) (.slice av k cv) (fun x => w4.heap.size ≤ x) := by
          rw [HW8.out]
          exact HR.out.2.1.frame fun x hx _ => setRow_other _ _ _ _ (fun e => by have h' : w4.heap.size ≤ x := hx; have := HVl.out.2.1; have := HVl.out.1; omega)
        exact (h1.base (by have := KB0.out.size; have := HVl.out; omega)).mono fun _ _ => trivial
      have ZI : Hid (IntsAt w8 (some ⟨g2, 0, none⟩) n zs) := by
        have h1 := KO3.out.below (HV.out ▸ HR.out.2.2)
        have h2 : Ow w8 w1.heap.size (inD zs) (.slice (some ⟨g2, 0, none⟩) zs.length c2) (fun x => x = g2) := by
          rw [HW8.out]
          exact h1.frame fun x hx _ => setRow_other _ _ _ _ (fun e => by have h' : x = g2 := hx; have := HG2.out; omega)
        have h3 := rd_ints.1 h2.rd
        rw [HN.out] at h3
        exact h3
      clear hw3
      go_wp2_with (first | (go_at_call 25; refine Calls.mono (KA.out _) ?_; rintro e w' ⟨rfl, hw⟩; obtain rfl := hw.symm; clear hw) | (refine wpList_load_row (by rfl) 26 _ (by rfl) V (by rfl) 26 #[.int .i64 f, .slice av k cv, .slice (some ⟨g2, 0, none⟩) n c2, .slice none 0 0] (0, 0) _ ?_ Try.underlying26 (by rfl) Try.infoNt ?_; exact HR.out.1) | (refine wpList_store_row (by rfl) 26 _ _ (by rfl) D #[.int .i64 f, .slice av k cv, .slice (some ⟨g2, 0, none⟩) n c2, .slice none 0 0] (by rfl) (by rfl) 26 #[.int .i64 0, .slice none 0 0, .slice none 0 0, .slice none 0 0] ?_ Try.infoNt rfl (by simp [Value.oneCell']) ?_; exact RDr.out; rw [← HW8.out]))
      refine bodyPost_ret (v := .tuple #[ntV f (.slice av k cv) (.slice (some ⟨g2, 0, none⟩) n c2) (.slice none 0 0), .bool true]) (by
        have p0 := ZR.out.cell 0
        have p1 := ZR.out.cell 1
        have p2 := ZR.out.cell 2
        have p3 := ZR.out.cell 3
        simp at p0 p1 p2 p3
        simp [results, Try.results12, go_sem, p0, p1, p2, p3]) rfl ⟨_, _, _, rfl, ZO.out, ZI.out, Nat.le_of_lt (Nat.lt_of_le_of_lt HDw.out HG2.out), ZB.out⟩
end Go.Proofs.Ytpomffkpjldloaa
