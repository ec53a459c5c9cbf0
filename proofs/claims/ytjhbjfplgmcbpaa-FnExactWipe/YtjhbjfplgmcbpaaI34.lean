/- A saying, copied, in the program and in the model. Conditions: texts and lists of at most 2^20. Written by mkcpsy.py. -/
import Derived.Test.YtjhbjfplgmcbpaaI30
import Derived.Test.YtjhbjfplgmcbpaaI29
namespace Go.Proofs.Ytjhbjfplgmcbpaa
set_option maxRecDepth 2000
open Go.ChangeShapes Go.WideShapes Go.ChangeAt Go.RowKit

/-- What can be cloned. -/
structure SyK (y : Sy) : Prop where
  r : y.r.size ≤ 1048576
  pr : y.p.r.size ≤ 1048576
  pb : y.p.b.size ≤ 1048576
  m : y.p.m ≤ 1048576
  tx : ∀ i, i < y.p.m → (y.p.S i).size ≤ 1048576
set_option maxHeartbeats 4000000 in
theorem copiedY_any (y : Sy) (a9 : Option Addr) (c9 : Nat) (w : World) (h9 : TxtAt w a9 y.p.m y.p.S) (hs : SyK y) :
    Calls Try.prog 43 #[syV y (.slice a9 y.p.m c9)] w fun e w' => ∃ g, e = .returned (syV y (.slice (some ⟨g, 0, none⟩) y.p.m y.p.m)) ∧ OwnT w' w.heap.size (some ⟨g, 0, none⟩) y.p.m y.p.m y.p.S ∧ Below w.heap.size w w' := by
  obtain ⟨A, HA⟩ : ∃ x, Hid (x = w.heap.size) := ⟨_, rfl⟩
  obtain ⟨D, HD⟩ : ∃ x, Hid (x = w.heap.size + 1) := ⟨_, rfl⟩
  obtain ⟨w0, HW0⟩ : ∃ x, Hid (x = (w.alloc (.cells (syC y (.slice a9 y.p.m c9)) 80)).alloc (.cells #[.int .i64 0, .int .i64 0, .int .i64 0, .string ⟨#[]⟩, .string ⟨#[]⟩, .int .i64 0, .int .i64 0, .int .i64 0, .string ⟨#[]⟩, .slice none 0 0] 80)) := ⟨_, rfl⟩
  have RA : Hid (Row w0 A 80 (syC y (.slice a9 y.p.m c9))) := by show Row _ _ _ _; rw [HW0.out, HA.out]; exact Row.alloc (Row.new w _ _) _
  have RD : Hid (Row w0 D 80 #[.int .i64 0, .int .i64 0, .int .i64 0, .string ⟨#[]⟩, .string ⟨#[]⟩, .int .i64 0, .int .i64 0, .int .i64 0, .string ⟨#[]⟩, .slice none 0 0]) := by
    show Row _ _ _ _
    rw [HW0.out, HD.out]
    have := Row.new (w.alloc (.cells (syC y (.slice a9 y.p.m c9)) 80)) #[.int .i64 0, .int .i64 0, .int .i64 0, .string ⟨#[]⟩, .string ⟨#[]⟩, .int .i64 0, .int .i64 0, .int .i64 0, .string ⟨#[]⟩, .slice none 0 0] 80
    simpa using this
  have hb0 : Below w.heap.size w w0 := by rw [HW0.out]; exact ((Below.refl _ _).alloc (Nat.le_refl _) _).alloc (by simp) _
  have KB0 : Hid (Below w.heap.size w w0) := hb0
  have hAD : Hid (A ≠ D ∧ w.heap.size ≤ A ∧ w.heap.size ≤ D) := ⟨by have := HA.out; have := HD.out; omega, by have := HA.out; omega, by have := HD.out; omega⟩
  have KCr : Hid (∀ W, Calls Try.prog 65 #[.string y.r] W fun e w' => e = .returned (.string y.r) ∧ Below W.heap.size W w') := fun W => clone_any y.r W hs.r
  have KCP : Hid (∀ W, Below w.heap.size w W → Calls Try.prog 66 #[pcV y.p.r y.p.k y.p.n y.p.i y.p.b (.slice a9 y.p.m c9)] W fun e w' => ∃ g, e = .returned (pcV y.p.r y.p.k y.p.n y.p.i y.p.b (.slice (some ⟨g, 0, none⟩) y.p.m y.p.m)) ∧ OwnT w' W.heap.size (some ⟨g, 0, none⟩) y.p.m y.p.m y.p.S ∧ Below W.heap.size W w') := fun W hW => copiedP_any _ _ _ _ _ a9 _ c9 _ W (h9.below hW) hs.m hs.pr hs.pb hs.tx
  clear h9 hb0 hs
  go_enter Try.func43, Try.ntmps43
  go_wp2_with fail
  rw [← HW0.out, ← HD.out, ← HA.out]
  go_cut [] from 3 to 10 (fun wx => Hid (∃ g6, Row wx A 80 (syC y (.slice (some ⟨g6, 0, none⟩) y.p.m y.p.m)) ∧ Row wx D 80 #[.int .i64 0, .int .i64 0, .int .i64 0, .string ⟨#[]⟩, .string ⟨#[]⟩, .int .i64 0, .int .i64 0, .int .i64 0, .string ⟨#[]⟩, .slice none 0 0] ∧ OwnT wx w0.heap.size (some ⟨g6, 0, none⟩) y.p.m y.p.m y.p.S ∧ Below w.heap.size w wx))
  case first =>
    have lA := RA.out.lt
    have lD := RD.out.lt
    have q0 := RA.out.cell 0
    have q1 := RA.out.cell 1
    have q2 := RA.out.cell 2
    have q3 := RA.out.cell 3
    have q4 := RA.out.cell 4
    have q5 := RA.out.cell 5
    have q6 := RA.out.cell 6
    have q7 := RA.out.cell 7
    have q8 := RA.out.cell 8
    have q9 := RA.out.cell 9
    simp at q0 q1 q2 q3 q4 q5 q6 q7 q8 q9
    have KTW : Hid (∀ W, Below w0.heap.size w0 W → Row W A 80 (syC y (.slice a9 y.p.m c9)) ∧ Row W D 80 #[.int .i64 0, .int .i64 0, .int .i64 0, .string ⟨#[]⟩, .string ⟨#[]⟩, .int .i64 0, .int .i64 0, .int .i64 0, .string ⟨#[]⟩, .slice none 0 0] ∧ Below w.heap.size w W ∧ w0.heap.size ≤ W.heap.size) := fun W hW => ⟨RA.out.below hW lA, RD.out.below hW lD, below2 KB0.out hW, hW.size⟩
    have KST : Hid (∀ W, Row W A 80 (syC y (.slice a9 y.p.m c9)) ∧ Row W D 80 #[.int .i64 0, .int .i64 0, .int .i64 0, .string ⟨#[]⟩, .string ⟨#[]⟩, .int .i64 0, .int .i64 0, .int .i64 0, .string ⟨#[]⟩, .slice none 0 0] ∧ Below w.heap.size w W ∧ w0.heap.size ≤ W.heap.size → Row (W.setCell ⟨A, 3, none⟩ (.string y.r)) A 80 (syC y (.slice a9 y.p.m c9)) ∧ Row (W.setCell ⟨A, 3, none⟩ (.string y.r)) D 80 #[.int .i64 0, .int .i64 0, .int .i64 0, .string ⟨#[]⟩, .string ⟨#[]⟩, .int .i64 0, .int .i64 0, .int .i64 0, .string ⟨#[]⟩, .slice none 0 0] ∧ Below w.heap.size w (W.setCell ⟨A, 3, none⟩ (.string y.r)) ∧ w0.heap.size ≤ (W.setCell ⟨A, 3, none⟩ (.string y.r)).heap.size) := fun W hW => ⟨hW.1.set 3 _, hW.2.1.other 3 _ (Ne.symm hAD.out.1), hW.2.2.1.setCell hAD.out.2.1 _, by simpa using hW.2.2.2⟩
    have KNX : Hid (∀ W W' g, Row W A 80 (syC y (.slice a9 y.p.m c9)) ∧ Row W D 80 #[.int .i64 0, .int .i64 0, .int .i64 0, .string ⟨#[]⟩, .string ⟨#[]⟩, .int .i64 0, .int .i64 0, .int .i64 0, .string ⟨#[]⟩, .slice none 0 0] ∧ Below w.heap.size w W ∧ w0.heap.size ≤ W.heap.size → OwnT W' W.heap.size (some ⟨g, 0, none⟩) y.p.m y.p.m y.p.S → Below W.heap.size W W' → Row W' A 80 (syC y (.slice a9 y.p.m c9)) ∧ Row W' D 80 #[.int .i64 0, .int .i64 0, .int .i64 0, .string ⟨#[]⟩, .string ⟨#[]⟩, .int .i64 0, .int .i64 0, .int .i64 0, .string ⟨#[]⟩, .slice none 0 0] ∧ OwnT W' w0.heap.size (some ⟨g, 0, none⟩) y.p.m y.p.m y.p.S ∧ Below w.heap.size w W') := fun W W' g hW hO hB => ⟨hW.1.below hB hW.1.lt, hW.2.1.below hB hW.2.1.lt, OwnT.base hO hW.2.2.2, below2 hW.2.2.1 hB⟩
    have KQ : Hid (∀ W, Row W A 80 (syC y (.slice a9 y.p.m c9)) → W.cell? ⟨A, 0, none⟩ = some (.int .i64 y.k) ∧ W.cell? ⟨A, 1, none⟩ = some (.int .i64 y.f) ∧ W.cell? ⟨A, 2, none⟩ = some (.int .i64 y.t) ∧ W.cell? ⟨A, 3, none⟩ = some (.string y.r) ∧ W.cell? ⟨A, 4, none⟩ = some (.string y.p.r) ∧ W.cell? ⟨A, 5, none⟩ = some (.int .i64 y.p.k) ∧ W.cell? ⟨A, 6, none⟩ = some (.int .i64 y.p.n) ∧ W.cell? ⟨A, 7, none⟩ = some (.int .i64 y.p.i) ∧ W.cell? ⟨A, 8, none⟩ = some (.string y.p.b) ∧ W.cell? ⟨A, 9, none⟩ = some (.slice a9 y.p.m c9)) := fun W hW => by
      have z0 := hW.cell 0
      have z1 := hW.cell 1
      have z2 := hW.cell 2
      have z3 := hW.cell 3
      have z4 := hW.cell 4
      have z5 := hW.cell 5
      have z6 := hW.cell 6
      have z7 := hW.cell 7
      have z8 := hW.cell 8
      have z9 := hW.cell 9
      simp at z0 z1 z2 z3 z4 z5 z6 z7 z8 z9
      exact ⟨z0, z1, z2, z3, z4, z5, z6, z7, z8, z9⟩
    have KF : Hid (∀ W, Row W A 80 (syC y (.slice a9 y.p.m c9)) → W.frozen? ⟨A, 3, none⟩ = false ∧ W.frozen? ⟨A, 4, none⟩ = false ∧ W.frozen? ⟨A, 5, none⟩ = false ∧ W.frozen? ⟨A, 6, none⟩ = false ∧ W.frozen? ⟨A, 7, none⟩ = false ∧ W.frozen? ⟨A, 8, none⟩ = false ∧ W.frozen? ⟨A, 9, none⟩ = false) := fun W hW => ⟨hW.free 3, hW.free 4, hW.free 5, hW.free 6, hW.free 7, hW.free 8, hW.free 9⟩
    go_region_with ((first | (go_at_call 66; refine Calls.mono (KCP.out _ (by first | exact K7.out.2.2.1 | exact (KST.out _ K7.out).2.2.1)) ?_; rintro e w8 ⟨g6, rfl, O8, b8⟩; have K8 : Hid (Row w8 A 80 (syC y (.slice a9 y.p.m c9)) ∧ Row w8 D 80 #[.int .i64 0, .int .i64 0, .int .i64 0, .string ⟨#[]⟩, .string ⟨#[]⟩, .int .i64 0, .int .i64 0, .int .i64 0, .string ⟨#[]⟩, .slice none 0 0] ∧ OwnT w8 w0.heap.size (some ⟨g6, 0, none⟩) y.p.m y.p.m y.p.S ∧ Below w.heap.size w w8) := (by first | exact KNX.out _ _ _ K7.out O8 b8 | exact KNX.out _ _ _ (KST.out _ K7.out) O8 b8); clear O8 b8; obtain ⟨t0, t1, t2, t3, t4, t5, t6, t7, t8, t9⟩ := KQ.out _ K8.out.1; obtain ⟨gf3, gf4, gf5, gf6, gf7, gf8, gf9⟩ := KF.out _ K8.out.1) | (go_at_call 65; refine Calls.mono (KCr.out _) ?_; rintro e w7 ⟨rfl, b7'⟩; have b07 := below_of_drew b7'; clear b7'; have K7 : Hid _ := KTW.out _ b07; clear b07; obtain ⟨p0, p1, p2, p3, p4, p5, p6, p7, p8, p9⟩ := KQ.out _ K7.out.1; obtain ⟨pf3, pf4, pf5, pf6, pf7, pf8, pf9⟩ := KF.out _ K7.out.1)))
    all_goals
      have lA8 := lA
      go_wp2_with fail
      go_meet
      first
        | exact ⟨g6, (((((((K8.out.1.set 3 _).set 4 _).set 5 _).set 6 _).set 7 _).set 8 _).set 9 _), (((((((K8.out.2.1.other 3 _ (Ne.symm hAD.out.1)).other 4 _ (Ne.symm hAD.out.1)).other 5 _ (Ne.symm hAD.out.1)).other 6 _ (Ne.symm hAD.out.1)).other 7 _ (Ne.symm hAD.out.1)).other 8 _ (Ne.symm hAD.out.1)).other 9 _ (Ne.symm hAD.out.1)), (((((((K8.out.2.2.1.setFar lA8).setFar lA8).setFar lA8).setFar lA8).setFar lA8).setFar lA8).setFar lA8), (((((((K8.out.2.2.2.setCell hAD.out.2.1 _).setCell hAD.out.2.1 _).setCell hAD.out.2.1 _).setCell hAD.out.2.1 _).setCell hAD.out.2.1 _).setCell hAD.out.2.1 _).setCell hAD.out.2.1 _)⟩
        | exact ⟨g6, ((((((K8.out.1.set 4 _).set 5 _).set 6 _).set 7 _).set 8 _).set 9 _), ((((((K8.out.2.1.other 4 _ (Ne.symm hAD.out.1)).other 5 _ (Ne.symm hAD.out.1)).other 6 _ (Ne.symm hAD.out.1)).other 7 _ (Ne.symm hAD.out.1)).other 8 _ (Ne.symm hAD.out.1)).other 9 _ (Ne.symm hAD.out.1)), ((((((K8.out.2.2.1.setFar lA8).setFar lA8).setFar lA8).setFar lA8).setFar lA8).setFar lA8), ((((((K8.out.2.2.2.setCell hAD.out.2.1 _).setCell hAD.out.2.1 _).setCell hAD.out.2.1 _).setCell hAD.out.2.1 _).setCell hAD.out.2.1 _).setCell hAD.out.2.1 _)⟩
  obtain ⟨g6, RAc, RDc, Oc, Bc⟩ := hcut.out
  clear hcut KCr KCP
  have LC : Hid (D < w0.heap.size) := RD.out.lt
  have HA6 : Hid (Row wc A 80 (syC y (.slice (some ⟨g6, 0, none⟩) y.p.m y.p.m))) := RAc
  have HD6 : Hid (Row wc D 80 #[.int .i64 0, .int .i64 0, .int .i64 0, .string ⟨#[]⟩, .string ⟨#[]⟩, .int .i64 0, .int .i64 0, .int .i64 0, .string ⟨#[]⟩, .slice none 0 0]) := RDc
  obtain ⟨w7, HW7⟩ : ∃ x, Hid (x = wc.setRow D (syC y (.slice (some ⟨g6, 0, none⟩) y.p.m y.p.m))) := ⟨_, rfl⟩
  have ZR : Hid (Row w7 D 80 (syC y (.slice (some ⟨g6, 0, none⟩) y.p.m y.p.m))) := by show Row _ _ _ _; rw [HW7.out]; exact RDc.row
  have ZB : Hid (Below w.heap.size w w7) := by show Below _ _ _; rw [HW7.out]; exact belowSetRow Bc hAD.out.2.2 _
  have l6 := World.ownsRow.lt Oc g6 rfl
  have Z6 : Hid (OwnT w7 w.heap.size (some ⟨g6, 0, none⟩) y.p.m y.p.m y.p.S) := by
    show OwnT _ _ _ _ _ _
    rw [HW7.out]
    refine own_kept (OwnT.base Oc KB0.out.size) (grown_row _ _ _) (fun x e => ?_)
    cases e
    show g6 ≠ D
    have := l6.1
    have := LC.out
    omega
  clear RAc RDc Oc Bc l6
  go_wp2_with (first | (refine wpList_load_row (by rfl) 80 _ (by rfl) A (by rfl) 80 (syC y (.slice (some ⟨g6, 0, none⟩) y.p.m y.p.m)) (0, 0) _ ?_ Try.underlying80 (by rfl) Try.infoSy2 ?_; exact HA6.out) | (refine wpList_store_row (by rfl) 80 _ _ (by rfl) D (syC y (.slice (some ⟨g6, 0, none⟩) y.p.m y.p.m)) (by rfl) (by rfl) 80 #[.int .i64 0, .int .i64 0, .int .i64 0, .string ⟨#[]⟩, .string ⟨#[]⟩, .int .i64 0, .int .i64 0, .int .i64 0, .string ⟨#[]⟩, .slice none 0 0] ?_ Try.infoSy2 rfl (by simp [Value.oneCell']) ?_; exact HD6.out; rw [← HW7.out]))
  exact bodyPost_ret (v := syV y (.slice (some ⟨g6, 0, none⟩) y.p.m y.p.m)) (results_cell_row Try.results43 _ _ D 80 _ (0, 0) _ (by rfl) ZR.out Try.underlying80 (by rfl) Try.infoSy2) rfl ⟨g6, rfl, Z6.out, ZB.out⟩
set_option maxHeartbeats 4000000 in
theorem sCopyY_any (y : Sy) (a9 : Option Addr) (c9 : Nat) (w : World) (h9 : TxtAt w a9 y.p.m y.p.S) (hm : y.p.m ≤ 1048576) :
    Calls Try.prog 39 #[syV y (.slice a9 y.p.m c9)] w fun e w' => ∃ g c, e = .returned (syV y (.slice (some ⟨g, 0, none⟩) y.p.m c)) ∧ OwnT w' w.heap.size (some ⟨g, 0, none⟩) y.p.m c y.p.S ∧ Below w.heap.size w w' := by
  obtain ⟨A, HA⟩ : ∃ x, Hid (x = w.heap.size) := ⟨_, rfl⟩
  obtain ⟨D, HD⟩ : ∃ x, Hid (x = w.heap.size + 1) := ⟨_, rfl⟩
  obtain ⟨w0, HW0⟩ : ∃ x, Hid (x = (w.alloc (.cells (syC y (.slice a9 y.p.m c9)) 80)).alloc (.cells #[.int .i64 0, .int .i64 0, .int .i64 0, .string ⟨#[]⟩, .string ⟨#[]⟩, .int .i64 0, .int .i64 0, .int .i64 0, .string ⟨#[]⟩, .slice none 0 0] 80)) := ⟨_, rfl⟩
  have RA : Hid (Row w0 A 80 (syC y (.slice a9 y.p.m c9))) := by show Row _ _ _ _; rw [HW0.out, HA.out]; exact Row.alloc (Row.new w _ _) _
  have RD : Hid (Row w0 D 80 #[.int .i64 0, .int .i64 0, .int .i64 0, .string ⟨#[]⟩, .string ⟨#[]⟩, .int .i64 0, .int .i64 0, .int .i64 0, .string ⟨#[]⟩, .slice none 0 0]) := by
    show Row _ _ _ _
    rw [HW0.out, HD.out]
    have := Row.new (w.alloc (.cells (syC y (.slice a9 y.p.m c9)) 80)) #[.int .i64 0, .int .i64 0, .int .i64 0, .string ⟨#[]⟩, .string ⟨#[]⟩, .int .i64 0, .int .i64 0, .int .i64 0, .string ⟨#[]⟩, .slice none 0 0] 80
    simpa using this
  have hb0 : Below w.heap.size w w0 := by rw [HW0.out]; exact ((Below.refl _ _).alloc (Nat.le_refl _) _).alloc (by simp) _
  have KB0 : Hid (Below w.heap.size w w0) := hb0
  have hAD : Hid (A ≠ D ∧ w.heap.size ≤ A ∧ w.heap.size ≤ D) := ⟨by have := HA.out; have := HD.out; omega, by have := HA.out; omega, by have := HD.out; omega⟩
  have KCP : Hid _ := sCopyP_any y.p.r y.p.k y.p.n y.p.i y.p.b a9 y.p.m c9 y.p.S w0 (h9.below hb0) hm
  have q4 := RA.out.cell 4
  have q5 := RA.out.cell 5
  have q6 := RA.out.cell 6
  have q7 := RA.out.cell 7
  have q8 := RA.out.cell 8
  have q9 := RA.out.cell 9
  simp at q4 q5 q6 q7 q8 q9
  clear h9 hb0
  go_enter Try.func39, Try.ntmps39
  go_wp2_with fail
  rw [← HW0.out, ← HD.out, ← HA.out]
  go_wp2_with fail
  refine Calls.mono KCP.out ?_
  rintro e w1 ⟨g6, c6, rfl, O1, b1⟩
  have RA1 : Hid (Row w1 A 80 (syC y (.slice a9 y.p.m c9))) := RA.out.below b1 RA.out.lt
  have RD1 : Row w1 D 80 #[.int .i64 0, .int .i64 0, .int .i64 0, .string ⟨#[]⟩, .string ⟨#[]⟩, .int .i64 0, .int .i64 0, .int .i64 0, .string ⟨#[]⟩, .slice none 0 0] := RD.out.below b1 RD.out.lt
  obtain ⟨w2, HW2⟩ : ∃ x, Hid (x = w1.setCells A 4 [.string y.p.r, .int .i64 y.p.k, .int .i64 y.p.n, .int .i64 y.p.i, .string y.p.b, .slice (some ⟨g6, 0, none⟩) y.p.m c6]) := ⟨_, rfl⟩
  have l6 := World.ownsRow.lt O1 g6 rfl
  have lA := RA.out.lt
  have lD := RD.out.lt
  have RA2 : Hid (Row w2 A 80 (syC y (.slice (some ⟨g6, 0, none⟩) y.p.m c6))) := by
    show Row _ _ _ _
    rw [HW2.out]
    simp only [World.setCells]
    exact (((((RA1.out.set 4 _).set 5 _).set 6 _).set 7 _).set 8 _).set 9 _
  have RD2 : Hid (Row w2 D 80 #[.int .i64 0, .int .i64 0, .int .i64 0, .string ⟨#[]⟩, .string ⟨#[]⟩, .int .i64 0, .int .i64 0, .int .i64 0, .string ⟨#[]⟩, .slice none 0 0]) := by
    show Row _ _ _ _
    rw [HW2.out]
    exact (heap_setCells_other A _ _ w1 D (Ne.symm hAD.out.1)).trans RD1
  have O2 : OwnT w2 w0.heap.size (some ⟨g6, 0, none⟩) y.p.m c6 y.p.S := by
    rw [HW2.out]
    simp only [World.setCells]
    exact (((((O1.setFar lA).setFar lA).setFar lA).setFar lA).setFar lA).setFar lA
  have B2 : Below w.heap.size w w2 := by rw [HW2.out]; exact below_setCells (below2 KB0.out b1) hAD.out.2.1 _ _
  have TH : Hid (w1.there A 4 6) := fun j hj => ⟨by have := RA1.out.cell (4 + j); rw [this]; simp; omega, RA1.out.free (4 + j)⟩
  obtain ⟨w3, HW3⟩ : ∃ x, Hid (x = w2.setRow D (syC y (.slice (some ⟨g6, 0, none⟩) y.p.m c6))) := ⟨_, rfl⟩
  have ZR : Hid (Row w3 D 80 (syC y (.slice (some ⟨g6, 0, none⟩) y.p.m c6))) := by show Row _ _ _ _; rw [HW3.out]; exact RD2.out.row
  have ZB : Hid (Below w.heap.size w w3) := by show Below _ _ _; rw [HW3.out]; exact belowSetRow B2 hAD.out.2.2 _
  have Z6 : Hid (OwnT w3 w.heap.size (some ⟨g6, 0, none⟩) y.p.m c6 y.p.S) := by
    show OwnT _ _ _ _ _ _
    rw [HW3.out]
    refine own_kept (OwnT.base O2 KB0.out.size) (grown_row _ _ _) (fun x e => ?_)
    cases e
    show g6 ≠ D
    have := l6.1
    omega
  clear O1 O2 b1 RD1 l6 lA lD B2 q4 q5 q6 q7 q8 q9
  go_wp2_with (first | (refine wpList_store_mid (by rfl) 58 _ _ (by rfl) A 4 #[.string y.p.r, .int .i64 y.p.k, .int .i64 y.p.n, .int .i64 y.p.i, .string y.p.b, .slice (some ⟨g6, 0, none⟩) y.p.m c6] (by rfl) (by rfl) ?_ (by kernel_rfl) (by simp [Value.oneCell']) ?_; exact TH.out; rw [← HW2.out]) | (refine wpList_load_row (by rfl) 80 _ (by rfl) A (by rfl) 80 (syC y (.slice (some ⟨g6, 0, none⟩) y.p.m c6)) (0, 0) _ ?_ Try.underlying80 (by rfl) Try.infoSy2 ?_; exact RA2.out) | (refine wpList_store_row (by rfl) 80 _ _ (by rfl) D (syC y (.slice (some ⟨g6, 0, none⟩) y.p.m c6)) (by rfl) (by rfl) 80 #[.int .i64 0, .int .i64 0, .int .i64 0, .string ⟨#[]⟩, .string ⟨#[]⟩, .int .i64 0, .int .i64 0, .int .i64 0, .string ⟨#[]⟩, .slice none 0 0] ?_ Try.infoSy2 rfl (by simp [Value.oneCell']) ?_; exact RD2.out; rw [← HW3.out]))
  exact bodyPost_ret (v := syV y (.slice (some ⟨g6, 0, none⟩) y.p.m c6)) (results_cell_row Try.results39 _ _ D 80 _ (0, 0) _ (by rfl) ZR.out Try.underlying80 (by rfl) Try.infoSy2) rfl ⟨g6, c6, rfl, Z6.out, ZB.out⟩
end Go.Proofs.Ytjhbjfplgmcbpaa
