import Derived.Test.YtihklfkhjpnjkaaGreatDoorK39
import Derived.Test.YtihklfkhjpnjkaaGreatDoorK40
import Derived.Test.YtihklfkhjpnjkaaGreatDoorK38
import Derived.Test.YtihklfkhjpnjkaaGreatDoorK20
import Derived.Test.YtihklfkhjpnjkaaGreatDoorK10
import Derived.Lib.QuietBelow
import Derived.BigQuiet
set_option maxHeartbeats 8000000
set_option maxRecDepth 2000
namespace Go.Proofs.YtihklfkhjpnjkaaGreatDoor
open Go.ChangeShapes Go.WideShapes Go.ChangeAt Go.RowKit Go.Sort
theorem sum_ok {p : Pc} (h : okQ p = true) : p.r.size + p.b.size + (p.m + tot (fun j => (p.S j).size) p.m) ≤ 1048576 := by
 obtain ⟨⟨_, _, _, _, hb⟩, _, _, hr, hm, hS⟩ := okP_parts (show okP p.r p.k p.n p.i p.b p.m p.S = true from h)
 have key : ∀ c, c ≤ p.m → tot (fun j => (p.S j).size) c ≤ c * 16 := fun c => by
  induction c with
  | zero => intro _; exact Nat.le_refl _
  | succ c ih =>
   intro hc
   have a1 := ih (by omega)
   have a2 := hS c (by omega)
   show tot _ c + (p.S c).size ≤ _
   omega
 have h2 := key p.m (Nat.le_refl _)
 have h3 : p.m * 16 ≤ 6 * 16 := Nat.mul_le_mul_right _ hm
 omega
theorem small_max {q : Pc} (h : PcS q) : ∀ i, i < q.m → (q.S i).size ≤ maxLen := fun i hi => by have := h.s i hi; unfold maxLen; omega
theorem ok_max {p : Pc} (h : okQ p = true) : ∀ i, i < p.m → (p.S i).size ≤ maxLen := fun i hi => by
 have := (okP_parts (show okP p.r p.k p.n p.i p.b p.m p.S = true from h)).2.2.2.2.2 i hi
 unfold maxLen
 omega
theorem walk_FnPieceText (a0 : Option Addr) (len0 cap0 : Nat) (z0 : List Int) (w : World) (w0 : IsRow .u8 w a0 len0 cap0 z0) (hN : NumW w) (hE : ErrT w) (hT : TabOk w) :
  Calls Tryz.prog 4 #[.slice a0 len0 cap0] w fun e w' => e = .returned (.bool true) ∧ Below w.heap.size w w' := by
 by_cases h0 : 1048576 < len0
 ·clear w0
  have h0' : (1048576 : Int) < (len0 : Int) := by omega
  go_enter Tryz.func4, Tryz.ntmps4
  go_wp2_with (go_at_call 6; refine (big_any _ _ _ _).mono ?_; rintro e w' ⟨rfl, rfl⟩)
  go_ret
  exact ⟨rfl, Below.refl _ _⟩
 have hc := w0.code (by omega)
 have KI : Hid (∀ u W, u.size ≤ 1048576 → Below w.heap.size w W → Calls Tryz.prog 14 #[.string u] W fun e w' => RdA u W w' e ∧ Below W.heap.size W w') := fun u W hu hW => readPiece_any u W hu (hN.below hW) (hE.below hW) (hT.below hW)
 have KTb : Hid (∀ W, Below w.heap.size w W → TabOk W) := fun W hW => hT.below hW
 clear w0 hN hE hT
 have h0' : ¬ (1048576 : Int) < (len0 : Int) := by omega
 go_enter Tryz.func4, Tryz.ntmps4
 go_wp2_with fail
 refine (big_any _ _ _ _).mono ?_
 rintro e w' ⟨rfl, hw⟩
 obtain rfl := hw.symm
 clear hw
 go_wp2_with fail
 refine (drawReadPiece_any _ _ _ _ hc).mono ?_
 rintro e v1 ⟨u, hu, rfl, b1⟩
 have hu' : u.size ≤ 1048576 := by omega
 have B1 : Hid (Below w.heap.size w v1) := b1
 have HC : Hid (∀ W, Below w.heap.size w W → CodeAt W a0 len0) := fun W hW => hc.below hW
 have K1 : Hid _ := KI.out u v1 hu' b1
 clear hc h0 h0' b1
 go_wp2_with fail
 refine Calls.mono K1.out ?_
 rintro e v2 ⟨⟨p, c, aI, cI, rfl, OI, hRd⟩, b2⟩
 have HRd : Hid (RdS u p c) := hRd
 obtain ⟨S2, HS2⟩ : ∃ x, Hid (x = v2.heap.size) := ⟨_, rfl⟩
 obtain ⟨v2', HV2⟩ : ∃ x, Hid (x = v2.alloc (.cells (pcC p.r p.k p.n p.i p.b (.slice aI p.m cI)) 33)) := ⟨_, rfl⟩
 have b22 : Below v2.heap.size v2 v2' := by rw [HV2.out]; exact (Below.refl _ _).alloc (Nat.le_refl _) _
 have R2 : Hid (Row v2' S2 33 (pcC p.r p.k p.n p.i p.b (.slice aI p.m cI))) := by show Row _ _ _ _; rw [HV2.out, HS2.out]; exact Row.new v2 _ _
 have T2 : Hid (TxtAt v2' aI p.m p.S) := (OwnT.at OI).below b22
 have B2 : Hid (Below w.heap.size w v2') := below2 B1.out (below2 b2 b22)
 have K2 : Hid _ := sReadPiece_any u v2' hu'
 clear hRd b2 b22 K1 OI
 go_wp2_with fail
 rw [← HV2.out, ← HS2.out]
 refine Calls.mono K2.out ?_
 rintro e v3 ⟨⟨p', c', aS, cS, rfl, OS, hRd'⟩, b3⟩
 obtain ⟨ecc, _⟩ := RdS.one HRd.out hRd'
 obtain rfl := ecc
 obtain ⟨v3', HV3⟩ : ∃ x, Hid (x = v3.alloc (.cells (pcC p'.r p'.k p'.n p'.i p'.b (.slice aS p'.m cS)) 33)) := ⟨_, rfl⟩
 have b33 : Below v3.heap.size v3 v3' := by rw [HV3.out]; exact (Below.refl _ _).alloc (Nat.le_refl _) _
 have D3 : Hid (Below v2'.heap.size v2' v3') := below2 b3 b33
 have B3 : Hid (Below w.heap.size w v3') := below2 B2.out D3.out
 have hc3 := HC.out v3' B3.out
 clear hRd' b3 b33 K2 OS HC
 go_wp2_with fail
 rw [← HV3.out]
 refine (drawPieceOk_any _ _ _ _ hc3).mono ?_
 rintro e v4 ⟨q, aq, cq, rfl, hq, Tq, b4⟩
 obtain ⟨S4, HS4⟩ : ∃ x, Hid (x = v4.heap.size) := ⟨_, rfl⟩
 obtain ⟨v4', HV4⟩ : ∃ x, Hid (x = v4.alloc (.cells (pcC q.r q.k q.n q.i q.b (.slice aq q.m cq)) 33)) := ⟨_, rfl⟩
 have b44 : Below v4.heap.size v4 v4' := by rw [HV4.out]; exact (Below.refl _ _).alloc (Nat.le_refl _) _
 have R4 : Hid (Row v4' S4 33 (pcC q.r q.k q.n q.i q.b (.slice aq q.m cq))) := by show Row _ _ _ _; rw [HV4.out, HS4.out]; exact Row.new v4 _ _
 have T4 : Hid (TxtAt v4' aq q.m q.S) := Tq.below b44
 have D4 : Hid (Below v2'.heap.size v2' v4') := below2 D3.out (below2 b4 b44)
 have B4 : Hid (Below w.heap.size w v4') := below2 B2.out D4.out
 have HQ : Hid (PcS q) := hq
 have hqz := hq.z
 have hqm : q.m ≤ 1048576 := by have := hq.m; omega
 have KQt : Hid (∀ W, Below v4'.heap.size v4' W → Calls Tryz.prog 15 #[pcV q.r q.k q.n q.i q.b (.slice aq q.m cq)] W fun e w' => e = .returned (.string (txQ q)) ∧ Below W.heap.size W w') := fun W hW => pieceText_any q.r q.k q.n q.i q.b aq q.m cq q.S W (T4.out.below hW) (Nat.le_trans (sum_mid HQ.out) (by omega)) (by omega) (by omega) (by omega) (KTb.out W (below2 B4.out hW))
 have KQs : Hid (∀ W, Below v4'.heap.size v4' W → Calls Tryz.prog 22 #[pcV q.r q.k q.n q.i q.b (.slice aq q.m cq)] W fun e w' => e = .returned (.string (txQ q)) ∧ Below W.heap.size W w') := fun W hW => sPieceText_any q.r q.k q.n q.i q.b aq q.m cq q.S W (T4.out.below hW) (Nat.le_trans (sum_mid HQ.out) (by omega)) (by omega) (by omega) (by omega)
 have KQo : Hid (∀ W, Below v4'.heap.size v4' W → Calls Tryz.prog 13 #[pcV q.r q.k q.n q.i q.b (.slice aq q.m cq)] W fun e w' => e = .returned (.bool (okQ q)) ∧ Below W.heap.size W w') := fun W hW => pieceOk_any q.r q.k q.n q.i q.b aq q.m cq q.S W (T4.out.below hW) hqm (small_max HQ.out)
 have KQp : Hid (∀ W, Below v4'.heap.size v4' W → Calls Tryz.prog 23 #[pcV q.r q.k q.n q.i q.b (.slice aq q.m cq)] W fun e w' => e = .returned (.bool (okQ q)) ∧ Below W.heap.size W w') := fun W hW => sPieceOk_any q.r q.k q.n q.i q.b aq q.m cq q.S W (T4.out.below hW) hqm (small_max HQ.out)
 have HTs : Hid ((txQ q).size ≤ 1048576) := Nat.le_trans (text_mid hq) (by omega)
 have HOt : Hid (∀ p b, RdS (txQ q) p b → b = okQ q) := fun p b h => ok_of_text HQ.out h
 clear hq Tq b4 b44 hc3 hqz hqm HQ
 go_wp2_with (rw [← HV4.out, ← HS4.out]; refine wpList_load_row (by rfl) 33 _ (by rfl) S4 (by rfl) 33 (pcC q.r q.k q.n q.i q.b (.slice aq q.m cq)) (0, 0) _ ?_ Tryz.underlying33 (by rfl) Tryz.infoPc ?_; exact R4.out)
 refine Calls.mono (KQt.out v4' (Below.refl _ _)) ?_
 rintro e v5 ⟨rfl, b5⟩
 have D5 : Hid (Below v4'.heap.size v4' v5) := b5
 have R5 : Hid (Row v5 S4 33 (pcC q.r q.k q.n q.i q.b (.slice aq q.m cq))) := R4.out.below b5 R4.out.lt
 obtain ⟨tx, HTX⟩ : ∃ x, Hid (txQ q = x) := ⟨_, rfl⟩
 obtain ⟨ok, HOK⟩ : ∃ x, Hid (okQ q = x) := ⟨_, rfl⟩
 rw [HTX.out] at KQs HTs HOt
 rw [HOK.out] at KQo KQp HOt
 rw [HTX.out]
 clear b5 KQt
 have y0 := R5.out.cell 0
 have y1 := R5.out.cell 1
 have y2 := R5.out.cell 2
 have y3 := R5.out.cell 3
 have y4 := R5.out.cell 4
 have y5 := R5.out.cell 5
 simp at y0 y1 y2 y3 y4 y5
 have X0 : ∀ d os, (grow (redrawn v5 d) os).cell? ⟨S4, 0, none⟩ = _ := fun d os => cell_regrown y0 d os
 have X1 : ∀ d os, (grow (redrawn v5 d) os).cell? ⟨S4, 1, none⟩ = _ := fun d os => cell_regrown y1 d os
 have X2 : ∀ d os, (grow (redrawn v5 d) os).cell? ⟨S4, 2, none⟩ = _ := fun d os => cell_regrown y2 d os
 have X3 : ∀ d os, (grow (redrawn v5 d) os).cell? ⟨S4, 3, none⟩ = _ := fun d os => cell_regrown y3 d os
 have X4 : ∀ d os, (grow (redrawn v5 d) os).cell? ⟨S4, 4, none⟩ = _ := fun d os => cell_regrown y4 d os
 have X5 : ∀ d os, (grow (redrawn v5 d) os).cell? ⟨S4, 5, none⟩ = _ := fun d os => cell_regrown y5 d os
 have HG5 : Hid (∀ d os, Below v4'.heap.size v4' (grow (redrawn v5 d) os)) := fun d os => below2 D5.out (below_regrown v5 d os)
 have N1 : ∀ d os, Calls Tryz.prog 22 #[pcV q.r q.k q.n q.i q.b (.slice aq q.m cq)] (grow (redrawn v5 d) os) fun e w' => e = .returned (.string tx) ∧ ∃ p : Regrown, w' = grow (redrawn v5 p.d) p.os := fun d os => Calls.regrown_of (KQs.out _ (HG5.out d os))
 have N2 : ∀ d os, Calls Tryz.prog 13 #[pcV q.r q.k q.n q.i q.b (.slice aq q.m cq)] (grow (redrawn v5 d) os) fun e w' => e = .returned (.bool ok) ∧ ∃ p : Regrown, w' = grow (redrawn v5 p.d) p.os := fun d os => Calls.regrown_of (KQo.out _ (HG5.out d os))
 have N3' : ∀ d os, Calls Tryz.prog 23 #[pcV q.r q.k q.n q.i q.b (.slice aq q.m cq)] (grow (redrawn v5 d) os) fun e w' => e = .returned (.bool ok) ∧ ∃ p : Regrown, w' = grow (redrawn v5 p.d) p.os := fun d os => Calls.regrown_of (KQp.out _ (HG5.out d os))
 have f1 : (tx.toList != tx.toList) = false := by simp
 have f2 : (c != c) = false := by simp
 have f3 : (ok != ok) = false := by simp
 clear y0 y1 y2 y3 y4 y5
 go_wp2_with fail
 refine wp_region_quiet_below (by kernel_rfl) (by kernel_rfl) ?_
 repeat (go_big_quiet_step (first | (with_reducible exact N1 _ _) | (with_reducible exact N2 _ _) | (with_reducible exact N3' _ _)))
 refine wpQuiet_nil ?_
 intro _ hw'
 obtain ⟨⟨dq, osq⟩, hw''⟩ := hw'
 subst hw''
 have D6 : Hid (Below v4'.heap.size v4' (grow (redrawn v5 dq) osq)) := HG5.out dq osq
 obtain ⟨v6, HV6⟩ : ∃ x, Hid (x = grow (redrawn v5 dq) osq) := ⟨_, rfl⟩
 rw [← HV6.out] at D6
 have K6 : Hid _ := KI.out tx v6 HTs.out (below2 B4.out D6.out)
 clear X0 X1 X2 X3 X4 X5 N1 N2 N3' HG5
 rw [← HV6.out]
 go_wp2_with fail
 refine Calls.mono K6.out ?_
 rintro e v7 ⟨⟨p7, c7, a7, cp7, rfl, O7, hRd7⟩, b7⟩
 obtain rfl := HOt.out p7 c7 hRd7
 obtain ⟨v7', HV7⟩ : ∃ x, Hid (x = v7.alloc (.cells (pcC p7.r p7.k p7.n p7.i p7.b (.slice a7 p7.m cp7)) 33)) := ⟨_, rfl⟩
 have b77 : Below v7.heap.size v7 v7' := by rw [HV7.out]; exact (Below.refl _ _).alloc (Nat.le_refl _) _
 have D7 : Hid (Below v4'.heap.size v4' v7') := below2 D6.out (below2 b7 b77)
 have R7 : Hid (Row v7' S4 33 (pcC q.r q.k q.n q.i q.b (.slice aq q.m cq))) := R4.out.below D7.out R4.out.lt
 have K7 : Hid _ := KQp.out v7' D7.out
 clear hRd7 b7 b77 O7 K6
 go_wp2_with (rw [← HV7.out]; refine wpList_load_row (by rfl) 33 _ (by rfl) S4 (by rfl) 33 (pcC q.r q.k q.n q.i q.b (.slice aq q.m cq)) (0, 0) _ ?_ Tryz.underlying33 (by rfl) Tryz.infoPc ?_; exact R7.out)
 refine Calls.mono K7.out ?_
 rintro e v8 ⟨rfl, b8⟩
 have D8 : Hid (Below v4'.heap.size v4' v8) := below2 D7.out b8
 have B8 : Hid (Below w.heap.size w v8) := below2 B4.out D8.out
 have E8 : Hid (Below v2'.heap.size v2' v8) := below2 D4.out D8.out
 have g3 : (c7 == c7) = true := by simp
 clear b8 K7
 cases c with
 | false =>
  go_wp2
  go_ret
  exact ⟨rfl, B8.out⟩
 | true =>
  have hok : okQ p = true ∧ txQ p = u := by
   rcases HRd.out with ⟨_, h1, h2⟩ | ⟨h1, _, _⟩
   ·exact ⟨h1, h2⟩
   ·cases h1
  have hpt := okP_parts (show okP p.r p.k p.n p.i p.b p.m p.S = true from hok.1)
  have KPt : Hid (Calls Tryz.prog 15 #[pcV p.r p.k p.n p.i p.b (.slice aI p.m cI)] v8 fun e w' => e = .returned (.string u) ∧ Below v8.heap.size v8 w') := by
   have h1 := pieceText_any p.r p.k p.n p.i p.b aI p.m cI p.S v8 (T2.out.below E8.out) (sum_ok hok.1) (by omega) (by omega) (by omega) (KTb.out v8 B8.out)
   have h2 : pieceT p.r p.k p.n p.i p.b p.m p.S = u := hok.2
   rw [h2] at h1
   exact h1
  have KPo : Hid (∀ W, Below v8.heap.size v8 W → Calls Tryz.prog 13 #[pcV p.r p.k p.n p.i p.b (.slice aI p.m cI)] W fun e w' => e = .returned (.bool true) ∧ Below W.heap.size W w') := fun W hW => by
   have h1 := pieceOk_any p.r p.k p.n p.i p.b aI p.m cI p.S W ((T2.out.below E8.out).below hW) (by omega) (ok_max hok.1)
   have h2 : okP p.r p.k p.n p.i p.b p.m p.S = true := hok.1
   rw [h2] at h1
   exact h1
  have R8 : Hid (Row v8 S2 33 (pcC p.r p.k p.n p.i p.b (.slice aI p.m cI))) := R2.out.below E8.out R2.out.lt
  clear hok hpt
  have x0 := R8.out.cell 0
  have x1 := R8.out.cell 1
  have x2 := R8.out.cell 2
  have x3 := R8.out.cell 3
  have x4 := R8.out.cell 4
  have x5 := R8.out.cell 5
  simp at x0 x1 x2 x3 x4 x5
  go_wp2_with fail
  refine Calls.mono KPt.out ?_
  rintro e v9 ⟨rfl, b9⟩
  have B9 : Hid (Below w.heap.size w v9) := below2 B8.out b9
  have R9 : Hid (Row v9 S2 33 (pcC p.r p.k p.n p.i p.b (.slice aI p.m cI))) := R8.out.below b9 R8.out.lt
  have K9 : Hid _ := KPo.out v9 b9
  have g4 : (u.toList == u.toList) = true := by simp
  clear b9 x0 x1 x2 x3 x4 x5
  have x0 := R9.out.cell 0
  have x1 := R9.out.cell 1
  have x2 := R9.out.cell 2
  have x3 := R9.out.cell 3
  have x4 := R9.out.cell 4
  have x5 := R9.out.cell 5
  simp at x0 x1 x2 x3 x4 x5
  go_wp2_with fail
  refine Calls.mono K9.out ?_
  rintro e v10 ⟨rfl, b10⟩
  have B10 : Hid (Below w.heap.size w v10) := below2 B9.out b10
  clear b10 x0 x1 x2 x3 x4 x5
  go_wp2
  go_ret
  exact ⟨rfl, B10.out⟩
end Go.Proofs.YtihklfkhjpnjkaaGreatDoor
