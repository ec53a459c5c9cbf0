/- What was picked, made whole, in the program: completed. -/
import Derived.Test.YthnjhjgffkilcaaGreatDoorH40
import Derived.Test.YthnjhjgffkilcaaGreatDoorH33
import Derived.Test.YthnjhjgffkilcaaGreatDoorH39
import Derived.Test.YthnjhjgffkilcaaGreatDoorH8
import Derived.Test.YthnjhjgffkilcaaGreatDoorH37
namespace Go.Proofs.YthnjhjgffkilcaaGreatDoor
set_option maxRecDepth 2000
open Go.ChangeShapes Go.WideShapes Go.ChangeAt Go.RowKit

/-- The places and the bodies of the first c pieces. -/
def zsQ (c : Nat) (Q : Nat → Pc) : List Int := (List.range c).map fun j => (Q j).i
def sQ (Q : Nat → Pc) (j : Nat) : ByteArray := (Q j).b
/-- The bodies of all places, and their root. -/
noncomputable def alQ (c : Nat) (Q : Nat → Pc) : Nat → ByteArray := bdS (Q 0).k (Q 0).n (zsQ c Q) (sQ Q)
noncomputable def rtQ (c : Nat) (Q : Nat → Pc) : ByteArray := rtS (Q 0).n.toNat (lvs (Q 0).k (Q 0).n.toNat (alQ c Q))
def Cm (root : ByteArray) (c : Nat) (Q : Nat → Pc) : Prop := Rgt (Q 0).k (Q 0).n (zsQ c Q) c (sQ Q) ∧ rtQ c Q = root

set_option maxHeartbeats 4000000 in
theorem completed_any (root : ByteArray) (g c cc : Nat) (Q : Nat → Pc) (A : Nat → Option Addr) (C : Nat → Nat) (w : World) (hcell : ∀ j q, j < c → q < 6 → w.cell? ⟨g, j * 6 + q, none⟩ = some (cel (Q j) (.slice (A j) (Q j).m (C j)) q)) (hc0 : 0 < c) (hc : c ≤ 64) (hS : (Q 0).b.size ≤ 1048576) :
    Calls Tryz.prog 85 #[.string root, .slice (some ⟨g, 0, none⟩) c cc] w fun e w' => Below w.heap.size w w' ∧ ((¬ Cm root c Q ∧ e = .panicked (failC 2)) ∨ (Cm root c Q ∧ ∃ (a2 : Option Addr) (cap2 G : Nat), e = .returned (.agg #[.int .i64 (Q 0).k, .slice a2 (Q 0).n.toNat cap2, .slice (some ⟨G, 0, none⟩) (Q 0).n.toNat (Q 0).n.toNat, .string root]) ∧
      OwnT w' w.heap.size a2 (Q 0).n.toNat cap2 (alQ c Q) ∧ OwnT w' w.heap.size (some ⟨G, 0, none⟩) (Q 0).n.toNat (Q 0).n.toNat (lvs (Q 0).k (Q 0).n.toNat (alQ c Q)))) := by
  obtain ⟨B, HB⟩ : ∃ x, Hid (x = w.heap.size) := ⟨_, rfl⟩
  obtain ⟨w0, HW0⟩ : ∃ x, Hid (x = w.alloc (.cells #[.int .i64 0, .slice none 0 0, .slice none 0 0, .string ⟨#[]⟩] 73)) := ⟨_, rfl⟩
  have HR0 : Hid (Row w0 B 73 #[.int .i64 0, .slice none 0 0, .slice none 0 0, .string ⟨#[]⟩]) := by show Row _ _ _ _; rw [HW0.out, HB.out]; exact Row.new w _ _
  have hb0 : Below w.heap.size w w0 := by rw [HW0.out]; exact (Below.refl _ _).alloc (Nat.le_refl _) _
  have hlt0 : B < w0.heap.size := HR0.out.lt
  have hBw : w.heap.size ≤ B := by rw [HB.out]; exact Nat.le_refl _
  have hs0 := hb0.size
  have HC0 : Hid (∀ j q, j < c → q < 6 → w0.cell? ⟨g, j * 6 + q, none⟩ = some (cel (Q j) (.slice (A j) (Q j).m (C j)) q)) := fun j q h1 h2 => (hb0.cell (p := ⟨g, j * 6 + q, none⟩) (block_lt_of_cell (hcell j q h1 h2))).trans (hcell j q h1 h2)
  have KB0 : Hid (Below w.heap.size w w0) := hb0
  have KLO : Hid _ := laidOut_any g c cc Q A C w0 HC0.out hc
  have HS : Hid ((Q 0).b.size ≤ 1048576) := hS
  have hci : (0 : Int) < (c : Int) := by omega
  clear hb0 hcell hS
  go_enter Tryz.func85, Tryz.ntmps85
  go_wp2_with fail
  rw [← HW0.out, ← HB.out]
  refine Calls.mono KLO.out ?_
  rintro e w1 ⟨g1, g2, rfl, hI1, hT1, hb1⟩
  have x1 := (hb1.cell (p := ⟨g, 0 * 6 + 1, none⟩) (block_lt_of_cell (HC0.out 0 1 hc0 (by omega)))).trans (HC0.out 0 1 hc0 (by omega))
  have x2 := (hb1.cell (p := ⟨g, 0 * 6 + 2, none⟩) (block_lt_of_cell (HC0.out 0 2 hc0 (by omega)))).trans (HC0.out 0 2 hc0 (by omega))
  simp only [cel, Nat.zero_mul, Nat.zero_add] at x1 x2
  have KBD : Hid (∀ W, Below w1.heap.size w1 W → Calls Tryz.prog 135 #[.int .i64 (Q 0).k, .int .i64 (Q 0).n, .slice (some ⟨g1, 0, none⟩) c c, .slice (some ⟨g2, 0, none⟩) c c] W fun e w' => ∃ v, e = .returned (.tuple #[v, .bool (rgt (Q 0).k (Q 0).n (zsQ c Q) c (sQ Q))]) ∧ ResT W w' v (bdR (Q 0).k (Q 0).n (zsQ c Q) c (sQ Q)) (alQ c Q) ∧ Below W.heap.size W w') := fun W hW => bodies_any (Q 0).k (Q 0).n (some ⟨g1, 0, none⟩) c c (zsQ c Q) (some ⟨g2, 0, none⟩) c c (sQ Q) W (hI1.below hW) (hT1.below hW) (by omega) (by omega) (fun _ => HS.out)
  have HR1 : Hid (Row w1 B 73 #[.int .i64 0, .slice none 0 0, .slice none 0 0, .string ⟨#[]⟩]) := HR0.out.below hb1 hlt0
  have KB1 : Hid (Below w.heap.size w w1) := below2 KB0.out hb1
  have lB1 : B < w1.heap.size := HR1.out.lt
  clear hI1 hT1 hb1 KLO HR0 KB0
  go_wp2_with fail
  go_cut [7, 8] from 15 to 28 (fun v7 v8 wx => Hid (Below w1.heap.size w1 wx ∧ ∃ a2 cap2, v8 = .bool (rgt (Q 0).k (Q 0).n (zsQ c Q) c (sQ Q)) ∧ v7 = .slice a2 (bdR (Q 0).k (Q 0).n (zsQ c Q) c (sQ Q)) cap2 ∧ OwnT wx w1.heap.size a2 (bdR (Q 0).k (Q 0).n (zsQ c Q) c (sQ Q)) cap2 (alQ c Q)))
  case first =>
    go_region_with ((go_at_call 135; refine Calls.mono (KBD.out _ ⟨rfl, rfl, rfl, Nat.le_refl _, fun _ _ => rfl⟩) ?_; rintro e w2 ⟨v2, rfl, hR2, hb2⟩; obtain ⟨a2, cap2, rfl, hO2⟩ := hR2; have HF : Hid (Below w1.heap.size w1 w2 ∧ OwnT w2 w1.heap.size a2 (bdR (Q 0).k (Q 0).n (zsQ c Q) c (sQ Q)) cap2 (alQ c Q)) := ⟨below_of_drew hb2, hO2⟩; have z1 := (HF.out.1.cell (p := ⟨g, 1, none⟩) (block_lt_of_cell x1)).trans x1; have z2 := (HF.out.1.cell (p := ⟨g, 2, none⟩) (block_lt_of_cell x2)).trans x2; clear hb2 hO2))
    all_goals
      go_wp2_with fail
      go_meet
      exact ⟨HF.out.1, a2, cap2, rfl, rfl, HF.out.2⟩
  obtain ⟨hb12, a2, cap2, rfl, rfl, hO2⟩ := hcut.out
  clear hcut
  have HR2 : Hid (Row wc B 73 #[.int .i64 0, .slice none 0 0, .slice none 0 0, .string ⟨#[]⟩]) := HR1.out.below hb12 HR1.out.lt
  have y1 := (hb12.cell (p := ⟨g, 1, none⟩) (block_lt_of_cell x1)).trans x1
  have KB2 : Hid (Below w.heap.size w wc) := below2 KB1.out hb12
  have HO2 : Hid (OwnT wc w.heap.size a2 (bdR (Q 0).k (Q 0).n (zsQ c Q) c (sQ Q)) cap2 (alQ c Q)) := OwnT.base hO2 KB1.out.size
  have HO2b : Hid (OwnT wc w1.heap.size a2 (bdR (Q 0).k (Q 0).n (zsQ c Q) c (sQ Q)) cap2 (alQ c Q)) := hO2
  clear hb12 hO2 x1 x2 KBD HR1
  by_cases hr : Rgt (Q 0).k (Q 0).n (zsQ c Q) c (sQ Q)
  case neg =>
    rw [rgt_no hr]
    have KN : Hid _ := need_no 2 wc
    have hno : ¬ Cm root c Q := fun h => hr h.1
    clear y1 HR2
    go_wp2_with fail
    refine Calls.mono KN.out ?_
    rintro e w' ⟨rfl, rfl⟩
    go_wp2
    simp [bodyPost, hno]
    exact KB2.out
  rw [rgt_yes hr]
  have hpar := sprOk_parts hr.1
  have hR : bdR (Q 0).k (Q 0).n (zsQ c Q) c (sQ Q) = (Q 0).n.toNat := by unfold bdR; rw [rgt_yes hr, if_pos rfl]
  rw [hR] at HO2 HO2b ⊢
  have KN : Hid _ := need_ok 2 wc
  have HNL : Hid ((Q 0).n.toNat ≤ 64) := by show (Q 0).n.toNat ≤ 64; omega
  have KBI : Hid (Calls Tryz.prog 48 #[.int .i64 (Q 0).k, .slice a2 (Q 0).n.toNat cap2] wc fun e w' => ∃ G, e = .returned (.agg #[.int .i64 (Q 0).k, .slice a2 (Q 0).n.toNat cap2, .slice (some ⟨G, 0, none⟩) (Q 0).n.toNat (Q 0).n.toNat, .string (rtQ c Q)]) ∧ OwnT w' wc.heap.size (some ⟨G, 0, none⟩) (Q 0).n.toNat (Q 0).n.toNat (lvs (Q 0).k (Q 0).n.toNat (alQ c Q)) ∧ Below wc.heap.size wc w') := bind_any (Q 0).k a2 (Q 0).n.toNat cap2 (alQ c Q) wc (OwnT.at HO2.out) HNL.out (fun i _ => by unfold alQ bdS; rw [bod_size]; exact HS.out)
  have HCm : Hid (Cm root c Q ↔ rtQ c Q = root) := ⟨fun h => h.2, fun h => ⟨hr, h⟩⟩
  generalize rtQ c Q = rt at KBI HCm
  clear hr hR hpar HNL
  go_wp2_with fail
  refine Calls.mono KN.out ?_
  rintro e w' ⟨rfl, rfl⟩
  go_wp2_with fail
  refine Calls.mono KBI.out ?_
  rintro e w3 ⟨G, rfl, hO3, hb3⟩
  obtain ⟨D, HD⟩ : ∃ x, Hid (x = w3.heap.size) := ⟨_, rfl⟩
  obtain ⟨w4, HW4⟩ : ∃ x, Hid (x = w3.alloc (.cells #[.int .i64 (Q 0).k, .slice a2 (Q 0).n.toNat cap2, .slice (some ⟨G, 0, none⟩) (Q 0).n.toNat (Q 0).n.toNat, .string rt] 73)) := ⟨_, rfl⟩
  have HR4 : Hid (Row w4 D 73 #[.int .i64 (Q 0).k, .slice a2 (Q 0).n.toNat cap2, .slice (some ⟨G, 0, none⟩) (Q 0).n.toNat (Q 0).n.toNat, .string rt]) := by show Row _ _ _ _; rw [HW4.out, HD.out]; exact Row.new w3 _ _
  have b34 : Below w3.heap.size w3 w4 := by rw [HW4.out]; exact (Below.refl _ _).alloc (Nat.le_refl _) _
  have b24 := below2 hb3 b34
  have lB := HR2.out.lt
  have HRB : Hid (Row w4 B 73 #[.int .i64 0, .slice none 0 0, .slice none 0 0, .string ⟨#[]⟩]) := HR2.out.below b24 lB
  have KB4 : Hid (Below w.heap.size w w4) := below2 KB2.out b24
  have hGl := World.ownsRow.lt hO3 G rfl
  have hGB : G ≠ B := by omega
  have hA2 : ∀ x, a2 = some x → x.block ≠ B := fun x e => by
    subst e
    have h1 := (World.ownsRow.lt HO2b.out x.block rfl).1
    omega
  have HO4 : Hid (OwnT w4 w.heap.size a2 (Q 0).n.toNat cap2 (alQ c Q)) := HO2.out.below b24
  have HO5 : Hid (OwnT w4 w.heap.size (some ⟨G, 0, none⟩) (Q 0).n.toNat (Q 0).n.toNat (lvs (Q 0).k (Q 0).n.toNat (alQ c Q))) := OwnT.base (hO3.below b34) KB2.out.size
  have q0 := HRB.out.cell 0
  have q1 := HRB.out.cell 1
  have q2 := HRB.out.cell 2
  have q3 := HRB.out.cell 3
  have f0 := HRB.out.free 0
  have f1 := HRB.out.free 1
  have f2 := HRB.out.free 2
  have f3 := HRB.out.free 3
  have r0 := HR4.out.cell 0
  have r1 := HR4.out.cell 1
  have r2 := HR4.out.cell 2
  have r3 := HR4.out.cell 3
  simp at q0 q1 q2 q3 r0 r1 r2 r3
  clear hO3 hb3 b34 b24 y1 KBI KN
  by_cases he : rt = root
  case neg =>
    have nr : (rt.toList == root.toList) = false := ba_ne he
    have hno : ¬ Cm root c Q := fun h => he (HCm.out.1 h)
    have KN : Hid _ := need_no 2 w4
    go_wp2_with fail
    rw [← HW4.out]
    refine Calls.mono KN.out ?_
    rintro e w' ⟨rfl, rfl⟩
    clear q0 q1 q2 q3 r0 r1 r2 r3
    go_wp2
    simp [bodyPost, hno]
    exact KB4.out
  subst he
  have nr := ba_beq rt
  have hyes : Cm rt c Q := HCm.out.2 rfl
  have KN : Hid _ := need_ok 2 w4
  go_wp2_with fail
  rw [← HW4.out, ← HD.out]
  refine Calls.mono KN.out ?_
  rintro e w' ⟨rfl, rfl⟩
  have ZR : Hid (Row ((((w'.setCell ⟨B, 0, none⟩ (.int .i64 (Q 0).k)).setCell ⟨B, 1, none⟩ (.slice a2 (Q 0).n.toNat cap2)).setCell ⟨B, 2, none⟩ (.slice (some ⟨G, 0, none⟩) (Q 0).n.toNat (Q 0).n.toNat)).setCell ⟨B, 3, none⟩ (.string rt)) B 73 #[.int .i64 (Q 0).k, .slice a2 (Q 0).n.toNat cap2, .slice (some ⟨G, 0, none⟩) (Q 0).n.toNat (Q 0).n.toNat, .string rt]) := (((HRB.out.set 0 _).set 1 _).set 2 _).set 3 _
  have set1 : ∀ (W : World) (o : Nat) (v : Value), OwnT W w.heap.size (some ⟨G, 0, none⟩) (Q 0).n.toNat (Q 0).n.toNat (lvs (Q 0).k (Q 0).n.toNat (alQ c Q)) → OwnT (W.setCell ⟨B, o, none⟩ v) w.heap.size (some ⟨G, 0, none⟩) (Q 0).n.toNat (Q 0).n.toNat (lvs (Q 0).k (Q 0).n.toNat (alQ c Q)) := fun W o v hW => own_kept hW (grown_set _ _ _ _) (fun x e => by cases e; exact hGB)
  have set2 : ∀ (W : World) (o : Nat) (v : Value), OwnT W w.heap.size a2 (Q 0).n.toNat cap2 (alQ c Q) → OwnT (W.setCell ⟨B, o, none⟩ v) w.heap.size a2 (Q 0).n.toNat cap2 (alQ c Q) := fun W o v hW => own_kept hW (grown_set _ _ _ _) hA2
  have ZO : Hid (OwnT ((((w'.setCell ⟨B, 0, none⟩ (.int .i64 (Q 0).k)).setCell ⟨B, 1, none⟩ (.slice a2 (Q 0).n.toNat cap2)).setCell ⟨B, 2, none⟩ (.slice (some ⟨G, 0, none⟩) (Q 0).n.toNat (Q 0).n.toNat)).setCell ⟨B, 3, none⟩ (.string rt)) w.heap.size (some ⟨G, 0, none⟩) (Q 0).n.toNat (Q 0).n.toNat (lvs (Q 0).k (Q 0).n.toNat (alQ c Q))) := set1 _ _ _ (set1 _ _ _ (set1 _ _ _ (set1 _ _ _ HO5.out)))
  have ZA : Hid (OwnT ((((w'.setCell ⟨B, 0, none⟩ (.int .i64 (Q 0).k)).setCell ⟨B, 1, none⟩ (.slice a2 (Q 0).n.toNat cap2)).setCell ⟨B, 2, none⟩ (.slice (some ⟨G, 0, none⟩) (Q 0).n.toNat (Q 0).n.toNat)).setCell ⟨B, 3, none⟩ (.string rt)) w.heap.size a2 (Q 0).n.toNat cap2 (alQ c Q)) := set2 _ _ _ (set2 _ _ _ (set2 _ _ _ (set2 _ _ _ HO4.out)))
  clear set1 set2
  go_wp2
  refine bodyPost_ret (v := .agg #[.int .i64 (Q 0).k, .slice a2 (Q 0).n.toNat cap2, .slice (some ⟨G, 0, none⟩) (Q 0).n.toNat (Q 0).n.toNat, .string rt]) (results_cell_row Tryz.results85 _ _ B 73 _ (0, 0) _ (by simp) ZR.out Tryz.underlying73 (by rfl) Tryz.infoCut) rfl ⟨?_, .inr ⟨hyes, a2, cap2, G, rfl, ZA.out, ZO.out⟩⟩
  exact Below.setCell (Below.setCell (Below.setCell (Below.setCell KB4.out hBw _) hBw _) hBw _) hBw _
end Go.Proofs.YthnjhjgffkilcaaGreatDoor
/- The text out of pieces, in the program: Regain. -/
namespace Go.Proofs.YthnjhjgffkilcaaGreatDoor
set_option maxRecDepth 2000
open Go.ChangeShapes Go.WideShapes Go.ChangeAt Go.RowKit

/-- The pieces that were picked, in the order of their places. -/
def qL (P : Nat → Pc) (L : List Nat) (j : Nat) : Pc := P (L.getD j 0)
theorem getD_memL {L : List Nat} {j : Nat} (h : j < L.length) : L.getD j 0 ∈ L := by
  rw [List.getD_eq_getElem?_getD, List.getElem?_eq_getElem h]
  exact List.getElem_mem h
theorem pok_k {P : Nat → Pc} {x : Nat} (h : pok P x = true) : kOk (P x).k (P x).n (P x).b := Classical.byContradiction fun hno => by
  unfold pok at h
  rw [okP_no hno] at h
  cases h
end Go.Proofs.YthnjhjgffkilcaaGreatDoor
/- The bodies of all places out of the chosen, in the model: l07Bodies. Condition: 1 to 64 pieces. -/
namespace Go.Proofs.YthnjhjgffkilcaaGreatDoor
set_option maxRecDepth 2000
open Go.ChangeShapes Go.WideShapes Go.ChangeAt Go.RowKit

theorem zL_snoc (f : Nat → Int) (n : Nat) : zL f (n + 1) = zL f n ++ [Value.int .i64 (f n)] := by
  unfold zL
  rw [List.range_succ, List.map_append]
  rfl
/-- The places and the bodies of the first j, as the model gathers them. -/
def SbI (w : World) (B g1 c1 g2 c2 j : Nat) (Q : Nat → Pc) : Prop := w.ownsRow B 3 1 (.slice (some ⟨g1, 0, none⟩) j c1) j (zL (fun x => (Q x).i) j) ∧ OwnT w B (some ⟨g2, 0, none⟩) j c2 (sQ Q) ∧ g1 ≠ g2
theorem SbI.ints {w : World} {B g1 c1 g2 c2 j : Nat} {Q : Nat → Pc} (h : SbI w B g1 c1 g2 c2 j Q) : IntsAt w (some ⟨g1, 0, none⟩) j (zsQ j Q) := by
  refine ⟨by simp [zsQ], fun i hi => ⟨g1, 0, rfl, ?_⟩⟩
  rw [Nat.zero_add, World.ownsRow.cellAt h.1 i (by omega), zL_get _ _ _ hi]
  simp [zsQ, hi]
theorem own_ne {g1 g2 g3 H j c1 : Nat} (hat : (Value.slice (some ⟨g1, 0, none⟩) j c1).ownBlock = some g3 ∨ g3 = H) (h : g1 ≠ g2) (h2 : g2 < H) : g3 ≠ g2 := by
  rcases hat with e | e
  · have e' : g1 = g3 := by simpa [Value.ownBlock] using e
    omega
  · omega
set_option maxHeartbeats 4000000 in
theorem sBod_any (root : ByteArray) (g c cc : Nat) (Q : Nat → Pc) (A : Nat → Option Addr) (C : Nat → Nat) (w : World) (hcell : ∀ j q, j < c → q < 6 → w.cell? ⟨g, j * 6 + q, none⟩ = some (cel (Q j) (.slice (A j) (Q j).m (C j)) q)) (hc0 : 0 < c) (hc : c ≤ 64) (hS : (Q 0).b.size ≤ 1048576) :
    Calls Tryz.prog 89 #[.string root, .slice (some ⟨g, 0, none⟩) c cc] w fun e w' => Below w.heap.size w w' ∧ ((¬ Cm root c Q ∧ ∃ g', e = .returned (.tuple #[.slice (some ⟨g', 0, none⟩) 0 0, .int .i64 2])) ∨ (Cm root c Q ∧ ∃ v, e = .returned (.tuple #[v, .int .i64 0]) ∧ ResP w w' v (Q 0).n.toNat (cutP (Q 0).k (Q 0).n.toNat (alQ c Q)))) := by
  obtain ⟨i0, hi, hz0, hz1, hz2⟩ := info_parts Tryz.infoInt
  obtain ⟨j0, hj, hy0, hy1, hy2⟩ := info_parts Tryz.infoStr
  have HCe : Hid (∀ j q, j < c → q < 6 → w.cell? ⟨g, j * 6 + q, none⟩ = some (cel (Q j) (.slice (A j) (Q j).m (C j)) q)) := hcell
  have hci : (0 : Int) < (c : Int) := by omega
  clear hcell
  go_enter Tryz.func89, Tryz.ntmps89
  go_wp2
  go_loopw [6, 7, 8] (fun v6 v7 v8 wr => ∃ j g1 c1 g2 c2 : Nat, j ≤ c ∧ v8 = .int .i64 (j : Int) ∧ v6 = .slice (some ⟨g1, 0, none⟩) j c1 ∧ v7 = .slice (some ⟨g2, 0, none⟩) j c2 ∧ SbI wr w.heap.size g1 c1 g2 c2 j Q ∧ Below w.heap.size w wr) (fun _ _ v8 _ => c - (intOf v8).toNat)
  case atStart =>
    refine ⟨0, w.heap.size, 0, w.heap.size + 1, 0, Nat.zero_le _, rfl, rfl, rfl, ⟨World.ownsRow.alloc (World.ownsRow_lit w #[] 0 (Nat.le_refl _) (by unfold maxLen; omega) (by simp)) _, ?_, by omega⟩, ((Below.refl _ _).alloc (Nat.le_refl _) _).alloc (by simp) _⟩
    have := OwnT.base (litT (w.alloc (.cells #[] 3)) (sQ Q)) (B' := w.heap.size) (by simp)
    simpa using this
  case round =>
    obtain ⟨j, g1, c1, g2, c2, hjc, rfl, rfl, rfl, hl, hbel⟩ := hrel
    by_cases hlt : j < c
    · have hji : (j : Int) < (c : Int) := by omega
      have hsz := hbel.size
      have lg1 := World.ownsRow.lt hl.1 g1 rfl
      have lg2 := World.ownsRow.lt hl.2.1 g2 rfl
      have lgs := block_lt_of_cell (HCe.out j 3 hlt (by omega))
      have x3 := (hbel.cell (p := ⟨g, j * 6 + 3, none⟩) (block_lt_of_cell (HCe.out j 3 hlt (by omega)))).trans (HCe.out j 3 hlt (by omega))
      have x4w := HCe.out j 4 hlt (by omega)
      simp only [cel] at x3 x4w
      have hgw : g < w.heap.size := lgs
      obtain ⟨ii, HI⟩ : ∃ x, Hid ((Q j).i = x) := ⟨_, rfl⟩
      obtain ⟨bb, HBB⟩ : ∃ x, Hid ((Q j).b = x) := ⟨_, rfl⟩
      rw [HI.out] at x3
      rw [HBB.out] at x4w
      have hgg := hl.2.2
      have HL : Hid (OwnT wr w.heap.size (some ⟨g2, 0, none⟩) j c2 (sQ Q)) := hl.2.1
      have HBel : Hid (Below w.heap.size w wr) := hbel
      have hl1 := hl.1
      clear hl hbel
      go_wp2_with (first | (guard_hyp KA; at_builtin; refine wpList_append_lies _ (by rfl) _ _ 31 (by rfl) w.heap.size 9 j0 (.string ByteArray.empty) 1 16 Tryz.underlying31 hj hy0 hy1 hy2 rfl (by decide) (.slice (some ⟨g2, 0, none⟩) j c2) j _ (by rfl) (World.ownsRow.alloc KA.out.2.1 _) ⟨w2.heap.size, 0, none⟩ 1 1 [.string bb] (by rfl) (by rfl) (World.news_of_block (cs := #[.string bb]) (t := 9) (fr := (0, 0)) (heap_alloc_new w2 _)) (by simp [Value.oneCell']) (by omega) (by unfold maxLen; omega) (by omega) (by simp; omega) (w2.heap.size + 1) (by simp) ?_; intro g4 c4 w3 hown3 hgrow3 hat3 hltg3) | (at_builtin; refine wpList_append_lies _ (by rfl) _ _ 43 (by rfl) w.heap.size 3 i0 (.int .i64 0) 1 8 Tryz.underlying43 hi hz0 hz1 hz2 rfl (by decide) (.slice (some ⟨g1, 0, none⟩) j c1) j _ (by rfl) (World.ownsRow.alloc hl1 _) ⟨wr.heap.size, 0, none⟩ 1 1 [.int .i64 ii] (by rfl) (by rfl) (World.news_of_block (cs := #[.int .i64 ii]) (t := 3) (fr := (0, 0)) (heap_alloc_new wr _)) (by simp [Value.oneCell']) (by omega) (by unfold maxLen; omega) (by omega) (by simp; omega) (wr.heap.size + 1) (by simp) ?_; intro g3 c3 w2 hown2 hgrow hat hltg; have hb2 : Below w.heap.size w w2 := (HBel.out.alloc hsz _).grown (show World.grownBy _ w2 (some g1) from hgrow) (by simp; omega) (fun x hx => by cases hx; exact lg1.1); have x4 := (hb2.cell (p := ⟨g, j * 6 + 4, none⟩) hgw).trans x4w; have KA : Hid (w2.ownsRow w.heap.size 3 1 (.slice (some ⟨g3, 0, none⟩) (j + 1) c3) (j + 1) (zL (fun x => (Q x).i) j ++ [.int .i64 ii]) ∧ OwnT w2 w.heap.size (some ⟨g2, 0, none⟩) j c2 (sQ Q) ∧ Below w.heap.size w w2) := ⟨hown2, World.ownsRow.kept (World.ownsRow.alloc HL.out _) (show World.grownBy _ w2 (some g1) from hgrow) (.inr (by intro e; exact hgg (by simpa [Value.ownBlock] using e.symm))), hb2⟩; have hg3 : g3 ≠ g2 := own_ne hat hgg (Nat.lt_succ_of_lt lg2.2); have hsz2 := hb2.size; have lg3 := (World.ownsRow.lt hown2 g3 rfl); have lg2' : g2 < w2.heap.size := (World.ownsRow.lt KA.out.2.1 g2 rfl).2; clear hown2 hgrow hat hb2 x3))
      have KF : Hid (SbI w3 w.heap.size g3 c3 g4 c4 (j + 1) Q ∧ Below w.heap.size w w3) := by
        refine ⟨⟨?_, ?_, ?_⟩, (KA.out.2.2.alloc hsz2 _).grown (show World.grownBy _ w3 (some g2) from hgrow3) (by simp; omega) (fun x hx => by cases hx; exact lg2.1)⟩
        · have := World.ownsRow.kept (World.ownsRow.alloc KA.out.1 _) (show World.grownBy _ w3 (some g2) from hgrow3) (.inr (by intro e; exact hg3 (by simpa [Value.ownBlock] using e)))
          rw [zL_snoc, HI.out]
          exact this
        · unfold OwnT
          rw [sL_snoc, show sQ Q j = bb from HBB.out]
          exact hown3
        · rcases hat3 with e | e
          · have e' : g2 = g4 := by simpa [Value.ownBlock] using e
            omega
          · omega
      clear hown3 hgrow3 hat3 KA x4 x4w hl1 HL
      go_roundw
      case rel => exact ⟨j + 1, g3, c3, g4, c4, by omega, by go_num, rfl, rfl, KF.out.1, KF.out.2⟩
      case measure => simp [intOf] <;> omega
    · obtain rfl : j = c := by omega
      have KI : Hid (IntsAt wr (some ⟨g1, 0, none⟩) j (zsQ j Q)) := hl.ints
      have KT : Hid (TxtAt wr (some ⟨g2, 0, none⟩) j (sQ Q)) := OwnT.at hl.2.1
      have KB : Hid (Below w.heap.size w wr) := hbel
      have x1 := (hbel.cell (p := ⟨g, 0 * 6 + 1, none⟩) (block_lt_of_cell (HCe.out 0 1 hc0 (by omega)))).trans (HCe.out 0 1 hc0 (by omega))
      have x2 := (hbel.cell (p := ⟨g, 0 * 6 + 2, none⟩) (block_lt_of_cell (HCe.out 0 2 hc0 (by omega)))).trans (HCe.out 0 2 hc0 (by omega))
      simp only [cel, Nat.zero_mul, Nat.zero_add] at x1 x2
      clear hl hbel hi hz0 hz1 hz2 hj hy0 hy1 hy2
      go_wp2_with fail
      go_quiet (fail)
      go_wp2_with fail
      have KBD : Hid _ := sBodies_any (Q 0).k (Q 0).n (some ⟨g1, 0, none⟩) j c1 (zsQ j Q) (some ⟨g2, 0, none⟩) j c2 (sQ Q) (wr.drewN nq) (KI.out.below (below_drewN (Below.refl _ _) _)) (KT.out.below (below_drewN (Below.refl _ _) _)) (fun _ => hS)
      refine Calls.mono KBD.out ?_
      rintro e w2 ⟨v2, rfl, hR2, hb2⟩
      obtain ⟨a2, cap2, rfl, hO2⟩ := hR2
      have hb12 : Below wr.heap.size wr w2 := below2 (below_drewN (Below.refl _ _) _) hb2
      have KB2 : Hid (Below w.heap.size w w2) := below2 KB.out hb12
      have HO2 : Hid (TxtAt w2 a2 (bdR (Q 0).k (Q 0).n (zsQ j Q) j (sQ Q)) (alQ j Q)) := OwnT.at hO2
      clear hb12 hb2 hO2 x1 x2 KBD KI KT
      by_cases hr : Rgt (Q 0).k (Q 0).n (zsQ j Q) j (sQ Q)
      case neg =>
        rw [rgt_no hr]
        have hno : ¬ Cm root j Q := fun h => hr h.1
        go_wp2
        go_ret2
        exact ⟨KB2.out.alloc KB2.out.size _, .inl ⟨hno, _, rfl⟩⟩
      rw [rgt_yes hr]
      have hpar := sprOk_parts hr.1
      have hR : bdR (Q 0).k (Q 0).n (zsQ j Q) j (sQ Q) = (Q 0).n.toNat := by unfold bdR; rw [rgt_yes hr, if_pos rfl]
      obtain ⟨N, HN⟩ : ∃ x, Hid ((Q 0).n.toNat = x) := ⟨_, rfl⟩
      have hnn : (Q 0).n = (N : Int) := by rw [← HN.out]; exact (Int.toNat_of_nonneg (by omega)).symm
      rw [hR, HN.out] at HO2
      rw [hR, HN.out]
      have hN : N ≤ 64 ∧ 0 < N := by omega
      have hNi : (0 : Int) < (N : Int) := by omega
      have KAL : Hid (Calls Tryz.prog 51 #[.slice a2 N cap2, .int .i64 (Q 0).k, .int .i64 (Q 0).n] w2 fun e w' => ∃ v, e = .returned v ∧ ResP w2 w' v N (cutP (Q 0).k N (alQ j Q)) ∧ Below w2.heap.size w2 w') := by
        show Calls _ _ _ _ _
        rw [hnn]
        exact sAll_any (Q 0).k a2 N cap2 (alQ j Q) w2 HO2.out hN.1 (fun i _ => by unfold alQ bdS; rw [bod_size]; exact hS)
      have HCm : Hid (Cm root j Q ↔ rtQ j Q = root) := ⟨fun h => h.2, fun h => ⟨hr, h⟩⟩
      have HRT : Hid ((cutP (Q 0).k N (alQ j Q) 0).r = rtQ j Q) := by show (cutP (Q 0).k N (alQ j Q) 0).r = rtQ j Q; unfold rtQ; rw [HN.out]; rfl
      clear hpar hR hr hnn
      go_wp2_with fail
      refine Calls.mono KAL.out ?_
      rintro e w3 ⟨v3, rfl, hP, hb3⟩
      obtain ⟨g5, c5, A5, C5, rfl, hO5⟩ := hP
      have y0 := OwnC.cell hO5.1 (i := 0) (q := 0) hN.2 (by omega)
      simp only [cel, Nat.zero_mul, Nat.zero_add] at y0
      rw [HRT.out] at y0
      have KB3 : Hid (Below w.heap.size w w3) := below2 KB2.out hb3
      have KP : Hid (ResP w w3 (.slice (some ⟨g5, 0, none⟩) N c5) N (cutP (Q 0).k N (alQ j Q))) := ⟨g5, c5, A5, C5, rfl, OwnP.base hO5 KB2.out.size⟩
      generalize rtQ j Q = rt at y0 HCm HRT
      clear hO5 hb3 KAL HRT
      by_cases he : rt = root
      · subst he
        have nr := ba_beq rt
        have HY : Hid (Cm rt j Q) := HCm.out.2 rfl
        clear HCm
        go_wp2
        go_ret2
        exact ⟨KB3.out, .inr ⟨HY.out, _, rfl, by rw [HN.out]; exact KP.out⟩⟩
      · have nr : (rt.toList == root.toList) = false := ba_ne he
        go_wp2
        go_ret2
        exact ⟨KB3.out.alloc KB3.out.size _, .inl ⟨fun h => he (HCm.out.1 h), _, rfl⟩⟩
end Go.Proofs.YthnjhjgffkilcaaGreatDoor
/- One piece made anew, in the program: Remake. -/
namespace Go.Proofs.YthnjhjgffkilcaaGreatDoor
set_option maxRecDepth 2000
open Go.ChangeShapes Go.WideShapes Go.ChangeAt Go.RowKit

set_option maxHeartbeats 1000000 in
theorem catchM_panicking (p : Addr) (old : Value) (c : Int) (older : List PanicEntry) (w : World) (h : ErrT w) (hc : w.cell? p = some old) (hz : w.frozen? p = false) :
    CallsD Tryz.prog 94 #[.pointer (some p)] (.panicking ({ v := .iface 132 (.int .i64 c), recovered := false } :: older)) w fun e u' w' =>
      e = .returned (.tuple #[]) ∧ u' = .panicking ({ v := .iface 132 (.int .i64 c), recovered := true } :: older) ∧ ∃ W, Below w.heap.size w W ∧ w' = W.setCell p (.int .i64 c) := by
  refine callsD_of_wpS Tryz.func94 rfl fun c₀ cs hu => ?_
  apply wpS_region
  simp [wpOpsS, go_sem, recoverD, hu, Tryz.ntmps94]
  have lp := block_lt_of_cell hc
  refine Calls.mono (caught_fail c w h) ?_
  rintro e w' ⟨rfl, hb⟩
  have hc' := (hb.cell (p := p) lp).trans hc
  have hz' := (World.frozen?_of_block (a := p) (hb.block _ lp)).trans hz
  simp [go_sem, hc', hz', bodyPostS, results, Tryz.results94, storeCells, Addr.add]
  exact ⟨w', hb, rfl⟩
set_option maxHeartbeats 1000000 in
theorem catchM_idle (p : Addr) (old : Value) (w : World) (hc : w.cell? p = some old) (hz : w.frozen? p = false) :
    CallsD Tryz.prog 94 #[.pointer (some p)] .returning w fun e u' w' => e = .returned (.tuple #[]) ∧ u' = .returning ∧ w' = w.setCell p (.int .i64 0) := by
  refine callsD_of_wpS Tryz.func94 rfl fun c₀ cs hu => ?_
  apply wpS_region
  simp [wpOpsS, go_sem, recoverD, hu, Tryz.ntmps94]
  refine Calls.mono (caught_nil w) ?_
  rintro e w' ⟨rfl, rfl⟩
  simp [go_sem, hc, hz, bodyPostS, results, Tryz.results94, storeCells, Addr.add]
  cases c₀
  simp_all
abbrev pcZ : Array Value := #[.string ⟨#[]⟩, .int .i64 0, .int .i64 0, .int .i64 0, .string ⟨#[]⟩, .slice none 0 0]
/-- What Remake answers once enough were picked. -/
def RmE (w w' : World) (root : ByteArray) (K : Nat) (Q : Nat → Pc) (idx : Int) (e : Ending) : Prop :=
  (¬ (Cm root K Q ∧ 0 ≤ idx ∧ idx < (Q 0).n) ∧ e = .returned (.tuple #[.agg pcZ, .int .i64 2])) ∨
  (Cm root K Q ∧ 0 ≤ idx ∧ idx < (Q 0).n ∧ ∃ v, e = .returned (.tuple #[pcV root (Q 0).k (Q 0).n idx (alQ K Q idx.toNat) v, .int .i64 0]) ∧ ResT w w' v (pfR (Q 0).n.toNat (lvs (Q 0).k (Q 0).n.toNat (alQ K Q)) idx) (pfF (Q 0).n.toNat (lvs (Q 0).k (Q 0).n.toNat (alQ K Q)) idx))
set_option maxHeartbeats 4000000 in
theorem remake_any (root : ByteArray) (a : Option Addr) (n cap : Nat) (A : Nat → Option Addr) (C : Nat → Nat) (P : Nat → Pc) (idx : Int) (w : World) (h : PiA w a n A C P) (hE : ErrT w) (hn : n ≤ 1048576) (hm : ∀ i, i < n → (P i).m ≤ 1048576) (hL : ∀ i, i < n → ∀ j, j < (P i).m → ((P i).S j).size ≤ maxLen) (hsort : SortOk P A C) :
    Calls Tryz.prog 32 #[.string root, .slice a n cap, .int .i64 idx] w fun e w' => Below w.heap.size w w' ∧ ((enB root n P = false ∧ e = .returned (.tuple #[.agg pcZ, .int .i64 1])) ∨ (enB root n P = true ∧ ∃ L : List Nat, L.Perm (gsel root P n) ∧ (∀ x y, x < y → y < L.length → (P (L.getD x 0)).i ≤ (P (L.getD y 0)).i) ∧ RmE w w' root (enK root n P).toNat (qL P L) idx e)) := by
  have hmf : ∀ (fn : Fn) (first cap : Array Value) (w : World), (Instr.makeFunc fn first cap).run Tryz.prog w = .ok (.func fn first cap) w := fun _ _ _ _ => rfl
  obtain ⟨B, HB⟩ : ∃ x, Hid (x = w.heap.size) := ⟨_, rfl⟩
  obtain ⟨w0, HW0⟩ : ∃ x, Hid (x = (w.alloc (.cells pcZ 33)).alloc (.cells #[.int .i64 0] 3)) := ⟨_, rfl⟩
  have HR0 : Row w0 B 33 pcZ := by rw [HW0.out, HB.out]; exact (Row.new w _ _).alloc _
  have c0 : w0.cell? ⟨B + 1, 0, none⟩ = some (.int .i64 0) := by rw [HW0.out, HB.out]; simp
  have f0 : w0.frozen? ⟨B + 1, 0, none⟩ = false := by rw [HW0.out, HB.out]; simp
  have b0 : Below w.heap.size w w0 := by rw [HW0.out]; exact ((Below.refl _ _).alloc (Nat.le_refl _) _).alloc (by simp) _
  have hBw : w.heap.size ≤ B := by rw [HB.out]; exact Nat.le_refl _
  have hBw1 : w.heap.size ≤ B + 1 := by omega
  have hs1 : Hid (w.heap.size + 1 = B + 1) := by show _ = _; rw [HB.out]
  have lB : B + 1 < w0.heap.size := block_lt_of_cell c0
  have KB0 : Hid (Below w.heap.size w w0) := b0
  have KE : Hid (ErrT w0) := hE.below b0
  have KEN : Hid _ := enough_any root a n cap A C P w0 (h.below b0) hn hm hL hsort
  have KD : Hid (∀ W, Below w0.heap.size w0 W → ErrT W ∧ W.cell? ⟨B + 1, 0, none⟩ = some (.int .i64 0) ∧ W.frozen? ⟨B + 1, 0, none⟩ = false ∧ Below w.heap.size w W ∧ Row W B 33 pcZ) := fun W hW => ⟨KE.out.below hW, (hW.cell (p := ⟨B + 1, 0, none⟩) lB).trans c0, (World.frozen?_of_block (a := ⟨B + 1, 0, none⟩) (hW.block _ lB)).trans f0, below2 KB0.out hW, HR0.below hW (by omega)⟩
  clear h hE hm hL hsort b0 c0 f0 HR0
  go_enter_defers Tryz.func32, Tryz.ntmps32
  go_wp2_with fail
  rw [← HW0.out, hs1.out, ← HB.out]
  refine Calls.mono KEN.out ?_
  rintro e w1 ⟨hb1, h1⟩
  rcases h1 with ⟨hen, rfl⟩ | ⟨hen, g, cc, L, rfl, hp, hso, hcc, hO⟩
  · obtain ⟨d1, d2, d3, d4, d5⟩ := KD.out w1 hb1
    go_wp2
    refine leaves_cons (f := 94) (args := #[.pointer (some ⟨B + 1, 0, none⟩)]) (by simp) (by simp [go_sem]) ?_
    refine (catchM_panicking ⟨B + 1, 0, none⟩ _ 1 [] _ d1 d2 d3).mono ?_
    rintro e u' w'' ⟨rfl, rfl, W, hW, rfl⟩
    have z := World.cell?_setCell_same W ⟨B + 1, 0, none⟩ (.int .i64 1) ((hW.cell (p := ⟨B + 1, 0, none⟩) (block_lt_of_cell d2)).trans d2)
    have hR := d5.below hW d5.lt
    have q0 := hR.cell 0
    have q1 := hR.cell 1
    have q2 := hR.cell 2
    have q3 := hR.cell 3
    have q4 := hR.cell 4
    have q5 := hR.cell 5
    simp [pcZ] at q0 q1 q2 q3 q4 q5
    simp [Leaves, settle, results, Tryz.results32, go_sem, z, hen, q0, q1, q2, q3, q4, q5]
    exact (below2 d4 hW).setCell hBw1 _
  · have hlen : L.length = (gsel root P n).length := hp.length_eq
    have hpart : n ≤ 64 ∧ gsel root P n ≠ [] ∧ enK root n P ≤ ((gsel root P n).length : Int) := by
      unfold enB at hen
      simp only [Bool.and_eq_true, decide_eq_true_eq] at hen
      exact ⟨hen.1.1, hen.1.2, hen.2⟩
    have hgl := gsel_len root P n
    have hg0 : 0 < (gsel root P n).length := List.length_pos_iff.2 hpart.2.1
    have hfst : (gsel root P n).getD 0 0 ∈ gsel root P n := getD_memL hg0
    have hk1 : 1 ≤ enK root n P := (pok_k (gsel_mem hfst).2.2).1
    have hL0 := (pok_k (gsel_mem (hp.mem_iff.1 (getD_memL (L := L) (j := 0) (by omega)))).2.2).2.2.2.2
    have HQb : Hid ((qL P L 0).b.size ≤ 1048576) := Nat.le_trans hL0 (by omega)
    obtain ⟨K, HK⟩ : ∃ x, Hid ((enK root n P).toNat = x) := ⟨_, rfl⟩
    have hK0 : 0 < K := by rw [← HK.out]; omega
    have hK64 : K ≤ 64 := by rw [← HK.out]; omega
    have hKL : K ≤ L.length := by rw [← HK.out]; omega
    rw [HK.out]
    obtain ⟨Q, HQ⟩ : ∃ x, Hid (qL P L = x) := ⟨_, rfl⟩
    have HCell : Hid (∀ W, Below w1.heap.size w1 W → ∀ j q, j < K → q < 6 → W.cell? ⟨g, j * 6 + q, none⟩ = some (cel (Q j) (.slice (A (L.getD j 0)) (Q j).m (C (L.getD j 0))) q)) := fun W hW j q hj hq => by
      rw [← HQ.out]
      exact OwnC.cell (OwnC.below hO hW) (by omega) hq
    have HQ0 : Hid ((Q 0).b.size ≤ 1048576) := by rw [← HQ.out]; exact HQb.out
    have HFin : Hid (∀ w' e, RmE w w' root K Q idx e → (enB root n P = false ∧ e = .returned (.tuple #[.agg pcZ, .int .i64 1])) ∨ (enB root n P = true ∧ ∃ L : List Nat, L.Perm (gsel root P n) ∧ (∀ x y, x < y → y < L.length → (P (L.getD x 0)).i ≤ (P (L.getD y 0)).i) ∧ RmE w w' root (enK root n P).toNat (qL P L) idx e)) := fun w' e he => .inr ⟨hen, L, hp, hso, by rw [HK.out, HQ.out]; exact he⟩
    have KCm : Hid _ := completed_any root g K cc Q (fun j => A (L.getD j 0)) (fun j => C (L.getD j 0)) w1 (HCell.out w1 (Below.refl _ _)) hK0 hK64 HQ0.out
    have KB1 : Hid (Below w0.heap.size w0 w1) := hb1
    clear hO hp hso hcc hb1 hlen hpart hgl hg0 hfst hk1 hL0 HQb HQ HK hen KEN
    go_wp2_with fail
    refine Calls.mono KCm.out ?_
    rintro e w2 ⟨hb2, h2⟩
    have hb12 := hb2
    have hb02 := below2 KB1.out hb2
    obtain ⟨N, HN⟩ : ∃ x, Hid ((Q 0).n.toNat = x) := ⟨_, rfl⟩
    rw [HN.out] at h2
    rcases h2 with ⟨hcm, rfl⟩ | ⟨hcm, a2, cap2, G, rfl, hO1, hO2⟩
    · obtain ⟨d1, d2, d3, d4, d5⟩ := KD.out w2 hb02
      go_wp2
      refine leaves_cons (f := 94) (args := #[.pointer (some ⟨B + 1, 0, none⟩)]) (by simp) (by simp [go_sem]) ?_
      refine (catchM_panicking ⟨B + 1, 0, none⟩ _ 2 [] _ d1 d2 d3).mono ?_
      rintro e u' w'' ⟨rfl, rfl, W, hW, rfl⟩
      have z := World.cell?_setCell_same W ⟨B + 1, 0, none⟩ (.int .i64 2) ((hW.cell (p := ⟨B + 1, 0, none⟩) (block_lt_of_cell d2)).trans d2)
      have hf := HFin.out (W.setCell ⟨B + 1, 0, none⟩ (.int .i64 2)) _ (.inl ⟨fun h => hcm h.1, rfl⟩)
      have hR := d5.below hW d5.lt
      have q0 := hR.cell 0
      have q1 := hR.cell 1
      have q2 := hR.cell 2
      have q3 := hR.cell 3
      have q4 := hR.cell 4
      have q5 := hR.cell 5
      simp [pcZ] at q0 q1 q2 q3 q4 q5
      simp [Leaves, settle, results, Tryz.results32, go_sem, z, q0, q1, q2, q3, q4, q5]
      exact ⟨(below2 d4 hW).setCell hBw1 _, by simpa [pcZ] using hf⟩
    · have hsp := sprOk_parts hcm.1.1
      have hnn : (N : Int) = (Q 0).n := by rw [← HN.out]; exact Int.toNat_of_nonneg (by omega)
      obtain ⟨D, HD⟩ : ∃ x, Hid (x = w2.heap.size) := ⟨_, rfl⟩
      obtain ⟨w3, HW3⟩ : ∃ x, Hid (x = w2.alloc (.cells #[.int .i64 (Q 0).k, .slice a2 N cap2, .slice (some ⟨G, 0, none⟩) N N, .string root] 73)) := ⟨_, rfl⟩
      have HR3 : Hid (Row w3 D 73 #[.int .i64 (Q 0).k, .slice a2 N cap2, .slice (some ⟨G, 0, none⟩) N N, .string root]) := by show Row _ _ _ _; rw [HW3.out, HD.out]; exact Row.new w2 _ _
      have b23 : Below w2.heap.size w2 w3 := by rw [HW3.out]; exact (Below.refl _ _).alloc (Nat.le_refl _) _
      have hb03 := below2 hb02 b23
      obtain ⟨d1, d2, d3, d4, d5⟩ := KD.out w3 hb03
      have HD5 : Hid (Row w3 B 33 pcZ) := d5
      have HCM : Hid (Cm root K Q) := hcm
      have HO1 : Hid (TxtAt w3 a2 N (alQ K Q)) := OwnT.at (hO1.below b23)
      have HO2 : Hid (TxtAt w3 (some ⟨G, 0, none⟩) N (lvs (Q 0).k N (alQ K Q))) := OwnT.at (hO2.below b23)
      by_cases hin : 0 ≤ idx ∧ idx < (N : Int)
      case neg =>
        have HFn : Hid (∀ w', _) := fun w' => HFin.out w' (.returned (.tuple #[.agg pcZ, .int .i64 2])) (.inl ⟨fun h => hin ⟨h.2.1, by omega⟩, rfl⟩)
        have KN : Hid _ := need_no 2 w3
        by_cases h0 : 0 ≤ idx
        · have h1 : ¬ idx < (N : Int) := fun h => hin ⟨h0, h⟩
          have hd : Hid (decide (idx < (N : Int)) = false) := decide_eq_false h1
          clear hin hO1 hO2 HCell KCm hcm hb2 hb12 hb02 b23 d5 hnn
          have r1 := HR3.out.cell 1
          simp at r1
          go_wp2_with fail
          rw [← HW3.out, hd.out]
          refine Calls.mono KN.out ?_
          rintro e w' ⟨rfl, rfl⟩
          go_wp2
          refine leaves_cons (f := 94) (args := #[.pointer (some ⟨B + 1, 0, none⟩)]) (by simp) (by simp [go_sem]) ?_
          refine (catchM_panicking ⟨B + 1, 0, none⟩ _ 2 [] _ d1 d2 d3).mono ?_
          rintro e u' w'' ⟨rfl, rfl, W, hW, rfl⟩
          have z := World.cell?_setCell_same W ⟨B + 1, 0, none⟩ (.int .i64 2) ((hW.cell (p := ⟨B + 1, 0, none⟩) (block_lt_of_cell d2)).trans d2)
          have hf := HFn.out (W.setCell ⟨B + 1, 0, none⟩ (.int .i64 2))
          have hR := HD5.out.below hW HD5.out.lt
          have q0 := hR.cell 0
          have q1 := hR.cell 1
          have q2 := hR.cell 2
          have q3 := hR.cell 3
          have q4 := hR.cell 4
          have q5 := hR.cell 5
          simp [pcZ] at q0 q1 q2 q3 q4 q5
          simp [Leaves, settle, results, Tryz.results32, go_sem, z, q0, q1, q2, q3, q4, q5]
          exact ⟨(below2 d4 hW).setCell hBw1 _, by simpa [pcZ] using hf⟩
        · clear HO1
          clear hin hO1 hO2 HCell KCm hcm hb2 hb12 hb02 b23 d5 hnn
          have r1 := HR3.out.cell 1
          simp at r1
          go_wp2_with fail
          rw [← HW3.out]
          refine Calls.mono KN.out ?_
          rintro e w' ⟨rfl, rfl⟩
          go_wp2
          refine leaves_cons (f := 94) (args := #[.pointer (some ⟨B + 1, 0, none⟩)]) (by simp) (by simp [go_sem]) ?_
          refine (catchM_panicking ⟨B + 1, 0, none⟩ _ 2 [] _ d1 d2 d3).mono ?_
          rintro e u' w'' ⟨rfl, rfl, W, hW, rfl⟩
          have z := World.cell?_setCell_same W ⟨B + 1, 0, none⟩ (.int .i64 2) ((hW.cell (p := ⟨B + 1, 0, none⟩) (block_lt_of_cell d2)).trans d2)
          have hf := HFn.out (W.setCell ⟨B + 1, 0, none⟩ (.int .i64 2))
          have hR := HD5.out.below hW HD5.out.lt
          have q0 := hR.cell 0
          have q1 := hR.cell 1
          have q2 := hR.cell 2
          have q3 := hR.cell 3
          have q4 := hR.cell 4
          have q5 := hR.cell 5
          simp [pcZ] at q0 q1 q2 q3 q4 q5
          simp [Leaves, settle, results, Tryz.results32, go_sem, z, q0, q1, q2, q3, q4, q5]
          exact ⟨(below2 d4 hW).setCell hBw1 _, by simpa [pcZ] using hf⟩
      · obtain ⟨h0, h1⟩ := hin
        obtain ⟨i, rfl⟩ := Int.eq_ofNat_of_zero_le h0
        have hiN : i < N := by omega
        have hroot : root.size ≤ 1048576 := by
          rw [← hcm.2]
          unfold rtQ rtS
          split
          · rename_i hlv
            have := lvB_parts hlv
            rw [Gt.rt_size (by omega) this.2.2]
            omega
          · decide
        have KN : Hid _ := need_ok 2 w3
        have KP : Hid _ := piece_any (Q 0).k a2 N cap2 (alQ K Q) G (lvs (Q 0).k N (alQ K Q)) root i w3 HO1.out HO2.out hiN (by omega) (fun j => lvs_le _ _ _ _) hroot
        have HFy : Hid (∀ w' v, ResT w w' v (pfR N (lvs (Q 0).k N (alQ K Q)) (i : Int)) (pfF N (lvs (Q 0).k N (alQ K Q)) (i : Int)) → _) := fun w' v hv => HFin.out w' (.returned (.tuple #[pcV root (Q 0).k (N : Int) (i : Int) (alQ K Q i) v, .int .i64 0])) (.inr ⟨HCM.out, h0, by omega, v, by rw [hnn]; simp, by rw [HN.out]; exact hv⟩)
        clear hO1 hO2 HCell KCm hcm hb2 hb12 hb02 b23 d5 hnn hsp
        have r0 := HR3.out.cell 0
        have r1 := HR3.out.cell 1
        have r2 := HR3.out.cell 2
        have r3 := HR3.out.cell 3
        simp at r0 r1 r2 r3
        go_wp2_with fail
        rw [← HW3.out, ← HD.out]
        refine Calls.mono KN.out ?_
        rintro e w' ⟨rfl, rfl⟩
        go_wp2_with fail
        refine Calls.mono KP.out ?_
        rintro e w5 ⟨v5, rfl, hR5, hb5⟩
        obtain ⟨aP, cP, rfl, hO5⟩ := hR5
        have hb05 := below2 hb03 hb5
        obtain ⟨e1, e2, e3, e4, e5⟩ := KD.out w5 hb05
        have lw : B + 1 < w'.heap.size := block_lt_of_cell d2
        obtain ⟨m, HM⟩ : ∃ m, Hid (pfR N (lvs (Q 0).k N (alQ K Q)) (i : Int) = m) := ⟨_, rfl⟩
        obtain ⟨F, HF⟩ : ∃ m, Hid (pfF N (lvs (Q 0).k N (alQ K Q)) (i : Int) = m) := ⟨_, rfl⟩
        rw [HM.out, HF.out] at hO5 HFy
        rw [HM.out]
        obtain ⟨sb, HSB⟩ : ∃ m, Hid (alQ K Q i = m) := ⟨_, rfl⟩
        rw [HSB.out] at HFy
        rw [HSB.out]
        obtain ⟨w6, HW6⟩ : ∃ x, Hid (x = (((((((w5.setCell ⟨B, 0, none⟩ (.string root)).setCell ⟨B, 1, none⟩ (.int .i64 (Q 0).k)).setCell ⟨B, 2, none⟩ (.int .i64 (N : Int))).setCell ⟨B, 3, none⟩ (.int .i64 (i : Int))).setCell ⟨B, 4, none⟩ (.string sb)).setCell ⟨B, 5, none⟩ (.slice aP m cP)).setCell ⟨B + 1, 0, none⟩ (.int .i64 0))) := ⟨_, rfl⟩
        have HR6 : Hid (Row w6 B 33 (pcC root (Q 0).k (N : Int) (i : Int) sb (.slice aP m cP))) := by
          show Row _ _ _ _
          rw [HW6.out]
          exact Row.other ((((((e5.set 0 _).set 1 _).set 2 _).set 3 _).set 4 _).set 5 _) _ _ (by omega)
        have B6 : Hid (Below w.heap.size w w6) := by
          show Below _ _ _
          rw [HW6.out]
          exact Below.setCell (Below.setCell (Below.setCell (Below.setCell (Below.setCell (Below.setCell (Below.setCell e4 hBw _) hBw _) hBw _) hBw _) hBw _) hBw _) hBw1 _
        have lB1 : B < w'.heap.size := by omega
        have O6 : Hid (OwnT w6 w'.heap.size aP m cP F) := by
          show OwnT _ _ _ _ _ _
          rw [HW6.out]
          exact OwnT.setFar (OwnT.setFar (OwnT.setFar (OwnT.setFar (OwnT.setFar (OwnT.setFar (OwnT.setFar hO5 lB1) lB1) lB1) lB1) lB1) lB1) lw
        have z6 : w6.cell? ⟨B + 1, 0, none⟩ = some (.int .i64 0) := by
          rw [HW6.out]
          refine World.cell?_setCell_same (u := .int .i64 0) _ _ _ ?_
          simp [World.cell?_setCell_other, e2]
        have f6 : w6.frozen? ⟨B + 1, 0, none⟩ = false := by
          rw [HW6.out]
          simpa using e3
        have q0 := e5.cell 0
        have q1 := e5.cell 1
        have q2 := e5.cell 2
        have q3 := e5.cell 3
        have q4 := e5.cell 4
        have q5 := e5.cell 5
        have f0 := e5.free 0
        have f1 := e5.free 1
        have f2 := e5.free 2
        have f3 := e5.free 3
        have f4 := e5.free 4
        have f5 := e5.free 5
        simp [pcZ] at q0 q1 q2 q3 q4 q5
        clear r0 r1 r2 r3 hO5 d1 d2 d3 d4 hb5 e5 KP KN
        go_wp2
        rw [← HW6.out]
        refine leaves_cons (f := 94) (args := #[.pointer (some ⟨B + 1, 0, none⟩)]) (by simp) (by simp [go_sem]) ?_
        refine (catchM_idle ⟨B + 1, 0, none⟩ _ _ z6 f6).mono ?_
        rintro e u' w'' ⟨rfl, rfl, rfl⟩
        have z := World.cell?_setCell_same w6 ⟨B + 1, 0, none⟩ (.int .i64 0) z6
        have hR := Row.other HR6.out (k := B + 1) 0 (.int .i64 0) (by omega)
        have p0 := hR.cell 0
        have p1 := hR.cell 1
        have p2 := hR.cell 2
        have p3 := hR.cell 3
        have p4 := hR.cell 4
        have p5 := hR.cell 5
        simp at p0 p1 p2 p3 p4 p5
        have hf := HFy.out (w6.setCell ⟨B + 1, 0, none⟩ (.int .i64 0)) _ ⟨_, _, rfl, OwnT.base (OwnT.setFar O6.out lw) (by omega)⟩
        simp [Leaves, settle, results, Tryz.results32, go_sem, z, p0, p1, p2, p3, p4, p5]
        exact ⟨B6.out.setCell hBw1 _, by simpa using hf⟩
end Go.Proofs.YthnjhjgffkilcaaGreatDoor
/- There is one list of the pieces that count, by place. -/
namespace Go.Proofs.YthnjhjgffkilcaaGreatDoor
set_option maxRecDepth 2000
open Go.ChangeShapes Go.WideShapes Go.ChangeAt Go.RowKit

theorem asc_pair {P : Nat → Pc} {L : List Nat} (h : ∀ x y, x < y → y < L.length → (P (L.getD x 0)).i ≤ (P (L.getD y 0)).i) : L.Pairwise fun a b => (P a).i ≤ (P b).i := by
  rw [List.pairwise_iff_getElem]
  intro i j hi hj hij
  have := h i j hij hj
  rw [List.getD_eq_getElem?_getD, List.getD_eq_getElem?_getD, List.getElem?_eq_getElem hi, List.getElem?_eq_getElem hj] at this
  exact this
/-- One piece a place. -/
def OneEach (P : Nat → Pc) (G : List Nat) : Prop := ∀ a ∈ G, ∀ b ∈ G, (P a).i = (P b).i → a = b
theorem asc_one {P : Nat → Pc} {G L L' : List Nat} (hG : OneEach P G) (hp : L.Perm G) (hp' : L'.Perm G) (h : ∀ x y, x < y → y < L.length → (P (L.getD x 0)).i ≤ (P (L.getD y 0)).i) (h' : ∀ x y, x < y → y < L'.length → (P (L'.getD x 0)).i ≤ (P (L'.getD y 0)).i) : L = L' := by
  refine List.Perm.eq_of_pairwise (le := fun a b => (P a).i ≤ (P b).i) ?_ (asc_pair h) (asc_pair h') (hp.trans hp'.symm)
  intro a b ha hb h1 h2
  exact hG a (hp.mem_iff.1 ha) b (hp'.mem_iff.1 hb) (by omega)
theorem gsel_one (root : ByteArray) (P : Nat → Pc) (n : Nat) : OneEach P (gsel root P n) := by
  induction n with
  | zero => intro a ha; cases ha
  | succ c ih =>
    by_cases hp : (P c).r = root ∧ gwB (P c).k (P c).n (P c).i (gsel root P c).length (fun j => P ((gsel root P c).getD j 0)) = true ∧ pok P c = true
    · rw [gsel_yes hp]
      have hg : GwP (P c).k (P c).n (P c).i (gsel root P c).length (fun j => P ((gsel root P c).getD j 0)) := Classical.byContradiction fun hno => by rw [gwB_no hno] at hp; cases hp.2.1
      have key : ∀ a ∈ gsel root P c, (P a).i ≠ (P c).i := fun a ha => by
        obtain ⟨j, hj, e⟩ := List.getElem_of_mem ha
        have h2 := (hg j hj).2.2
        simp only [List.getD_eq_getElem?_getD, List.getElem?_eq_getElem hj, Option.getD_some, e] at h2
        exact fun e' => h2 e'.symm
      intro a ha b hb hab
      rw [List.mem_append] at ha hb
      rcases ha with ha | ha <;> rcases hb with hb | hb
      · exact ih a ha b hb hab
      · obtain rfl : b = c := by simpa using hb
        exact absurd hab (key a ha)
      · obtain rfl : a = c := by simpa using ha
        exact absurd hab.symm (key b hb)
      · rw [show a = c by simpa using ha, show b = c by simpa using hb]
    · rw [gsel_no hp]; exact ih
end Go.Proofs.YthnjhjgffkilcaaGreatDoor
