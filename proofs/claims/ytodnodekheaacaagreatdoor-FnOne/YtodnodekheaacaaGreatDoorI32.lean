import Derived.Test.YtodnodekheaacaaGreatDoorI30
import Derived.Test.YtodnodekheaacaaGreatDoorI28
import Derived.Test.YtodnodekheaacaaGreatDoorI27
set_option maxHeartbeats 8000000
set_option maxRecDepth 2000
open Go.ChangeShapes Go.WideShapes Go.ChangeAt Go.RowKit
namespace Go.Proofs.YtodnodekheaacaaGreatDoor
theorem zL_snoc (f : Nat → Int) (n : Nat) : zL f (n + 1) = zL f n ++ [Value.int .i64 (f n)] := by
 unfold zL
 rw [List.range_succ, List.map_append]
 rfl
def SbI (w : World) (B g1 c1 g2 c2 j : Nat) (Q : Nat → Pc) : Prop := w.ownsRow B 3 1 (.slice (some ⟨g1, 0, none⟩) j c1) j (zL (fun x => (Q x).i) j) ∧ OwnT w B (some ⟨g2, 0, none⟩) j c2 (sQ Q) ∧ g1 ≠ g2
theorem SbI.ints {w : World} {B g1 c1 g2 c2 j : Nat} {Q : Nat → Pc} (h : SbI w B g1 c1 g2 c2 j Q) : IntsAt w (some ⟨g1, 0, none⟩) j (zsQ j Q) := by
 refine ⟨by simp [zsQ], fun i hi => ⟨g1, 0, rfl, ?_⟩⟩
 rw [Nat.zero_add, World.ownsRow.cellAt h.1 i (by omega), zL_get _ _ _ hi]
 simp [zsQ, hi]
theorem own_ne {g1 g2 g3 H j c1 : Nat} (hat : (Value.slice (some ⟨g1, 0, none⟩) j c1).ownBlock = some g3 ∨ g3 = H) (h : g1 ≠ g2) (h2 : g2 < H) : g3 ≠ g2 := by
 rcases hat with e | e
 ·have e' : g1 = g3 := by simpa [Value.ownBlock] using e
  omega
 ·omega
theorem sBod_any (root : ByteArray) (g c cc : Nat) (Q : Nat → Pc) (A : Nat → Option Addr) (C : Nat → Nat) (w : World) (hcell : ∀ j q, j < c → q < 6 → w.cell? ⟨g, j * 6 + q, none⟩ = some (cel (Q j) (.slice (A j) (Q j).m (C j)) q)) (hc0 : 0 < c) (hc : c ≤ 64) (hS : (Q 0).b.size ≤ 1048576) :
  Calls Tryz.prog 32 #[.string root, .slice (some ⟨g, 0, none⟩) c cc] w fun e w' => Below w.heap.size w w' ∧ ((¬ Cm root c Q ∧ ∃ g', e = .returned (.tuple #[.slice (some ⟨g', 0, none⟩) 0 0, .int .i64 2])) ∨ (Cm root c Q ∧ ∃ v, e = .returned (.tuple #[v, .int .i64 0]) ∧ ResP w w' v (Q 0).n.toNat (cutP (Q 0).k (Q 0).n.toNat (alQ c Q)))) := by
 obtain ⟨i0, hi, hz0, hz1, hz2⟩ := info_parts Tryz.infoInt
 obtain ⟨j0, hj, hy0, hy1, hy2⟩ := info_parts Tryz.infoStr
 have HCe : Hid (∀ j q, j < c → q < 6 → w.cell? ⟨g, j * 6 + q, none⟩ = some (cel (Q j) (.slice (A j) (Q j).m (C j)) q)) := hcell
 have hci : (0 : Int) < (c : Int) := by omega
 clear hcell
 go_enter Tryz.func32, Tryz.ntmps32
 go_wp2
 go_loopw [6, 7, 8] (fun v6 v7 v8 wr => ∃ j g1 c1 g2 c2 : Nat, j ≤ c ∧ v8 = .int .i64 (j : Int) ∧ v6 = .slice (some ⟨g1, 0, none⟩) j c1 ∧ v7 = .slice (some ⟨g2, 0, none⟩) j c2 ∧ SbI wr w.heap.size g1 c1 g2 c2 j Q ∧ Below w.heap.size w wr) (fun _ _ v8 _ => c - (intOf v8).toNat)
 case atStart =>
  refine ⟨0, w.heap.size, 0, w.heap.size + 1, 0, Nat.zero_le _, rfl, rfl, rfl, ⟨World.ownsRow.alloc (World.ownsRow_lit w #[] 0 (Nat.le_refl _) (by unfold maxLen; omega) (by simp)) _, ?_, by omega⟩, ((Below.refl _ _).alloc (Nat.le_refl _) _).alloc (by simp) _⟩
  have := OwnT.base (litT (w.alloc (.cells #[] 3)) (sQ Q)) (B' := w.heap.size) (by simp)
  simpa using this
 case round =>
  obtain ⟨j, g1, c1, g2, c2, hjc, rfl, rfl, rfl, hl, hbel⟩ := hrel
  by_cases hlt : j < c
  ·have hji : (j : Int) < (c : Int) := by omega
   have hsz := hbel.size
   have lg1 := World.ownsRow.lt hl.1 g1 rfl
   have lg2 := World.ownsRow.lt hl.2.1 g2 rfl
   have lgs := block_lt_of_cell (HCe.out j 3 hlt (by omega))
   have x3 := (hbel.cell (p := ⟨g, j * 6 + 3, none⟩) (block_lt_of_cell (HCe.out j 3 hlt (by omega)))).trans (HCe.out j 3 hlt (by omega))
   have x4w := HCe.out j 4 hlt (by omega)
   simp only [cel] at x3 x4w
   have hgw : g < w.heap.size := lgs
   obtain ⟨ii, HI⟩ : ∃ x, Hid ((Q j).i = x) := ⟨_, rfl⟩
   obtain ⟨bb, HBB⟩ : ∃ x, Hid ((Q j).b = x) := ⟨_, rfl⟩
   rw [HI.out] at x3
   rw [HBB.out] at x4w
   have hgg := hl.2.2
   have HL : Hid (OwnT wr w.heap.size (some ⟨g2, 0, none⟩) j c2 (sQ Q)) := hl.2.1
   have HBel : Hid (Below w.heap.size w wr) := hbel
   have hl1 := hl.1
   clear hl hbel
   go_wp2_with (first | (guard_hyp KA; at_builtin; refine wpList_append_lies _ (by rfl) _ _ 28 (by rfl) w.heap.size 9 j0 (.string ByteArray.empty) 1 16 Tryz.underlying28 hj hy0 hy1 hy2 rfl (by decide) (.slice (some ⟨g2, 0, none⟩) j c2) j _ (by rfl) (World.ownsRow.alloc KA.out.2.1 _) ⟨w2.heap.size, 0, none⟩ 1 1 [.string bb] (by rfl) (by rfl) (World.news_of_block (cs := #[.string bb]) (t := 9) (fr := (0, 0)) (heap_alloc_new w2 _)) (by simp [Value.oneCell']) (by omega) (by unfold maxLen; omega) (by omega) (by simp; omega) (w2.heap.size + 1) (by simp) ?_; intro g4 c4 w3 hown3 hgrow3 hat3 hltg3) | (at_builtin; refine wpList_append_lies _ (by rfl) _ _ 25 (by rfl) w.heap.size 3 i0 (.int .i64 0) 1 8 Tryz.underlying25 hi hz0 hz1 hz2 rfl (by decide) (.slice (some ⟨g1, 0, none⟩) j c1) j _ (by rfl) (World.ownsRow.alloc hl1 _) ⟨wr.heap.size, 0, none⟩ 1 1 [.int .i64 ii] (by rfl) (by rfl) (World.news_of_block (cs := #[.int .i64 ii]) (t := 3) (fr := (0, 0)) (heap_alloc_new wr _)) (by simp [Value.oneCell']) (by omega) (by unfold maxLen; omega) (by omega) (by simp; omega) (wr.heap.size + 1) (by simp) ?_; intro g3 c3 w2 hown2 hgrow hat hltg; have hb2 : Below w.heap.size w w2 := (HBel.out.alloc hsz _).grown (show World.grownBy _ w2 (some g1) from hgrow) (by simp; omega) (fun x hx => by cases hx; exact lg1.1); have x4 := (hb2.cell (p := ⟨g, j * 6 + 4, none⟩) hgw).trans x4w; have KA : Hid (w2.ownsRow w.heap.size 3 1 (.slice (some ⟨g3, 0, none⟩) (j + 1) c3) (j + 1) (zL (fun x => (Q x).i) j ++ [.int .i64 ii]) ∧ OwnT w2 w.heap.size (some ⟨g2, 0, none⟩) j c2 (sQ Q) ∧ Below w.heap.size w w2) := ⟨hown2, World.ownsRow.kept (World.ownsRow.alloc HL.out _) (show World.grownBy _ w2 (some g1) from hgrow) (.inr (by intro e; exact hgg (by simpa [Value.ownBlock] using e.symm))), hb2⟩; have hg3 : g3 ≠ g2 := own_ne hat hgg (Nat.lt_succ_of_lt lg2.2); have hsz2 := hb2.size; have lg3 := (World.ownsRow.lt hown2 g3 rfl); have lg2' : g2 < w2.heap.size := (World.ownsRow.lt KA.out.2.1 g2 rfl).2; clear hown2 hgrow hat hb2 x3))
   have KF : Hid (SbI w3 w.heap.size g3 c3 g4 c4 (j + 1) Q ∧ Below w.heap.size w w3) := by
    refine ⟨⟨?_, ?_, ?_⟩, (KA.out.2.2.alloc hsz2 _).grown (show World.grownBy _ w3 (some g2) from hgrow3) (by simp; omega) (fun x hx => by cases hx; exact lg2.1)⟩
    ·have := World.ownsRow.kept (World.ownsRow.alloc KA.out.1 _) (show World.grownBy _ w3 (some g2) from hgrow3) (.inr (by intro e; exact hg3 (by simpa [Value.ownBlock] using e)))
     rw [zL_snoc, HI.out]
     exact this
    ·unfold OwnT
     rw [sL_snoc, show sQ Q j = bb from HBB.out]
     exact hown3
    ·rcases hat3 with e | e
     ·have e' : g2 = g4 := by simpa [Value.ownBlock] using e
      omega
     ·omega
   clear hown3 hgrow3 hat3 KA x4 x4w hl1 HL
   go_roundw
   case rel => exact ⟨j + 1, g3, c3, g4, c4, by omega, by go_num, rfl, rfl, KF.out.1, KF.out.2⟩
   case measure => simp [intOf] <;> omega
  ·obtain rfl : j = c := by omega
   have KI : Hid (IntsAt wr (some ⟨g1, 0, none⟩) j (zsQ j Q)) := hl.ints
   have KT : Hid (TxtAt wr (some ⟨g2, 0, none⟩) j (sQ Q)) := OwnT.at hl.2.1
   have KB : Hid (Below w.heap.size w wr) := hbel
   have x1 := (hbel.cell (p := ⟨g, 0 * 6 + 1, none⟩) (block_lt_of_cell (HCe.out 0 1 hc0 (by omega)))).trans (HCe.out 0 1 hc0 (by omega))
   have x2 := (hbel.cell (p := ⟨g, 0 * 6 + 2, none⟩) (block_lt_of_cell (HCe.out 0 2 hc0 (by omega)))).trans (HCe.out 0 2 hc0 (by omega))
   simp only [cel, Nat.zero_mul, Nat.zero_add] at x1 x2
   clear hl hbel hi hz0 hz1 hz2 hj hy0 hy1 hy2
   go_wp2_with fail
   go_quiet (fail)
   go_wp2_with fail
   have KBD : Hid _ := sBodies_any (Q 0).k (Q 0).n (some ⟨g1, 0, none⟩) j c1 (zsQ j Q) (some ⟨g2, 0, none⟩) j c2 (sQ Q) (wr.drewN nq) (KI.out.below (below_drewN (Below.refl _ _) _)) (KT.out.below (below_drewN (Below.refl _ _) _)) (fun _ => hS)
   refine Calls.mono KBD.out ?_
   rintro e w2 ⟨v2, rfl, hR2, hb2⟩
   obtain ⟨a2, cap2, rfl, hO2⟩ := hR2
   have hb12 : Below wr.heap.size wr w2 := below2 (below_drewN (Below.refl _ _) _) hb2
   have KB2 : Hid (Below w.heap.size w w2) := below2 KB.out hb12
   have HO2 : Hid (TxtAt w2 a2 (bdR (Q 0).k (Q 0).n (zsQ j Q) j (sQ Q)) (alQ j Q)) := OwnT.at hO2
   clear hb12 hb2 hO2 x1 x2 KBD KI KT
   by_cases hr : Rgt (Q 0).k (Q 0).n (zsQ j Q) j (sQ Q)
   case neg =>
    rw [rgt_no hr]
    have hno : ¬ Cm root j Q := fun h => hr h.1
    go_wp2
    go_ret2
    exact ⟨KB2.out.alloc KB2.out.size _, .inl ⟨hno, _, rfl⟩⟩
   rw [rgt_yes hr]
   have hpar := sprOk_parts hr.1
   have hR : bdR (Q 0).k (Q 0).n (zsQ j Q) j (sQ Q) = (Q 0).n.toNat := by unfold bdR; rw [rgt_yes hr, if_pos rfl]
   obtain ⟨N, HN⟩ : ∃ x, Hid ((Q 0).n.toNat = x) := ⟨_, rfl⟩
   have hnn : (Q 0).n = (N : Int) := by rw [← HN.out]; exact (Int.toNat_of_nonneg (by omega)).symm
   rw [hR, HN.out] at HO2
   rw [hR, HN.out]
   have hN : N ≤ 64 ∧ 0 < N := by omega
   have hNi : (0 : Int) < (N : Int) := by omega
   have KAL : Hid (Calls Tryz.prog 52 #[.slice a2 N cap2, .int .i64 (Q 0).k, .int .i64 (Q 0).n] w2 fun e w' => ∃ v, e = .returned v ∧ ResP w2 w' v N (cutP (Q 0).k N (alQ j Q)) ∧ Below w2.heap.size w2 w') := by
    show Calls _ _ _ _ _
    rw [hnn]
    exact sAll_any (Q 0).k a2 N cap2 (alQ j Q) w2 HO2.out hN.1 (fun i _ => by unfold alQ bdS; rw [bod_size]; exact hS)
   have HCm : Hid (Cm root j Q ↔ rtQ j Q = root) := ⟨fun h => h.2, fun h => ⟨hr, h⟩⟩
   have HRT : Hid ((cutP (Q 0).k N (alQ j Q) 0).r = rtQ j Q) := by show (cutP (Q 0).k N (alQ j Q) 0).r = rtQ j Q; unfold rtQ; rw [HN.out]; rfl
   clear hpar hR hr hnn
   go_wp2_with fail
   refine Calls.mono KAL.out ?_
   rintro e w3 ⟨v3, rfl, hP, hb3⟩
   obtain ⟨g5, c5, A5, C5, rfl, hO5⟩ := hP
   have y0 := OwnC.cell hO5.1 (i := 0) (q := 0) hN.2 (by omega)
   simp only [cel, Nat.zero_mul, Nat.zero_add] at y0
   rw [HRT.out] at y0
   have KB3 : Hid (Below w.heap.size w w3) := below2 KB2.out hb3
   have KP : Hid (ResP w w3 (.slice (some ⟨g5, 0, none⟩) N c5) N (cutP (Q 0).k N (alQ j Q))) := ⟨g5, c5, A5, C5, rfl, OwnP.base hO5 KB2.out.size⟩
   generalize rtQ j Q = rt at y0 HCm HRT
   clear hO5 hb3 KAL HRT
   by_cases he : rt = root
   ·subst he
    have nr := ba_beq rt
    have HY : Hid (Cm rt j Q) := HCm.out.2 rfl
    clear HCm
    go_wp2
    go_ret2
    exact ⟨KB3.out, .inr ⟨HY.out, _, rfl, by rw [HN.out]; exact KP.out⟩⟩
   ·have nr : (rt.toList == root.toList) = false := ba_ne he
    go_wp2
    go_ret2
    exact ⟨KB3.out.alloc KB3.out.size _, .inl ⟨fun h => he (HCm.out.1 h), _, rfl⟩⟩
end Go.Proofs.YtodnodekheaacaaGreatDoor
