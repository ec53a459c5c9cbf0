import Derived.Test.YtodnodekheaacaaGreatDoorG33
import Derived.Test.YtodnodekheaacaaGreatDoorG32
import Derived.BigQuiet
set_option maxHeartbeats 8000000
set_option maxRecDepth 2000
open Go.ChangeShapes Go.WideShapes Go.ChangeAt Go.RowKit
namespace Go.Proofs.YtodnodekheaacaaGreatDoor
def byL (P : Nat → Pc) (G : List Nat) : List Value := (List.range 16).map fun p => .int .i64 (byV P G p)
theorem byL_len (P : Nat → Pc) (G : List Nat) : (byL P G).length = 16 := by simp [byL]
theorem byL_get (P : Nat → Pc) (G : List Nat) {p : Nat} (h : p < 16) : (byL P G)[p]? = some (.int .i64 (byV P G p)) := by simp [byL, h]
theorem byL_nil (P : Nat → Pc) : byL P [] = List.replicate 16 (.int .i64 (-1)) := by
 apply List.ext_getElem?
 intro i
 by_cases h : i < 16
 ·rw [byL_get P [] h, List.getElem?_replicate, if_pos h]
  rfl
 ·rw [List.getElem?_eq_none (by rw [byL_len]; omega), List.getElem?_eq_none (by simp; omega)]
theorem byL_set {P : Nat → Pc} {G : List Nat} {c p : Nat} (hi : (P c).i = (p : Int)) (_hp : p < 16) (hn : ¬ 0 ≤ byV P G p) : (byL P G).set p (.int .i64 (c : Int)) = byL P (G ++ [c]) := by
 apply List.ext_getElem?
 intro i
 by_cases h : i < 16
 ·rw [List.getElem?_set, byL_get P (G ++ [c]) h, byV_app, hi]
  by_cases e : p = i
  ·subst e
   rw [if_pos rfl, if_pos (by rw [byL_len]; exact h), if_neg hn, if_pos rfl]
  ·rw [if_neg e, byL_get P G h, if_neg (show ¬ ((p : Int) = (i : Int)) by omega)]
   by_cases h0 : 0 ≤ byV P G i
   ·rw [if_pos h0]
   ·rw [if_neg h0]
    have : byV P G i = -1 := by
     cases e2 : atPl P G i with
     | none => exact byV_none e2
     | some x => exact absurd (byV_nn.2 ⟨x, e2⟩) h0
    rw [this]
 ·rw [List.getElem?_eq_none (by rw [List.length_set, byL_len]; omega), List.getElem?_eq_none (by rw [byL_len]; omega)]
def outC (P : Nat → Pc) (A : Nat → Option Addr) (C : Nat → Nat) (G : List Nat) (c j : Nat) : Nat → Value := celp P A C ((lofP P G c).getD j 0)
theorem lofP_pre {P : Nat → Pc} {G : List Nat} {c j : Nat} (h : j < (lofP P G c).length) : (lofP P G (c + 1)).getD j 0 = (lofP P G c).getD j 0 := by
 rw [lofP_succ, List.getD_eq_getElem?_getD, List.getD_eq_getElem?_getD, List.getElem?_append_left h]
theorem lofP_same {P : Nat → Pc} {G : List Nat} {c : Nat} (h : atPl P G c = none) : lofP P G (c + 1) = lofP P G c := by rw [lofP_succ, h]; simp
theorem lofP_more {P : Nat → Pc} {G : List Nat} {c x : Nat} (h : atPl P G c = some x) : lofP P G (c + 1) = lofP P G c ++ [x] := by rw [lofP_succ, h]
theorem own_drewN {w : World} {B e s : Nat} {v : Value} {n : Nat} {xs : List Value} (h : w.ownsRow B e s v n xs) (k : Nat) : (w.drewN k).ownsRow B e s v n xs := h
theorem chosen_any (root : ByteArray) (a : Option Addr) (n cap : Nat) (A : Nat → Option Addr) (C : Nat → Nat) (P : Nat → Pc) (w : World) (h : PiA w a n A C P) (hn : n ≤ 1048576) (hm : ∀ i, i < n → (P i).m ≤ 1048576) (hL : ∀ i, i < n → ∀ j, j < (P i).m → ((P i).S j).size ≤ maxLen) :
  Calls Tryz.prog 31 #[.string root, .slice a n cap] w fun e w' => Below w.heap.size w w' ∧ ChE w' root n P A C e := by
 obtain ⟨i0, hi, hz0, hz1, hz2⟩ := info_parts Tryz.infoInt
 obtain ⟨j0, hjj, hy0, hy1, hy2⟩ := info_parts Tryz.infoPc3
 have KH : Hid (PiA w a n A C P) := h
 have HOK : Hid (∀ c W, c < n → Below w.heap.size w W → Calls Tryz.prog 16 #[pcV (P c).r (P c).k (P c).n (P c).i (P c).b (.slice (A c) (P c).m (C c))] W fun e w' => e = .returned (.bool (pok P c)) ∧ Below W.heap.size W w') := fun c W hc hW => sPieceOk_any (P c).r (P c).k (P c).n (P c).i (P c).b (A c) (P c).m (C c) (P c).S W ((h c hc).2.below hW) (hm c hc) (hL c hc)
 clear h hm hL
 go_enter Tryz.func31, Tryz.ntmps31
 go_wp2
 go_loopw [7, 8] (fun v7 v8 wr => ∃ j g cc : Nat, j ≤ 16 ∧ v8 = .int .i64 (j : Int) ∧ v7 = .slice (some ⟨g, 0, none⟩) j cc ∧ wr.ownsRow w.heap.size 3 1 (.slice (some ⟨g, 0, none⟩) j cc) j (List.replicate j (.int .i64 (-1))) ∧ Below w.heap.size w wr) (fun _ v8 _ => 16 - (intOf v8).toNat)
 case atStart => exact ⟨0, w.heap.size, 0, by omega, rfl, rfl, World.ownsRow_lit w #[] 0 (Nat.le_refl _) (by unfold maxLen; omega) (by simp), (Below.refl _ _).alloc (Nat.le_refl _) _⟩
 case round =>
  obtain ⟨j, g, cc, hj16, rfl, rfl, hown, hbel⟩ := hrel
  by_cases hlt : j < 16
  ·have hji : (j : Int) < 16 := by omega
   have hsz := hbel.size
   have lg := World.ownsRow.lt hown g rfl
   have HB : Hid (Below w.heap.size w wr) := hbel
   clear hbel
   go_wp2_with (at_builtin; refine wpList_append_all _ (by rfl) _ _ 25 (by rfl) w.heap.size 3 i0 (.int .i64 0) 1 8 Tryz.underlying25 hi hz0 hz1 hz2 rfl (by decide) g j cc _ (by rfl) (World.ownsRow.alloc hown _) ⟨wr.heap.size, 0, none⟩ 1 1 [.int .i64 (-1)] (by rfl) (by rfl) (World.news_of_block (cs := #[.int .i64 (-1)]) (t := 3) (fr := (0, 0)) (heap_alloc_new wr _)) (by simp [Value.oneCell']) (by unfold maxLen; omega) (by omega) (by simp; omega) ?_; intro g3 cap3 w3 hown3 hgrow3)
   have KO : Hid (w3.ownsRow w.heap.size 3 1 (.slice (some ⟨g3, 0, none⟩) (j + 1) cap3) (j + 1) (List.replicate (j + 1) (.int .i64 (-1)))) := by
    rw [List.replicate_succ']
    exact hown3
   have KB : Hid (Below w.heap.size w w3) := (HB.out.alloc hsz _).grown hgrow3 (by simp; omega) (fun x hx => by cases hx; exact lg.1)
   clear hown3 hgrow3 hown HB
   go_roundw
   case rel => exact ⟨j + 1, g3, cap3, by omega, by go_num, rfl, KO.out, KB.out⟩
   case measure => simp [intOf]; omega
  ·obtain rfl : j = 16 := by omega
   have lg := World.ownsRow.lt hown g rfl
   have KO1 : Hid (wr.ownsRow w.heap.size 3 1 (.slice (some ⟨g, 0, none⟩) 16 cc) 16 (byL P [])) := by
    rw [byL_nil]
    exact hown
   have KB1 : Hid (Below w.heap.size w wr) := hbel
   clear hown hbel
   go_wp2
   rw [show ((16 : Nat) : Int) = (16 : Int) from rfl]
   go_loopw [6, 9] (fun v6 v9 wr2 => ∃ c : Nat, Hid (c = 0 ∨ n ≤ 64) ∧ c ≤ n ∧ v9 = .int .i64 (c : Int) ∧ v6 = .int .i64 (fst1 (gsel root P c)) ∧ wr2.ownsRow w.heap.size 3 1 (.slice (some ⟨g, 0, none⟩) 16 cc) 16 (byL P (gsel root P c)) ∧ Below w.heap.size w wr2) (fun _ v9 _ => n - (intOf v9).toNat)
   case atStart => exact ⟨0, .inl rfl, Nat.zero_le _, rfl, rfl, KO1.out, KB1.out⟩
   case round =>
    obtain ⟨c, hc0, hcn, rfl, rfl, hown, hbel⟩ := hrel
    clear KO1 KB1
    by_cases hgo : c < n ∧ n ≤ 64
    ·obtain ⟨hlt, hn64⟩ := hgo
     have HN64 : Hid (c + 1 = 0 ∨ n ≤ 64) := .inr hn64
     have hci : (c : Int) < (n : Int) := by omega
     have hni : (n : Int) ≤ 64 := by omega
     obtain ⟨⟨b, off, rfl, hcell⟩, _⟩ := (KH.out.below hbel) c hlt
     have HP6 : Hid (∀ x q, x < n → q < 6 → ∀ W, Below wr.heap.size wr W → W.cell? ⟨b, off + x * 6 + q, none⟩ = some (celp P A C x q)) := fun x q hx hq W hW => by
      obtain ⟨⟨b', off', e', hc'⟩, _⟩ := (KH.out.below hbel) x hx
      cases e'
      have := hc' q hq
      rw [← Nat.add_assoc] at this
      exact (hW.cell (p := ⟨b, off + x * 6 + q, none⟩) (block_lt_of_cell this)).trans this
     have x0 := HP6.out c 0 hlt (by omega) wr (Below.refl _ _)
     have x1 := HP6.out c 1 hlt (by omega) wr (Below.refl _ _)
     have x2 := HP6.out c 2 hlt (by omega) wr (Below.refl _ _)
     have x3 := HP6.out c 3 hlt (by omega) wr (Below.refl _ _)
     have x4 := HP6.out c 4 hlt (by omega) wr (Below.refl _ _)
     have x5 := HP6.out c 5 hlt (by omega) wr (Below.refl _ _)
     simp only [celp, cel, Nat.add_zero] at x0 x1 x2 x3 x4 x5
     obtain ⟨V, HV⟩ : ∃ x, Hid (x = wr.heap.size) := ⟨_, rfl⟩
     obtain ⟨wv, HWV⟩ : ∃ x, Hid (x = wr.alloc (.cells (pcC (P c).r (P c).k (P c).n (P c).i (P c).b (.slice (A c) (P c).m (C c))) 30)) := ⟨_, rfl⟩
     have RV : Hid (Row wv V 30 (pcC (P c).r (P c).k (P c).n (P c).i (P c).b (.slice (A c) (P c).m (C c)))) := by show Row _ _ _ _; rw [HWV.out, HV.out]; exact Row.new wr _ _
     have bv : Below wr.heap.size wr wv := by rw [HWV.out]; exact (Below.refl _ _).alloc (Nat.le_refl _) _
     have KBw : Hid (Below w.heap.size w wr) := hbel
     have KBv : Hid (Below wr.heap.size wr wv) := bv
     have KOw : Hid (wr.ownsRow w.heap.size 3 1 (.slice (some ⟨g, 0, none⟩) 16 cc) 16 (byL P (gsel root P c))) := hown
     have KPk : Hid _ := HOK.out c wv hlt (below2 hbel bv)
     clear hown hbel bv hcell
     by_cases hr : (P c).r = root
     case neg =>
      have hr1 : ((P c).r.toList != root.toList) = true := by have := ba_ne hr; simp [bne, this]
      have hr2 := ba_ne hr
      have HG : Hid (gsel root P (c + 1) = gsel root P c) := gsel_skip (.inl hr)
      have KOv : Hid (wv.ownsRow w.heap.size 3 1 (.slice (some ⟨g, 0, none⟩) 16 cc) 16 (byL P (gsel root P (c + 1)))) := by rw [HG.out]; exact ownsRow_below KOw.out KBv.out
      have KBn : Hid (Below w.heap.size w wv) := below2 KBw.out KBv.out
      clear hr HP6 KPk
      go_wp2
      rw [← HWV.out]
      go_roundw
      case rel => exact ⟨c + 1, HN64, by omega, by go_num, by rw [HG.out], KOv.out, KBn.out⟩
      case measure => simp [intOf]; omega
     case pos =>
      have hr1 : ((P c).r.toList != root.toList) = false := by rw [hr]; simp
      have hr2 : ((P c).r.toList == root.toList) = true := by rw [hr]; simp
      have HRt : Hid ((P c).r = root) := hr
      clear hr
      cases hpk : pok P c with
      | false =>
       rw [hpk] at KPk
       have HG : Hid (gsel root P (c + 1) = gsel root P c) := gsel_skip (.inr hpk)
       clear HP6
       go_wp2_with fail
       rw [← HWV.out, ← HV.out]
       refine Calls.mono KPk.out ?_
       rintro e w2 ⟨rfl, b2⟩
       have bw := below2 KBv.out b2
       have KOv : Hid (w2.ownsRow w.heap.size 3 1 (.slice (some ⟨g, 0, none⟩) 16 cc) 16 (byL P (gsel root P (c + 1)))) := by rw [HG.out]; exact ownsRow_below KOw.out bw
       have KBn : Hid (Below w.heap.size w w2) := below2 KBw.out bw
       clear b2 bw KPk x0 x1 x2 x3 x4 x5 hr1 hr2
       go_wp2
       go_roundw
       case rel => exact ⟨c + 1, HN64, by omega, by go_num, by rw [HG.out], KOv.out, KBn.out⟩
       case measure => simp [intOf]; omega
      | true =>
       rw [hpk] at KPk
       obtain ⟨pp, hpi, hp16⟩ := pok_i hpk
       have HPI : Hid ((P c).i = (pp : Int)) := hpi
       rw [hpi] at x3 KPk
       have hpi16 : (pp : Int) < 16 := by omega
       have KRV : Hid (∀ W, Below wv.heap.size wv W → Row W V 30 (pcC (P c).r (P c).k (P c).n (pp : Int) (P c).b (.slice (A c) (P c).m (C c)))) := fun W hW => by
        have := RV.out.below hW RV.out.lt
        rw [HPI.out] at this
        exact this
       rw [hpi] at HWV RV
       by_cases hG : gsel root P c = []
       ·have HGn : Hid (gsel root P (c + 1) = [c]) := gsel_first HRt.out hpk hG
        have HGs : Hid (gsel root P c = []) := hG
        have hf1 : fst1 (gsel root P c) = -1 := by rw [hG]; rfl
        rw [hf1]
        clear hG hf1
        go_wp2_with fail
        rw [← HWV.out, ← HV.out]
        refine Calls.mono KPk.out ?_
        rintro e w2 ⟨rfl, b2⟩
        have bw := below2 KBv.out b2
        have ho2 := ownsRow_below KOw.out bw
        have y0 := World.ownsRow.cellAt ho2 pp (by omega)
        rw [byL_get P _ hp16, HGs.out, show byV P [] pp = -1 from rfl] at y0
        have f0 := World.ownsRow.frozenAt ho2 pp
        have R2 := KRV.out _ b2
        have z1 := R2.cell 1
        have z2 := R2.cell 2
        have z3 := R2.cell 3
        simp at z1 z2 z3
        have u1 := HP6.out c 1 hlt (by omega) w2 bw
        have u2 := HP6.out c 2 hlt (by omega) w2 bw
        simp only [celp, cel] at u1 u2
        have ek : ((P c).k == (P c).k) = true := by simp
        have en : ((P c).n == (P c).n) = true := by simp
        have KOv : Hid (∀ k : Nat, ((w2.drewN k).setCell ⟨g, pp, none⟩ (.int .i64 (c : Int))).ownsRow w.heap.size 3 1 (.slice (some ⟨g, 0, none⟩) 16 cc) 16 (byL P (gsel root P (c + 1)))) := fun k => by
         have h1 := (World.ownsRow.stored (own_drewN ho2 k) pp (.int .i64 (c : Int))).1
         rw [HGs.out, byL_set HPI.out hp16 (show ¬ 0 ≤ byV P [] pp by show ¬ (0 : Int) ≤ -1; omega)] at h1
         rw [HGn.out]
         exact h1
        have KBn : Hid (∀ k : Nat, Below w.heap.size w ((w2.drewN k).setCell ⟨g, pp, none⟩ (.int .i64 (c : Int)))) := fun k => (belowDrewN (below2 KBw.out bw) k).setCell lg.1 _
        have HF : Hid (fst1 (gsel root P (c + 1)) = (c : Int)) := by show _ = _; rw [HGn.out]; rfl
        clear b2 bw KPk x0 x1 x2 x3 x4 x5 hr1 hr2 ho2 R2
        go_wp2_with fail
        go_quiet (fail)
        go_wp2
        go_roundw
        case rel => exact ⟨c + 1, HN64, by omega, by go_num, by rw [HF.out], KOv.out _, KBn.out _⟩
        case measure => simp [intOf]; omega
       ·have HGs : Hid (gsel root P c ≠ []) := hG
        obtain ⟨x, HX⟩ : ∃ x, Hid ((gsel root P c).getD 0 0 = x) := ⟨_, rfl⟩
        have hf1 : fst1 (gsel root P c) = (x : Int) := by rw [fst1_get hG, HX.out]
        have hxn : x < n := by
         have hl : 0 < (gsel root P c).length := List.length_pos_iff.2 hG
         have := (gsel_mem (getD_memL (L := gsel root P c) (j := 0) hl)).1
         rw [HX.out] at this
         omega
        have hxi : (x : Int) < (n : Int) := by omega
        have hx0 : ¬ (x : Int) < 0 := by omega
        have HSt : Hid (gsel root P (c + 1) = if (P c).k = (P x).k ∧ (P c).n = (P x).n ∧ ¬ 0 ≤ byV P (gsel root P c) pp then gsel root P c ++ [c] else gsel root P c) := by
         have := gsel_step HRt.out hpk HPI.out hG
         rw [HX.out] at this
         exact this
        have HFn : Hid (fst1 (gsel root P c ++ [c]) = (x : Int)) := by show _ = _; rw [fst1_app, if_neg hG, hf1]
        rw [hf1]
        obtain ⟨bz, HBZ⟩ : ∃ z, Hid (byV P (gsel root P c) pp = z) := ⟨_, rfl⟩
        clear hG
        go_wp2_with fail
        rw [← HWV.out, ← HV.out]
        refine Calls.mono KPk.out ?_
        rintro e w2 ⟨rfl, b2⟩
        have bw := below2 KBv.out b2
        have ho2 := ownsRow_below KOw.out bw
        have y0 := World.ownsRow.cellAt ho2 pp (by omega)
        rw [byL_get P _ hp16, HBZ.out] at y0
        have f0 := World.ownsRow.frozenAt ho2 pp
        have R2 := KRV.out _ b2
        have z1 := R2.cell 1
        have z2 := R2.cell 2
        have z3 := R2.cell 3
        simp at z1 z2 z3
        have u1 := HP6.out x 1 hxn (by omega) w2 bw
        have u2 := HP6.out x 2 hxn (by omega) w2 bw
        simp only [celp, cel] at u1 u2
        have KO2 : Hid (w2.ownsRow w.heap.size 3 1 (.slice (some ⟨g, 0, none⟩) 16 cc) 16 (byL P (gsel root P c))) := ho2
        have KB2 : Hid (Below w.heap.size w w2) := below2 KBw.out bw
        have HF1 : Hid (fst1 (gsel root P c) = (x : Int)) := hf1
        clear b2 bw KPk x0 x1 x2 x3 x4 x5 hr1 hr2 ho2 R2 hf1
        by_cases hk : (P c).k = (P x).k
        case neg =>
         have ek : ((P c).k == (P x).k) = false := by simpa using hk
         have HGn : Hid (gsel root P (c + 1) = gsel root P c) := by show _ = _; rw [HSt.out, if_neg (fun h => hk h.1)]
         clear hk
         go_wp2_with fail
         go_quiet (fail)
         go_wp2
         go_roundw
         case rel => exact ⟨c + 1, HN64, by omega, by go_num, by rw [HGn.out, HF1.out], by rw [HGn.out]; exact own_drewN KO2.out _, belowDrewN KB2.out _⟩
         case measure => simp [intOf]; omega
        case pos =>
         have ek : ((P c).k == (P x).k) = true := by simpa using hk
         by_cases hnn : (P c).n = (P x).n
         case neg =>
          have en : ((P c).n == (P x).n) = false := by simpa using hnn
          have HGn : Hid (gsel root P (c + 1) = gsel root P c) := by show _ = _; rw [HSt.out, if_neg (fun h => hnn h.2.1)]
          clear hk hnn
          go_wp2_with fail
          go_quiet (fail)
          go_wp2
          go_roundw
          case rel => exact ⟨c + 1, HN64, by omega, by go_num, by rw [HGn.out, HF1.out], by rw [HGn.out]; exact own_drewN KO2.out _, belowDrewN KB2.out _⟩
          case measure => simp [intOf]; omega
         case pos =>
          have en : ((P c).n == (P x).n) = true := by simpa using hnn
          by_cases hz : bz < 0
          case neg =>
           have HGn : Hid (gsel root P (c + 1) = gsel root P c) := by show _ = _; rw [HSt.out, if_neg (fun h => hz (by have := h.2.2; rw [HBZ.out] at this; omega))]
           clear hk hnn
           go_wp2_with fail
           go_quiet (fail)
           go_wp2
           go_roundw
           case rel => exact ⟨c + 1, HN64, by omega, by go_num, by rw [HGn.out, HF1.out], by rw [HGn.out]; exact own_drewN KO2.out _, belowDrewN KB2.out _⟩
           case measure => simp [intOf]; omega
          case pos =>
           have HGn : Hid (gsel root P (c + 1) = gsel root P c ++ [c]) := by show _ = _; rw [HSt.out, if_pos ⟨hk, hnn, by rw [HBZ.out]; omega⟩]
           have KOv : Hid (∀ k : Nat, ((w2.drewN k).setCell ⟨g, pp, none⟩ (.int .i64 (c : Int))).ownsRow w.heap.size 3 1 (.slice (some ⟨g, 0, none⟩) 16 cc) 16 (byL P (gsel root P (c + 1)))) := fun k => by
            have h1 := (World.ownsRow.stored (own_drewN KO2.out k) pp (.int .i64 (c : Int))).1
            rw [byL_set HPI.out hp16 (by rw [HBZ.out]; omega)] at h1
            rw [HGn.out]
            exact h1
           have KBn : Hid (∀ k : Nat, Below w.heap.size w ((w2.drewN k).setCell ⟨g, pp, none⟩ (.int .i64 (c : Int)))) := fun k => (belowDrewN KB2.out k).setCell lg.1 _
           clear hk hnn
           go_wp2_with fail
           go_quiet (fail)
           go_wp2
           go_roundw
           case rel => exact ⟨c + 1, HN64, by omega, by go_num, by rw [HGn.out, HFn.out], KOv.out _, KBn.out _⟩
           case measure => simp [intOf]; omega
    ·obtain ⟨G, HGG⟩ : ∃ x, Hid (gsel root P c = x) := ⟨_, rfl⟩
     have HCase : Hid (G = gsel root P n ∨ (G = [] ∧ ¬ n ≤ 64)) := by
      rcases Nat.lt_or_ge c n with h1 | h1
      ·have h2 : ¬ n ≤ 64 := fun h => hgo ⟨h1, h⟩
       rcases hc0.out with h3 | h3
       ·exact .inr ⟨by rw [← HGG.out, h3]; rfl, h2⟩
       ·exact absurd h3 h2
      ·exact .inl (by rw [← HGG.out, show c = n by omega])
     rw [HGG.out] at hown
     rw [HGG.out]
     have KO1 : Hid (wr.ownsRow w.heap.size 3 1 (.slice (some ⟨g, 0, none⟩) 16 cc) 16 (byL P G)) := hown
     have KB1 : Hid (Below w.heap.size w wr) := hbel
     have hgoI : ¬ ((c : Int) < (n : Int) ∧ (n : Int) ≤ 64) := by omega
     clear hown hbel
     by_cases hG : G = []
     ·have hen : enB root n P = false := by
       unfold enB
       rcases HCase.out with h1 | h1
       ·rw [← h1, hG]; simp
       ·simp [h1.2]
      have hf1 : fst1 G = -1 := by rw [hG]; rfl
      rw [hf1]
      have KBe : Hid (∀ k : Nat, Below w.heap.size w ((wr.alloc (.cells #[] 30)).drewN k)) := fun k => belowDrewN (KB1.out.alloc KB1.out.size _) k
      have HEN : Hid (enB root n P = false) := hen
      clear hf1 hG hen
      by_cases h1 : (c : Int) < (n : Int)
      ·have h2 : ¬ (n : Int) ≤ 64 := fun h => hgoI ⟨h1, h⟩
       clear hgoI hgo
       go_wp2
       go_loopw [12] (fun v12 wr3 => v12 = .int .i64 0 ∧ wr3 = wr.alloc (.cells #[] 30)) (fun _ _ => 0)
       case atStart => exact ⟨rfl, rfl⟩
       case round =>
        obtain ⟨rfl, hw⟩ := hrel
        obtain rfl := hw.symm
        clear hw
        go_wp2_with fail
        go_quiet (fail)
        go_wp2
        go_ret2
        exact ⟨KBe.out _, .inl ⟨HEN.out, _, rfl⟩⟩
      ·clear hgoI hgo
       go_wp2
       go_loopw [12] (fun v12 wr3 => v12 = .int .i64 0 ∧ wr3 = wr.alloc (.cells #[] 30)) (fun _ _ => 0)
       case atStart => exact ⟨rfl, rfl⟩
       case round =>
        obtain ⟨rfl, hw⟩ := hrel
        obtain rfl := hw.symm
        clear hw
        go_wp2_with fail
        go_quiet (fail)
        go_wp2
        go_ret2
        exact ⟨KBe.out _, .inl ⟨HEN.out, _, rfl⟩⟩
     ·obtain ⟨wo, hwo⟩ : ∃ x, x = wr := ⟨_, rfl⟩
      subst hwo
      have hGn : G = gsel root P n := by
       rcases HCase.out with h1 | h1
       ·exact h1
       ·exact absurd h1.1 hG
      obtain ⟨x, HX⟩ : ∃ x, Hid (G.getD 0 0 = x) := ⟨_, rfl⟩
      have hl0 : 0 < G.length := List.length_pos_iff.2 hG
      have hxm := gsel_mem (root := root) (P := P) (c := n) (x := x) (by rw [← hGn, ← HX.out]; exact getD_memL hl0)
      have hxn : x < n := hxm.1
      have hpk := pok_k hxm.2.2
      obtain ⟨K, hK⟩ : ∃ K : Nat, (P x).k = (K : Int) := Int.eq_ofNat_of_zero_le (by have := hpk.1; omega)
      have hK16 : 1 ≤ K ∧ K ≤ 16 := by
       have h1 := hpk.1
       have h2 := hpk.2.1
       have h3 := hpk.2.2.1
       rw [hK] at h1 h2
       omega
      obtain ⟨hK1, hKl⟩ := hK16
      have hf1 : fst1 G = (x : Int) := by rw [fst1_get hG, HX.out]
      have HEK : Hid (enK root n P = (K : Int)) := by show _ = _; unfold enK; rw [← hGn, HX.out, hK]
      have HEN : Hid (enB root n P = decide (K ≤ G.length)) := by
       show _ = _
       unfold enB
       rw [← hGn, HEK.out]
       have hn64 : n ≤ 64 := by
        rcases hc0.out with h3 | h3
        ·rcases Nat.lt_or_ge n 65 with h4 | h4
         ·omega
         ·exfalso
          have h5 : G = [] := by rw [← HGG.out, h3]; rfl
          exact hG h5
        ·exact h3
       simp [hn64, hG]
      have HPerm : Hid ((lofP P G 16).Perm (gsel root P n)) := by show List.Perm _ _; rw [hGn]; exact lofP_perm root P n
      have HLen : Hid ((lofP P G 16).length = G.length) := by show _ = _; rw [HPerm.out.length_eq, hGn]
      have HAt : Hid (∀ p y, atPl P G p = some y → y < n) := fun p y h => by
       have := (atPl_mem h).1
       rw [hGn] at this
       exact (gsel_mem this).1
      have hxi : (x : Int) < (n : Int) := by omega
      have hx0 : (x : Int) ≥ 0 := by omega
      obtain ⟨⟨b, off, rfl, _⟩, _⟩ := (KH.out.below KB1.out) x hxn
      have HP6 : Hid (∀ x q, x < n → q < 6 → ∀ W, Below wo.heap.size wo W → W.cell? ⟨b, off + x * 6 + q, none⟩ = some (celp P A C x q)) := fun x q hx hq W hW => by
       obtain ⟨⟨b', off', e', hc'⟩, _⟩ := (KH.out.below KB1.out) x hx
       cases e'
       have := hc' q hq
       rw [← Nat.add_assoc] at this
       exact (hW.cell (p := ⟨b, off + x * 6 + q, none⟩) (block_lt_of_cell this)).trans this
      have HBy : Hid (∀ p, p < 16 → ∀ W, Below wo.heap.size wo W → W.cell? ⟨g, p, none⟩ = some (.int .i64 (byV P G p))) := fun p hp W hW => by
       have h1 := World.ownsRow.cellAt KO1.out p (by omega)
       rw [byL_get P G hp] at h1
       exact (hW.cell (p := ⟨g, p, none⟩) (block_lt_of_cell h1)).trans h1
      have HKx : Hid (∀ W, Below wo.heap.size wo W → W.cell? ⟨b, off + x * 6 + 1, none⟩ = some (.int .i64 (K : Int))) := fun W hW => by
       have := HP6.out x 1 hxn (by omega) W hW
       simp only [celp, cel, hK] at this
       exact this
      have hgoI' : ¬ ((c : Int) < (n : Int) ∧ (n : Int) ≤ 64) := hgoI
      have hcn' : ¬ (c : Int) < (n : Int) := by
       intro h1
       have h2 : ¬ n ≤ 64 := fun h => hgo ⟨by omega, h⟩
       rcases hc0.out with h3 | h3
       ·exact hG (by rw [← HGG.out, h3]; rfl)
       ·exact h2 h3
      rw [hf1]
      clear hf1 hG hgoI hgoI' hgo hGn hxm hpk hK hl0 HCase
      go_wp2
      go_loopw [11, 12] (fun v11 v12 wr3 => ∃ j q g3 c3 : Nat, j ≤ 16 ∧ Hid (q = min (lofP P G j).length K) ∧ q ≤ 16 ∧ v12 = .int .i64 (j : Int) ∧ v11 = .slice (some ⟨g3, 0, none⟩) q c3 ∧ OwnC wr3 wo.heap.size (some ⟨g3, 0, none⟩) q c3 (outC P A C G j) ∧ Below wo.heap.size wo wr3) (fun _ v12 _ => 16 - (intOf v12).toNat)
      case atStart =>
       refine ⟨0, 0, wo.heap.size, 0, by omega, by show 0 = min (lofP P G 0).length K; simp [lofP], by omega, rfl, rfl, ?_, (Below.refl _ _).alloc (Nat.le_refl _) _⟩
       exact World.ownsRow_lit wo #[] 0 (Nat.le_refl _) (by unfold maxLen; omega) (by simp)
      case round =>
       obtain ⟨j, q, g3, c3, hj16, HQ, hq16, rfl, rfl, hown, hbel⟩ := hrel
       have lg3 := World.ownsRow.lt hown g3 rfl
       have hsz := hbel.size
       by_cases hlt : j < 16
       ·have hji : (j : Int) < 16 := by omega
        have y0 := HBy.out j hlt _ hbel
        have z1 := HKx.out _ hbel
        have KO : Hid (OwnC wr wo.heap.size (some ⟨g3, 0, none⟩) q c3 (outC P A C G j)) := hown
        have KB : Hid (Below wo.heap.size wo wr) := hbel
        clear hown hbel
        cases hat : atPl P G j with
        | none =>
         have hbv : byV P G j = -1 := byV_none hat
         rw [hbv] at y0
         have HQ2 : Hid (q = min (lofP P G (j + 1)).length K) := by show _ = _; rw [lofP_same hat]; exact HQ.out
         have KO2 : Hid (OwnC wr wo.heap.size (some ⟨g3, 0, none⟩) q c3 (outC P A C G (j + 1))) := OwnC.congr KO.out (fun i q' _ _ => by unfold outC; rw [lofP_same hat])
         clear hbv hat
         go_wp2
         go_roundw
         case rel => exact ⟨j + 1, q, g3, c3, by omega, HQ2, hq16, by go_num, rfl, KO2.out, KB.out⟩
         case measure => simp [intOf]; omega
        | some y =>
         have hbv : byV P G j = (y : Int) := byV_some hat
         rw [hbv] at y0
         have hyn := HAt.out j y hat
         have hyi : (y : Int) < (n : Int) := by omega
         have hy0' : (y : Int) ≥ 0 := by omega
         by_cases hqK : q < K
         ·have hqi : (q : Int) < (K : Int) := by omega
          have hql : q = (lofP P G j).length := by have := HQ.out; omega
          have x0 := HP6.out y 0 hyn (by omega) _ KB.out
          have x1 := HP6.out y 1 hyn (by omega) _ KB.out
          have x2 := HP6.out y 2 hyn (by omega) _ KB.out
          have x3 := HP6.out y 3 hyn (by omega) _ KB.out
          have x4 := HP6.out y 4 hyn (by omega) _ KB.out
          have x5 := HP6.out y 5 hyn (by omega) _ KB.out
          simp only [celp, cel, Nat.add_zero] at x0 x1 x2 x3 x4 x5
          have HQ2 : Hid (q + 1 = min (lofP P G (j + 1)).length K) := by show _ = _; rw [lofP_more hat, List.length_append, ← hql]; simp; omega
          have HRow : Hid (gL (outC P A C G (j + 1)) (q + 1) = gL (outC P A C G j) q ++ [.string (P y).r, .int .i64 (P y).k, .int .i64 (P y).n, .int .i64 (P y).i, .string (P y).b, .slice (A y) (P y).m (C y)]) := by
           show _ = _
           rw [gL_snoc]
           have e1 : gL (outC P A C G (j + 1)) q = gL (outC P A C G j) q := gL_congr (fun i q' hi _ => by unfold outC; rw [lofP_pre (by omega)])
           have e2 : (lofP P G (j + 1)).getD q 0 = y := by rw [lofP_more hat, hql, List.getD_eq_getElem?_getD]; simp
           rw [e1]
           unfold outC
           rw [e2]
           rfl
          clear hbv hat hql
          go_wp2_with (at_builtin; refine wpList_append_lies _ (by rfl) _ _ 24 (by rfl) wo.heap.size 30 j0 (.agg #[.string ByteArray.empty, .int .i64 0, .int .i64 0, .int .i64 0, .string ByteArray.empty, .slice none 0 0]) 6 80 Tryz.underlying24 hjj hy0 hy1 hy2 rfl (by decide) (.slice (some ⟨g3, 0, none⟩) q c3) q _ (by rfl) (World.ownsRow.alloc KO.out _) ⟨wr.heap.size, 0, none⟩ 1 1 [.string (P y).r, .int .i64 (P y).k, .int .i64 (P y).n, .int .i64 (P y).i, .string (P y).b, .slice (A y) (P y).m (C y)] (by rfl) (by rfl) (World.news_of_block (cs := #[.string (P y).r, .int .i64 (P y).k, .int .i64 (P y).n, .int .i64 (P y).i, .string (P y).b, .slice (A y) (P y).m (C y)]) (t := 30) (fr := (0, 0)) (heap_alloc_new wr _)) (by simp [Value.oneCell']) (by omega) (by unfold maxLen; omega) (by omega) (by simp; omega) (wr.heap.size + 1) (by simp) ?_; intro g4 c4 w4 hown4 hgrow4 hat4 hlt4)
          have KO4 : Hid (OwnC w4 wo.heap.size (some ⟨g4, 0, none⟩) (q + 1) c4 (outC P A C G (j + 1))) := by
           show World.ownsRow _ _ _ _ _ _ _
           rw [HRow.out]
           exact hown4
          have KB4 : Hid (Below wo.heap.size wo w4) := (KB.out.alloc hsz _).grown (show World.grownBy _ w4 (some g3) from hgrow4) (by simp; omega) (fun z hz => by cases hz; exact lg3.1)
          clear hown4 hgrow4 hat4 x0 x1 x2 x3 x4 x5
          go_roundw
          case rel => exact ⟨j + 1, q + 1, g4, c4, by omega, HQ2, by omega, by go_num, rfl, KO4.out, KB4.out⟩
          case measure => simp [intOf]; omega
         ·have hqi : ¬ (q : Int) < (K : Int) := by omega
          have HQ2 : Hid (q = min (lofP P G (j + 1)).length K) := by
           have := HQ.out
           show _ = _
           rw [lofP_more hat, List.length_append]
           simp
           omega
          have KO2 : Hid (OwnC wr wo.heap.size (some ⟨g3, 0, none⟩) q c3 (outC P A C G (j + 1))) := OwnC.congr KO.out (fun i q' hi _ => by
           have := HQ.out
           unfold outC
           rw [lofP_pre (by omega)])
          clear hbv hat
          go_wp2
          go_roundw
          case rel => exact ⟨j + 1, q, g3, c3, by omega, HQ2, hq16, by go_num, rfl, KO2.out, KB.out⟩
          case measure => simp [intOf]; omega
       ·obtain rfl : j = 16 := by omega
        have z1 := HKx.out _ hbel
        have HC : Hid (∀ j' q', j' < q → q' < 6 → wr.cell? ⟨g3, j' * 6 + q', none⟩ = some (celp P A C ((lofP P G 16).getD j' 0) q')) := fun j' q' h1 h2 => OwnC.cell hown h1 h2
        have KBe : Hid (∀ k : Nat, Below w.heap.size w (wr.drewN k)) := fun k => belowDrewN (below2 KB1.out hbel) k
        by_cases hqK : q = K
        ·have hKG : K ≤ G.length := by have := HQ.out; have := HLen.out; omega
         have HE : Hid (enB root n P = true) := by show _ = _; rw [HEN.out]; exact decide_eq_true hKG
         have HT : Hid ((enK root n P).toNat = q) := by show _ = _; rw [HEK.out, hqK]; simp
         have hqb : ((q : Int) == (K : Int)) = true := by rw [hqK]; simp
         have HQK : Hid (q = K) := hqK
         clear hown hbel hqK hKG
         go_wp2_with fail
         go_quiet (fail)
         go_wp2
         go_ret2
         exact ⟨KBe.out _, .inr ⟨HE.out, g3, c3, lofP P G 16, by rw [HT.out]; rfl, HPerm.out, fun x y hxy hy => asc_getD (lofP_asc P G 16) x y hxy hy, fun j' q' h1 h2 => HC.out j' q' (by rw [← HT.out]; exact h1) h2⟩⟩
        ·have HE : Hid (enB root n P = false) := by show _ = _; rw [HEN.out]; exact decide_eq_false (by have := HQ.out; have := HLen.out; omega)
         have hqb : ((q : Int) == (K : Int)) = false := by simp; omega
         clear hown hbel hqK
         go_wp2_with fail
         go_quiet (fail)
         go_wp2
         go_ret2
         exact ⟨KBe.out _, .inl ⟨HE.out, _, rfl⟩⟩
end Go.Proofs.YtodnodekheaacaaGreatDoor
