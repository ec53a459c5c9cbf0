import Derived.Test.YtodnodekheaacaaGreatDoorI32
import Derived.Test.YtodnodekheaacaaGreatDoorI34
import Derived.Test.YtodnodekheaacaaGreatDoorI35
import Derived.BigQuiet
import Derived.Test.YtodnodekheaacaaGreatDoorI29
import Derived.Test.YtodnodekheaacaaGreatDoorI30
import Derived.Test.YtodnodekheaacaaGreatDoorI28
import Derived.Test.YtodnodekheaacaaGreatDoorI33
import Derived.Test.YtodnodekheaacaaGreatDoorI6
import Derived.Lib.QuietBelow
set_option maxHeartbeats 8000000
set_option maxRecDepth 2000
open Go.ChangeShapes Go.WideShapes Go.ChangeAt Go.RowKit
namespace Go.Proofs.YtodnodekheaacaaGreatDoor
def ChE (w' : World) (root : ByteArray) (n : Nat) (P : Nat → Pc) (A : Nat → Option Addr) (C : Nat → Nat) (e : Ending) : Prop :=
 (enB root n P = false ∧ ∃ v, e = .returned (.tuple #[v, .bool false])) ∨
 (enB root n P = true ∧ ∃ (g cc : Nat) (L : List Nat), e = .returned (.tuple #[.slice (some ⟨g, 0, none⟩) (enK root n P).toNat cc, .bool true]) ∧ L.Perm (gsel root P n) ∧ (∀ x y, x < y → y < L.length → (P (L.getD x 0)).i ≤ (P (L.getD y 0)).i) ∧ (∀ j q, j < (enK root n P).toNat → q < 6 → w'.cell? ⟨g, j * 6 + q, none⟩ = some (celp P A C (L.getD j 0) q)))
def ChOk (root : ByteArray) (a : Option Addr) (n cap : Nat) (P : Nat → Pc) (A : Nat → Option Addr) (C : Nat → Nat) (w : World) : Prop :=
 ∀ W, Below w.heap.size w W → Calls Tryz.prog 31 #[.string root, .slice a n cap] W fun e w' => Below W.heap.size W w' ∧ ChE w' root n P A C e
theorem en_parts {root : ByteArray} {n : Nat} {P : Nat → Pc} {L : List Nat} (hen : enB root n P = true) (hp : L.Perm (gsel root P n)) : 0 < (enK root n P).toNat ∧ (enK root n P).toNat ≤ 64 ∧ (enK root n P).toNat ≤ L.length ∧ (qL P L 0).b.size ≤ 1048576 := by
 have hlen : L.length = (gsel root P n).length := hp.length_eq
 have hpart : n ≤ 64 ∧ gsel root P n ≠ [] ∧ enK root n P ≤ ((gsel root P n).length : Int) := by
  unfold enB at hen
  simp only [Bool.and_eq_true, decide_eq_true_eq] at hen
  exact ⟨hen.1.1, hen.1.2, hen.2⟩
 have hgl := gsel_len root P n
 have hg0 : 0 < (gsel root P n).length := List.length_pos_iff.2 hpart.2.1
 have hk1 : 1 ≤ enK root n P := (pok_k (gsel_mem (getD_memL hg0)).2.2).1
 have hL0 := (pok_k (gsel_mem (hp.mem_iff.1 (getD_memL (L := L) (j := 0) (by omega)))).2.2).2.2.2.2
 exact ⟨by omega, by omega, by omega, Nat.le_trans hL0 (by omega)⟩
def byL (P : Nat → Pc) (G : List Nat) : List Value := (List.range 16).map fun p => .int .i64 (byV P G p)
theorem byL_len (P : Nat → Pc) (G : List Nat) : (byL P G).length = 16 := by simp [byL]
theorem byL_get (P : Nat → Pc) (G : List Nat) {p : Nat} (h : p < 16) : (byL P G)[p]? = some (.int .i64 (byV P G p)) := by simp [byL, h]
theorem byL_nil (P : Nat → Pc) : byL P [] = List.replicate 16 (.int .i64 (-1)) := by
 apply List.ext_getElem?
 intro i
 by_cases h : i < 16
 ·rw [byL_get P [] h, List.getElem?_replicate, if_pos h]
  rfl
 ·rw [List.getElem?_eq_none (by rw [byL_len]; omega), List.getElem?_eq_none (by simp; omega)]
theorem byL_set {P : Nat → Pc} {G : List Nat} {c p : Nat} (hi : (P c).i = (p : Int)) (_hp : p < 16) (hn : ¬ 0 ≤ byV P G p) : (byL P G).set p (.int .i64 (c : Int)) = byL P (G ++ [c]) := by
 apply List.ext_getElem?
 intro i
 by_cases h : i < 16
 ·rw [List.getElem?_set, byL_get P (G ++ [c]) h, byV_app, hi]
  by_cases e : p = i
  ·subst e
   rw [if_pos rfl, if_pos (by rw [byL_len]; exact h), if_neg hn, if_pos rfl]
  ·rw [if_neg e, byL_get P G h, if_neg (show ¬ ((p : Int) = (i : Int)) by omega)]
   by_cases h0 : 0 ≤ byV P G i
   ·rw [if_pos h0]
   ·rw [if_neg h0]
    have : byV P G i = -1 := by
     cases e2 : atPl P G i with
     | none => exact byV_none e2
     | some x => exact absurd (byV_nn.2 ⟨x, e2⟩) h0
    rw [this]
 ·rw [List.getElem?_eq_none (by rw [List.length_set, byL_len]; omega), List.getElem?_eq_none (by rw [byL_len]; omega)]
def outC (P : Nat → Pc) (A : Nat → Option Addr) (C : Nat → Nat) (G : List Nat) (c j : Nat) : Nat → Value := celp P A C ((lofP P G c).getD j 0)
theorem lofP_pre {P : Nat → Pc} {G : List Nat} {c j : Nat} (h : j < (lofP P G c).length) : (lofP P G (c + 1)).getD j 0 = (lofP P G c).getD j 0 := by
 rw [lofP_succ, List.getD_eq_getElem?_getD, List.getD_eq_getElem?_getD, List.getElem?_append_left h]
theorem lofP_same {P : Nat → Pc} {G : List Nat} {c : Nat} (h : atPl P G c = none) : lofP P G (c + 1) = lofP P G c := by rw [lofP_succ, h]; simp
theorem lofP_more {P : Nat → Pc} {G : List Nat} {c x : Nat} (h : atPl P G c = some x) : lofP P G (c + 1) = lofP P G c ++ [x] := by rw [lofP_succ, h]
theorem own_drewN {w : World} {B e s : Nat} {v : Value} {n : Nat} {xs : List Value} (h : w.ownsRow B e s v n xs) (k : Nat) : (w.drewN k).ownsRow B e s v n xs := h
theorem chosen_any (root : ByteArray) (a : Option Addr) (n cap : Nat) (A : Nat → Option Addr) (C : Nat → Nat) (P : Nat → Pc) (w : World) (h : PiA w a n A C P) (hn : n ≤ 1048576) (hm : ∀ i, i < n → (P i).m ≤ 1048576) (hL : ∀ i, i < n → ∀ j, j < (P i).m → ((P i).S j).size ≤ maxLen) :
  Calls Tryz.prog 31 #[.string root, .slice a n cap] w fun e w' => Below w.heap.size w w' ∧ ChE w' root n P A C e := by
 obtain ⟨i0, hi, hz0, hz1, hz2⟩ := info_parts Tryz.infoInt
 obtain ⟨j0, hjj, hy0, hy1, hy2⟩ := info_parts Tryz.infoPc3
 have KH : Hid (PiA w a n A C P) := h
 have HOK : Hid (∀ c W, c < n → Below w.heap.size w W → Calls Tryz.prog 16 #[pcV (P c).r (P c).k (P c).n (P c).i (P c).b (.slice (A c) (P c).m (C c))] W fun e w' => e = .returned (.bool (pok P c)) ∧ Below W.heap.size W w') := fun c W hc hW => sPieceOk_any (P c).r (P c).k (P c).n (P c).i (P c).b (A c) (P c).m (C c) (P c).S W ((h c hc).2.below hW) (hm c hc) (hL c hc)
 clear h hm hL
 go_enter Tryz.func31, Tryz.ntmps31
 go_wp2
 go_loopw [7, 8] (fun v7 v8 wr => ∃ j g cc : Nat, j ≤ 16 ∧ v8 = .int .i64 (j : Int) ∧ v7 = .slice (some ⟨g, 0, none⟩) j cc ∧ wr.ownsRow w.heap.size 3 1 (.slice (some ⟨g, 0, none⟩) j cc) j (List.replicate j (.int .i64 (-1))) ∧ Below w.heap.size w wr) (fun _ v8 _ => 16 - (intOf v8).toNat)
 case atStart => exact ⟨0, w.heap.size, 0, by omega, rfl, rfl, World.ownsRow_lit w #[] 0 (Nat.le_refl _) (by unfold maxLen; omega) (by simp), (Below.refl _ _).alloc (Nat.le_refl _) _⟩
 case round =>
  obtain ⟨j, g, cc, hj16, rfl, rfl, hown, hbel⟩ := hrel
  by_cases hlt : j < 16
  ·have hji : (j : Int) < 16 := by omega
   have hsz := hbel.size
   have lg := World.ownsRow.lt hown g rfl
   have HB : Hid (Below w.heap.size w wr) := hbel
   clear hbel
   go_wp2_with (at_builtin; refine wpList_append_all _ (by rfl) _ _ 25 (by rfl) w.heap.size 3 i0 (.int .i64 0) 1 8 Tryz.underlying25 hi hz0 hz1 hz2 rfl (by decide) g j cc _ (by rfl) (World.ownsRow.alloc hown _) ⟨wr.heap.size, 0, none⟩ 1 1 [.int .i64 (-1)] (by rfl) (by rfl) (World.news_of_block (cs := #[.int .i64 (-1)]) (t := 3) (fr := (0, 0)) (heap_alloc_new wr _)) (by simp [Value.oneCell']) (by unfold maxLen; omega) (by omega) (by simp; omega) ?_; intro g3 cap3 w3 hown3 hgrow3)
   have KO : Hid (w3.ownsRow w.heap.size 3 1 (.slice (some ⟨g3, 0, none⟩) (j + 1) cap3) (j + 1) (List.replicate (j + 1) (.int .i64 (-1)))) := by
    rw [List.replicate_succ']
    exact hown3
   have KB : Hid (Below w.heap.size w w3) := (HB.out.alloc hsz _).grown hgrow3 (by simp; omega) (fun x hx => by cases hx; exact lg.1)
   clear hown3 hgrow3 hown HB
   go_roundw
   case rel => exact ⟨j + 1, g3, cap3, by omega, by go_num, rfl, KO.out, KB.out⟩
   case measure => simp [intOf]; omega
  ·obtain rfl : j = 16 := by omega
   have lg := World.ownsRow.lt hown g rfl
   have KO1 : Hid (wr.ownsRow w.heap.size 3 1 (.slice (some ⟨g, 0, none⟩) 16 cc) 16 (byL P [])) := by
    rw [byL_nil]
    exact hown
   have KB1 : Hid (Below w.heap.size w wr) := hbel
   clear hown hbel
   go_wp2
   rw [show ((16 : Nat) : Int) = (16 : Int) from rfl]
   go_loopw [6, 9] (fun v6 v9 wr2 => ∃ c : Nat, Hid (c = 0 ∨ n ≤ 64) ∧ c ≤ n ∧ v9 = .int .i64 (c : Int) ∧ v6 = .int .i64 (fst1 (gsel root P c)) ∧ wr2.ownsRow w.heap.size 3 1 (.slice (some ⟨g, 0, none⟩) 16 cc) 16 (byL P (gsel root P c)) ∧ Below w.heap.size w wr2) (fun _ v9 _ => n - (intOf v9).toNat)
   case atStart => exact ⟨0, .inl rfl, Nat.zero_le _, rfl, rfl, KO1.out, KB1.out⟩
   case round =>
    obtain ⟨c, hc0, hcn, rfl, rfl, hown, hbel⟩ := hrel
    clear KO1 KB1
    by_cases hgo : c < n ∧ n ≤ 64
    ·obtain ⟨hlt, hn64⟩ := hgo
     have HN64 : Hid (c + 1 = 0 ∨ n ≤ 64) := .inr hn64
     have hci : (c : Int) < (n : Int) := by omega
     have hni : (n : Int) ≤ 64 := by omega
     obtain ⟨⟨b, off, rfl, hcell⟩, _⟩ := (KH.out.below hbel) c hlt
     have HP6 : Hid (∀ x q, x < n → q < 6 → ∀ W, Below wr.heap.size wr W → W.cell? ⟨b, off + x * 6 + q, none⟩ = some (celp P A C x q)) := fun x q hx hq W hW => by
      obtain ⟨⟨b', off', e', hc'⟩, _⟩ := (KH.out.below hbel) x hx
      cases e'
      have := hc' q hq
      rw [← Nat.add_assoc] at this
      exact (hW.cell (p := ⟨b, off + x * 6 + q, none⟩) (block_lt_of_cell this)).trans this
     have x0 := HP6.out c 0 hlt (by omega) wr (Below.refl _ _)
     have x1 := HP6.out c 1 hlt (by omega) wr (Below.refl _ _)
     have x2 := HP6.out c 2 hlt (by omega) wr (Below.refl _ _)
     have x3 := HP6.out c 3 hlt (by omega) wr (Below.refl _ _)
     have x4 := HP6.out c 4 hlt (by omega) wr (Below.refl _ _)
     have x5 := HP6.out c 5 hlt (by omega) wr (Below.refl _ _)
     simp only [celp, cel, Nat.add_zero] at x0 x1 x2 x3 x4 x5
     obtain ⟨V, HV⟩ : ∃ x, Hid (x = wr.heap.size) := ⟨_, rfl⟩
     obtain ⟨wv, HWV⟩ : ∃ x, Hid (x = wr.alloc (.cells (pcC (P c).r (P c).k (P c).n (P c).i (P c).b (.slice (A c) (P c).m (C c))) 30)) := ⟨_, rfl⟩
     have RV : Hid (Row wv V 30 (pcC (P c).r (P c).k (P c).n (P c).i (P c).b (.slice (A c) (P c).m (C c)))) := by show Row _ _ _ _; rw [HWV.out, HV.out]; exact Row.new wr _ _
     have bv : Below wr.heap.size wr wv := by rw [HWV.out]; exact (Below.refl _ _).alloc (Nat.le_refl _) _
     have KBw : Hid (Below w.heap.size w wr) := hbel
     have KBv : Hid (Below wr.heap.size wr wv) := bv
     have KOw : Hid (wr.ownsRow w.heap.size 3 1 (.slice (some ⟨g, 0, none⟩) 16 cc) 16 (byL P (gsel root P c))) := hown
     have KPk : Hid _ := HOK.out c wv hlt (below2 hbel bv)
     clear hown hbel bv hcell
     by_cases hr : (P c).r = root
     case neg =>
      have hr1 : ((P c).r.toList != root.toList) = true := by have := ba_ne hr; simp [bne, this]
      have hr2 := ba_ne hr
      have HG : Hid (gsel root P (c + 1) = gsel root P c) := gsel_skip (.inl hr)
      have KOv : Hid (wv.ownsRow w.heap.size 3 1 (.slice (some ⟨g, 0, none⟩) 16 cc) 16 (byL P (gsel root P (c + 1)))) := by rw [HG.out]; exact ownsRow_below KOw.out KBv.out
      have KBn : Hid (Below w.heap.size w wv) := below2 KBw.out KBv.out
      clear hr HP6 KPk
      go_wp2
      rw [← HWV.out]
      go_roundw
      case rel => exact ⟨c + 1, HN64, by omega, by go_num, by rw [HG.out], KOv.out, KBn.out⟩
      case measure => simp [intOf]; omega
     case pos =>
      have hr1 : ((P c).r.toList != root.toList) = false := by rw [hr]; simp
      have hr2 : ((P c).r.toList == root.toList) = true := by rw [hr]; simp
      have HRt : Hid ((P c).r = root) := hr
      clear hr
      cases hpk : pok P c with
      | false =>
       rw [hpk] at KPk
       have HG : Hid (gsel root P (c + 1) = gsel root P c) := gsel_skip (.inr hpk)
       clear HP6
       go_wp2_with fail
       rw [← HWV.out, ← HV.out]
       refine Calls.mono KPk.out ?_
       rintro e w2 ⟨rfl, b2⟩
       have bw := below2 KBv.out b2
       have KOv : Hid (w2.ownsRow w.heap.size 3 1 (.slice (some ⟨g, 0, none⟩) 16 cc) 16 (byL P (gsel root P (c + 1)))) := by rw [HG.out]; exact ownsRow_below KOw.out bw
       have KBn : Hid (Below w.heap.size w w2) := below2 KBw.out bw
       clear b2 bw KPk x0 x1 x2 x3 x4 x5 hr1 hr2
       go_wp2
       go_roundw
       case rel => exact ⟨c + 1, HN64, by omega, by go_num, by rw [HG.out], KOv.out, KBn.out⟩
       case measure => simp [intOf]; omega
      | true =>
       rw [hpk] at KPk
       obtain ⟨pp, hpi, hp16⟩ := pok_i hpk
       have HPI : Hid ((P c).i = (pp : Int)) := hpi
       rw [hpi] at x3 KPk
       have hpi16 : (pp : Int) < 16 := by omega
       have KRV : Hid (∀ W, Below wv.heap.size wv W → Row W V 30 (pcC (P c).r (P c).k (P c).n (pp : Int) (P c).b (.slice (A c) (P c).m (C c)))) := fun W hW => by
        have := RV.out.below hW RV.out.lt
        rw [HPI.out] at this
        exact this
       rw [hpi] at HWV RV
       by_cases hG : gsel root P c = []
       ·have HGn : Hid (gsel root P (c + 1) = [c]) := gsel_first HRt.out hpk hG
        have HGs : Hid (gsel root P c = []) := hG
        have hf1 : fst1 (gsel root P c) = -1 := by rw [hG]; rfl
        rw [hf1]
        clear hG hf1
        go_wp2_with fail
        rw [← HWV.out, ← HV.out]
        refine Calls.mono KPk.out ?_
        rintro e w2 ⟨rfl, b2⟩
        have bw := below2 KBv.out b2
        have ho2 := ownsRow_below KOw.out bw
        have y0 := World.ownsRow.cellAt ho2 pp (by omega)
        rw [byL_get P _ hp16, HGs.out, show byV P [] pp = -1 from rfl] at y0
        have f0 := World.ownsRow.frozenAt ho2 pp
        have R2 := KRV.out _ b2
        have z1 := R2.cell 1
        have z2 := R2.cell 2
        have z3 := R2.cell 3
        simp at z1 z2 z3
        have u1 := HP6.out c 1 hlt (by omega) w2 bw
        have u2 := HP6.out c 2 hlt (by omega) w2 bw
        simp only [celp, cel] at u1 u2
        have ek : ((P c).k == (P c).k) = true := by simp
        have en : ((P c).n == (P c).n) = true := by simp
        have KOv : Hid (∀ k : Nat, ((w2.drewN k).setCell ⟨g, pp, none⟩ (.int .i64 (c : Int))).ownsRow w.heap.size 3 1 (.slice (some ⟨g, 0, none⟩) 16 cc) 16 (byL P (gsel root P (c + 1)))) := fun k => by
         have h1 := (World.ownsRow.stored (own_drewN ho2 k) pp (.int .i64 (c : Int))).1
         rw [HGs.out, byL_set HPI.out hp16 (show ¬ 0 ≤ byV P [] pp by show ¬ (0 : Int) ≤ -1; omega)] at h1
         rw [HGn.out]
         exact h1
        have KBn : Hid (∀ k : Nat, Below w.heap.size w ((w2.drewN k).setCell ⟨g, pp, none⟩ (.int .i64 (c : Int)))) := fun k => (belowDrewN (below2 KBw.out bw) k).setCell lg.1 _
        have HF : Hid (fst1 (gsel root P (c + 1)) = (c : Int)) := by show _ = _; rw [HGn.out]; rfl
        clear b2 bw KPk x0 x1 x2 x3 x4 x5 hr1 hr2 ho2 R2
        go_wp2_with fail
        go_quiet (fail)
        go_wp2
        go_roundw
        case rel => exact ⟨c + 1, HN64, by omega, by go_num, by rw [HF.out], KOv.out _, KBn.out _⟩
        case measure => simp [intOf]; omega
       ·have HGs : Hid (gsel root P c ≠ []) := hG
        obtain ⟨x, HX⟩ : ∃ x, Hid ((gsel root P c).getD 0 0 = x) := ⟨_, rfl⟩
        have hf1 : fst1 (gsel root P c) = (x : Int) := by rw [fst1_get hG, HX.out]
        have hxn : x < n := by
         have hl : 0 < (gsel root P c).length := List.length_pos_iff.2 hG
         have := (gsel_mem (getD_memL (L := gsel root P c) (j := 0) hl)).1
         rw [HX.out] at this
         omega
        have hxi : (x : Int) < (n : Int) := by omega
        have hx0 : ¬ (x : Int) < 0 := by omega
        have HSt : Hid (gsel root P (c + 1) = if (P c).k = (P x).k ∧ (P c).n = (P x).n ∧ ¬ 0 ≤ byV P (gsel root P c) pp then gsel root P c ++ [c] else gsel root P c) := by
         have := gsel_step HRt.out hpk HPI.out hG
         rw [HX.out] at this
         exact this
        have HFn : Hid (fst1 (gsel root P c ++ [c]) = (x : Int)) := by show _ = _; rw [fst1_app, if_neg hG, hf1]
        rw [hf1]
        obtain ⟨bz, HBZ⟩ : ∃ z, Hid (byV P (gsel root P c) pp = z) := ⟨_, rfl⟩
        clear hG
        go_wp2_with fail
        rw [← HWV.out, ← HV.out]
        refine Calls.mono KPk.out ?_
        rintro e w2 ⟨rfl, b2⟩
        have bw := below2 KBv.out b2
        have ho2 := ownsRow_below KOw.out bw
        have y0 := World.ownsRow.cellAt ho2 pp (by omega)
        rw [byL_get P _ hp16, HBZ.out] at y0
        have f0 := World.ownsRow.frozenAt ho2 pp
        have R2 := KRV.out _ b2
        have z1 := R2.cell 1
        have z2 := R2.cell 2
        have z3 := R2.cell 3
        simp at z1 z2 z3
        have u1 := HP6.out x 1 hxn (by omega) w2 bw
        have u2 := HP6.out x 2 hxn (by omega) w2 bw
        simp only [celp, cel] at u1 u2
        have KO2 : Hid (w2.ownsRow w.heap.size 3 1 (.slice (some ⟨g, 0, none⟩) 16 cc) 16 (byL P (gsel root P c))) := ho2
        have KB2 : Hid (Below w.heap.size w w2) := below2 KBw.out bw
        have HF1 : Hid (fst1 (gsel root P c) = (x : Int)) := hf1
        clear b2 bw KPk x0 x1 x2 x3 x4 x5 hr1 hr2 ho2 R2 hf1
        by_cases hk : (P c).k = (P x).k
        case neg =>
         have ek : ((P c).k == (P x).k) = false := by simpa using hk
         have HGn : Hid (gsel root P (c + 1) = gsel root P c) := by show _ = _; rw [HSt.out, if_neg (fun h => hk h.1)]
         clear hk
         go_wp2_with fail
         go_quiet (fail)
         go_wp2
         go_roundw
         case rel => exact ⟨c + 1, HN64, by omega, by go_num, by rw [HGn.out, HF1.out], by rw [HGn.out]; exact own_drewN KO2.out _, belowDrewN KB2.out _⟩
         case measure => simp [intOf]; omega
        case pos =>
         have ek : ((P c).k == (P x).k) = true := by simpa using hk
         by_cases hnn : (P c).n = (P x).n
         case neg =>
          have en : ((P c).n == (P x).n) = false := by simpa using hnn
          have HGn : Hid (gsel root P (c + 1) = gsel root P c) := by show _ = _; rw [HSt.out, if_neg (fun h => hnn h.2.1)]
          clear hk hnn
          go_wp2_with fail
          go_quiet (fail)
          go_wp2
          go_roundw
          case rel => exact ⟨c + 1, HN64, by omega, by go_num, by rw [HGn.out, HF1.out], by rw [HGn.out]; exact own_drewN KO2.out _, belowDrewN KB2.out _⟩
          case measure => simp [intOf]; omega
         case pos =>
          have en : ((P c).n == (P x).n) = true := by simpa using hnn
          by_cases hz : bz < 0
          case neg =>
           have HGn : Hid (gsel root P (c + 1) = gsel root P c) := by show _ = _; rw [HSt.out, if_neg (fun h => hz (by have := h.2.2; rw [HBZ.out] at this; omega))]
           clear hk hnn
           go_wp2_with fail
           go_quiet (fail)
           go_wp2
           go_roundw
           case rel => exact ⟨c + 1, HN64, by omega, by go_num, by rw [HGn.out, HF1.out], by rw [HGn.out]; exact own_drewN KO2.out _, belowDrewN KB2.out _⟩
           case measure => simp [intOf]; omega
          case pos =>
           have HGn : Hid (gsel root P (c + 1) = gsel root P c ++ [c]) := by show _ = _; rw [HSt.out, if_pos ⟨hk, hnn, by rw [HBZ.out]; omega⟩]
           have KOv : Hid (∀ k : Nat, ((w2.drewN k).setCell ⟨g, pp, none⟩ (.int .i64 (c : Int))).ownsRow w.heap.size 3 1 (.slice (some ⟨g, 0, none⟩) 16 cc) 16 (byL P (gsel root P (c + 1)))) := fun k => by
            have h1 := (World.ownsRow.stored (own_drewN KO2.out k) pp (.int .i64 (c : Int))).1
            rw [byL_set HPI.out hp16 (by rw [HBZ.out]; omega)] at h1
            rw [HGn.out]
            exact h1
           have KBn : Hid (∀ k : Nat, Below w.heap.size w ((w2.drewN k).setCell ⟨g, pp, none⟩ (.int .i64 (c : Int)))) := fun k => (belowDrewN KB2.out k).setCell lg.1 _
           clear hk hnn
           go_wp2_with fail
           go_quiet (fail)
           go_wp2
           go_roundw
           case rel => exact ⟨c + 1, HN64, by omega, by go_num, by rw [HGn.out, HFn.out], KOv.out _, KBn.out _⟩
           case measure => simp [intOf]; omega
    ·obtain ⟨G, HGG⟩ : ∃ x, Hid (gsel root P c = x) := ⟨_, rfl⟩
     have HCase : Hid (G = gsel root P n ∨ (G = [] ∧ ¬ n ≤ 64)) := by
      rcases Nat.lt_or_ge c n with h1 | h1
      ·have h2 : ¬ n ≤ 64 := fun h => hgo ⟨h1, h⟩
       rcases hc0.out with h3 | h3
       ·exact .inr ⟨by rw [← HGG.out, h3]; rfl, h2⟩
       ·exact absurd h3 h2
      ·exact .inl (by rw [← HGG.out, show c = n by omega])
     rw [HGG.out] at hown
     rw [HGG.out]
     have KO1 : Hid (wr.ownsRow w.heap.size 3 1 (.slice (some ⟨g, 0, none⟩) 16 cc) 16 (byL P G)) := hown
     have KB1 : Hid (Below w.heap.size w wr) := hbel
     have hgoI : ¬ ((c : Int) < (n : Int) ∧ (n : Int) ≤ 64) := by omega
     clear hown hbel
     by_cases hG : G = []
     ·have hen : enB root n P = false := by
       unfold enB
       rcases HCase.out with h1 | h1
       ·rw [← h1, hG]; simp
       ·simp [h1.2]
      have hf1 : fst1 G = -1 := by rw [hG]; rfl
      rw [hf1]
      have KBe : Hid (∀ k : Nat, Below w.heap.size w ((wr.alloc (.cells #[] 30)).drewN k)) := fun k => belowDrewN (KB1.out.alloc KB1.out.size _) k
      have HEN : Hid (enB root n P = false) := hen
      clear hf1 hG hen
      by_cases h1 : (c : Int) < (n : Int)
      ·have h2 : ¬ (n : Int) ≤ 64 := fun h => hgoI ⟨h1, h⟩
       clear hgoI hgo
       go_wp2
       go_loopw [12] (fun v12 wr3 => v12 = .int .i64 0 ∧ wr3 = wr.alloc (.cells #[] 30)) (fun _ _ => 0)
       case atStart => exact ⟨rfl, rfl⟩
       case round =>
        obtain ⟨rfl, hw⟩ := hrel
        obtain rfl := hw.symm
        clear hw
        go_wp2_with fail
        go_quiet (fail)
        go_wp2
        go_ret2
        exact ⟨KBe.out _, .inl ⟨HEN.out, _, rfl⟩⟩
      ·clear hgoI hgo
       go_wp2
       go_loopw [12] (fun v12 wr3 => v12 = .int .i64 0 ∧ wr3 = wr.alloc (.cells #[] 30)) (fun _ _ => 0)
       case atStart => exact ⟨rfl, rfl⟩
       case round =>
        obtain ⟨rfl, hw⟩ := hrel
        obtain rfl := hw.symm
        clear hw
        go_wp2_with fail
        go_quiet (fail)
        go_wp2
        go_ret2
        exact ⟨KBe.out _, .inl ⟨HEN.out, _, rfl⟩⟩
     ·obtain ⟨wo, hwo⟩ : ∃ x, x = wr := ⟨_, rfl⟩
      subst hwo
      have hGn : G = gsel root P n := by
       rcases HCase.out with h1 | h1
       ·exact h1
       ·exact absurd h1.1 hG
      obtain ⟨x, HX⟩ : ∃ x, Hid (G.getD 0 0 = x) := ⟨_, rfl⟩
      have hl0 : 0 < G.length := List.length_pos_iff.2 hG
      have hxm := gsel_mem (root := root) (P := P) (c := n) (x := x) (by rw [← hGn, ← HX.out]; exact getD_memL hl0)
      have hxn : x < n := hxm.1
      have hpk := pok_k hxm.2.2
      obtain ⟨K, hK⟩ : ∃ K : Nat, (P x).k = (K : Int) := Int.eq_ofNat_of_zero_le (by have := hpk.1; omega)
      have hK16 : 1 ≤ K ∧ K ≤ 16 := by
       have h1 := hpk.1
       have h2 := hpk.2.1
       have h3 := hpk.2.2.1
       rw [hK] at h1 h2
       omega
      obtain ⟨hK1, hKl⟩ := hK16
      have hf1 : fst1 G = (x : Int) := by rw [fst1_get hG, HX.out]
      have HEK : Hid (enK root n P = (K : Int)) := by show _ = _; unfold enK; rw [← hGn, HX.out, hK]
      have HEN : Hid (enB root n P = decide (K ≤ G.length)) := by
       show _ = _
       unfold enB
       rw [← hGn, HEK.out]
       have hn64 : n ≤ 64 := by
        rcases hc0.out with h3 | h3
        ·rcases Nat.lt_or_ge n 65 with h4 | h4
         ·omega
         ·exfalso
          have h5 : G = [] := by rw [← HGG.out, h3]; rfl
          exact hG h5
        ·exact h3
       simp [hn64, hG]
      have HPerm : Hid ((lofP P G 16).Perm (gsel root P n)) := by show List.Perm _ _; rw [hGn]; exact lofP_perm root P n
      have HLen : Hid ((lofP P G 16).length = G.length) := by show _ = _; rw [HPerm.out.length_eq, hGn]
      have HAt : Hid (∀ p y, atPl P G p = some y → y < n) := fun p y h => by
       have := (atPl_mem h).1
       rw [hGn] at this
       exact (gsel_mem this).1
      have hxi : (x : Int) < (n : Int) := by omega
      have hx0 : (x : Int) ≥ 0 := by omega
      obtain ⟨⟨b, off, rfl, _⟩, _⟩ := (KH.out.below KB1.out) x hxn
      have HP6 : Hid (∀ x q, x < n → q < 6 → ∀ W, Below wo.heap.size wo W → W.cell? ⟨b, off + x * 6 + q, none⟩ = some (celp P A C x q)) := fun x q hx hq W hW => by
       obtain ⟨⟨b', off', e', hc'⟩, _⟩ := (KH.out.below KB1.out) x hx
       cases e'
       have := hc' q hq
       rw [← Nat.add_assoc] at this
       exact (hW.cell (p := ⟨b, off + x * 6 + q, none⟩) (block_lt_of_cell this)).trans this
      have HBy : Hid (∀ p, p < 16 → ∀ W, Below wo.heap.size wo W → W.cell? ⟨g, p, none⟩ = some (.int .i64 (byV P G p))) := fun p hp W hW => by
       have h1 := World.ownsRow.cellAt KO1.out p (by omega)
       rw [byL_get P G hp] at h1
       exact (hW.cell (p := ⟨g, p, none⟩) (block_lt_of_cell h1)).trans h1
      have HKx : Hid (∀ W, Below wo.heap.size wo W → W.cell? ⟨b, off + x * 6 + 1, none⟩ = some (.int .i64 (K : Int))) := fun W hW => by
       have := HP6.out x 1 hxn (by omega) W hW
       simp only [celp, cel, hK] at this
       exact this
      have hgoI' : ¬ ((c : Int) < (n : Int) ∧ (n : Int) ≤ 64) := hgoI
      have hcn' : ¬ (c : Int) < (n : Int) := by
       intro h1
       have h2 : ¬ n ≤ 64 := fun h => hgo ⟨by omega, h⟩
       rcases hc0.out with h3 | h3
       ·exact hG (by rw [← HGG.out, h3]; rfl)
       ·exact h2 h3
      rw [hf1]
      clear hf1 hG hgoI hgoI' hgo hGn hxm hpk hK hl0 HCase
      go_wp2
      go_loopw [11, 12] (fun v11 v12 wr3 => ∃ j q g3 c3 : Nat, j ≤ 16 ∧ Hid (q = min (lofP P G j).length K) ∧ q ≤ 16 ∧ v12 = .int .i64 (j : Int) ∧ v11 = .slice (some ⟨g3, 0, none⟩) q c3 ∧ OwnC wr3 wo.heap.size (some ⟨g3, 0, none⟩) q c3 (outC P A C G j) ∧ Below wo.heap.size wo wr3) (fun _ v12 _ => 16 - (intOf v12).toNat)
      case atStart =>
       refine ⟨0, 0, wo.heap.size, 0, by omega, by show 0 = min (lofP P G 0).length K; simp [lofP], by omega, rfl, rfl, ?_, (Below.refl _ _).alloc (Nat.le_refl _) _⟩
       exact World.ownsRow_lit wo #[] 0 (Nat.le_refl _) (by unfold maxLen; omega) (by simp)
      case round =>
       obtain ⟨j, q, g3, c3, hj16, HQ, hq16, rfl, rfl, hown, hbel⟩ := hrel
       have lg3 := World.ownsRow.lt hown g3 rfl
       have hsz := hbel.size
       by_cases hlt : j < 16
       ·have hji : (j : Int) < 16 := by omega
        have y0 := HBy.out j hlt _ hbel
        have z1 := HKx.out _ hbel
        have KO : Hid (OwnC wr wo.heap.size (some ⟨g3, 0, none⟩) q c3 (outC P A C G j)) := hown
        have KB : Hid (Below wo.heap.size wo wr) := hbel
        clear hown hbel
        cases hat : atPl P G j with
        | none =>
         have hbv : byV P G j = -1 := byV_none hat
         rw [hbv] at y0
         have HQ2 : Hid (q = min (lofP P G (j + 1)).length K) := by show _ = _; rw [lofP_same hat]; exact HQ.out
         have KO2 : Hid (OwnC wr wo.heap.size (some ⟨g3, 0, none⟩) q c3 (outC P A C G (j + 1))) := OwnC.congr KO.out (fun i q' _ _ => by unfold outC; rw [lofP_same hat])
         clear hbv hat
         go_wp2
         go_roundw
         case rel => exact ⟨j + 1, q, g3, c3, by omega, HQ2, hq16, by go_num, rfl, KO2.out, KB.out⟩
         case measure => simp [intOf]; omega
        | some y =>
         have hbv : byV P G j = (y : Int) := byV_some hat
         rw [hbv] at y0
         have hyn := HAt.out j y hat
         have hyi : (y : Int) < (n : Int) := by omega
         have hy0' : (y : Int) ≥ 0 := by omega
         by_cases hqK : q < K
         ·have hqi : (q : Int) < (K : Int) := by omega
          have hql : q = (lofP P G j).length := by have := HQ.out; omega
          have x0 := HP6.out y 0 hyn (by omega) _ KB.out
          have x1 := HP6.out y 1 hyn (by omega) _ KB.out
          have x2 := HP6.out y 2 hyn (by omega) _ KB.out
          have x3 := HP6.out y 3 hyn (by omega) _ KB.out
          have x4 := HP6.out y 4 hyn (by omega) _ KB.out
          have x5 := HP6.out y 5 hyn (by omega) _ KB.out
          simp only [celp, cel, Nat.add_zero] at x0 x1 x2 x3 x4 x5
          have HQ2 : Hid (q + 1 = min (lofP P G (j + 1)).length K) := by show _ = _; rw [lofP_more hat, List.length_append, ← hql]; simp; omega
          have HRow : Hid (gL (outC P A C G (j + 1)) (q + 1) = gL (outC P A C G j) q ++ [.string (P y).r, .int .i64 (P y).k, .int .i64 (P y).n, .int .i64 (P y).i, .string (P y).b, .slice (A y) (P y).m (C y)]) := by
           show _ = _
           rw [gL_snoc]
           have e1 : gL (outC P A C G (j + 1)) q = gL (outC P A C G j) q := gL_congr (fun i q' hi _ => by unfold outC; rw [lofP_pre (by omega)])
           have e2 : (lofP P G (j + 1)).getD q 0 = y := by rw [lofP_more hat, hql, List.getD_eq_getElem?_getD]; simp
           rw [e1]
           unfold outC
           rw [e2]
           rfl
          clear hbv hat hql
          go_wp2_with (at_builtin; refine wpList_append_lies _ (by rfl) _ _ 24 (by rfl) wo.heap.size 30 j0 (.agg #[.string ByteArray.empty, .int .i64 0, .int .i64 0, .int .i64 0, .string ByteArray.empty, .slice none 0 0]) 6 80 Tryz.underlying24 hjj hy0 hy1 hy2 rfl (by decide) (.slice (some ⟨g3, 0, none⟩) q c3) q _ (by rfl) (World.ownsRow.alloc KO.out _) ⟨wr.heap.size, 0, none⟩ 1 1 [.string (P y).r, .int .i64 (P y).k, .int .i64 (P y).n, .int .i64 (P y).i, .string (P y).b, .slice (A y) (P y).m (C y)] (by rfl) (by rfl) (World.news_of_block (cs := #[.string (P y).r, .int .i64 (P y).k, .int .i64 (P y).n, .int .i64 (P y).i, .string (P y).b, .slice (A y) (P y).m (C y)]) (t := 30) (fr := (0, 0)) (heap_alloc_new wr _)) (by simp [Value.oneCell']) (by omega) (by unfold maxLen; omega) (by omega) (by simp; omega) (wr.heap.size + 1) (by simp) ?_; intro g4 c4 w4 hown4 hgrow4 hat4 hlt4)
          have KO4 : Hid (OwnC w4 wo.heap.size (some ⟨g4, 0, none⟩) (q + 1) c4 (outC P A C G (j + 1))) := by
           show World.ownsRow _ _ _ _ _ _ _
           rw [HRow.out]
           exact hown4
          have KB4 : Hid (Below wo.heap.size wo w4) := (KB.out.alloc hsz _).grown (show World.grownBy _ w4 (some g3) from hgrow4) (by simp; omega) (fun z hz => by cases hz; exact lg3.1)
          clear hown4 hgrow4 hat4 x0 x1 x2 x3 x4 x5
          go_roundw
          case rel => exact ⟨j + 1, q + 1, g4, c4, by omega, HQ2, by omega, by go_num, rfl, KO4.out, KB4.out⟩
          case measure => simp [intOf]; omega
         ·have hqi : ¬ (q : Int) < (K : Int) := by omega
          have HQ2 : Hid (q = min (lofP P G (j + 1)).length K) := by
           have := HQ.out
           show _ = _
           rw [lofP_more hat, List.length_append]
           simp
           omega
          have KO2 : Hid (OwnC wr wo.heap.size (some ⟨g3, 0, none⟩) q c3 (outC P A C G (j + 1))) := OwnC.congr KO.out (fun i q' hi _ => by
           have := HQ.out
           unfold outC
           rw [lofP_pre (by omega)])
          clear hbv hat
          go_wp2
          go_roundw
          case rel => exact ⟨j + 1, q, g3, c3, by omega, HQ2, hq16, by go_num, rfl, KO2.out, KB.out⟩
          case measure => simp [intOf]; omega
       ·obtain rfl : j = 16 := by omega
        have z1 := HKx.out _ hbel
        have HC : Hid (∀ j' q', j' < q → q' < 6 → wr.cell? ⟨g3, j' * 6 + q', none⟩ = some (celp P A C ((lofP P G 16).getD j' 0) q')) := fun j' q' h1 h2 => OwnC.cell hown h1 h2
        have KBe : Hid (∀ k : Nat, Below w.heap.size w (wr.drewN k)) := fun k => belowDrewN (below2 KB1.out hbel) k
        by_cases hqK : q = K
        ·have hKG : K ≤ G.length := by have := HQ.out; have := HLen.out; omega
         have HE : Hid (enB root n P = true) := by show _ = _; rw [HEN.out]; exact decide_eq_true hKG
         have HT : Hid ((enK root n P).toNat = q) := by show _ = _; rw [HEK.out, hqK]; simp
         have hqb : ((q : Int) == (K : Int)) = true := by rw [hqK]; simp
         have HQK : Hid (q = K) := hqK
         clear hown hbel hqK hKG
         go_wp2_with fail
         go_quiet (fail)
         go_wp2
         go_ret2
         exact ⟨KBe.out _, .inr ⟨HE.out, g3, c3, lofP P G 16, by rw [HT.out]; rfl, HPerm.out, fun x y hxy hy => asc_getD (lofP_asc P G 16) x y hxy hy, fun j' q' h1 h2 => HC.out j' q' (by rw [← HT.out]; exact h1) h2⟩⟩
        ·have HE : Hid (enB root n P = false) := by show _ = _; rw [HEN.out]; exact decide_eq_false (by have := HQ.out; have := HLen.out; omega)
         have hqb : ((q : Int) == (K : Int)) = false := by simp; omega
         clear hown hbel hqK
         go_wp2_with fail
         go_quiet (fail)
         go_wp2
         go_ret2
         exact ⟨KBe.out _, .inl ⟨HE.out, _, rfl⟩⟩
noncomputable def allQ (K : Nat) (Q : Nat → Pc) : Nat → Pc := cutP (Q 0).k (Q 0).n.toNat (alQ K Q)
def RsE (root : ByteArray) (K : Nat) (Q : Nat → Pc) (e : Ending) : Prop :=
 (¬ Cm root K Q ∧ e = .returned (.tuple #[.string ⟨#[]⟩, .int .i64 2])) ∨
 (Cm root K Q ∧ dcB (Q 0).k (Q 0).n (zsQ K (allQ K Q)) K (sQ (allQ K Q)) = false ∧ e = .returned (.tuple #[.string ⟨#[]⟩, .int .i64 2])) ∨
 (Cm root K Q ∧ dcB (Q 0).k (Q 0).n (zsQ K (allQ K Q)) K (sQ (allQ K Q)) = true ∧ e = .returned (.tuple #[.string (dcS (Q 0).k (Q 0).n (zsQ K (allQ K Q)) K (sQ (allQ K Q))), .int .i64 0]))
theorem sRegain_any (root : ByteArray) (a : Option Addr) (n cap : Nat) (A : Nat → Option Addr) (C : Nat → Nat) (P : Nat → Pc) (w : World) (hch : ChOk root a n cap P A C w) :
  Calls Tryz.prog 8 #[.string root, .slice a n cap] w fun e w' => Below w.heap.size w w' ∧ ((enB root n P = false ∧ e = .returned (.tuple #[.string ⟨#[]⟩, .int .i64 1])) ∨ (enB root n P = true ∧ ∃ L : List Nat, L.Perm (gsel root P n) ∧ (∀ x y, x < y → y < L.length → (P (L.getD x 0)).i ≤ (P (L.getD y 0)).i) ∧ RsE root (enK root n P).toNat (qL P L) e)) := by
 obtain ⟨i0, hi, hz0, hz1, hz2⟩ := info_parts Tryz.infoInt
 obtain ⟨j0, hj, hy0, hy1, hy2⟩ := info_parts Tryz.infoStr
 have KCH : Hid _ := hch w (Below.refl _ _)
 clear hch
 go_enter Tryz.func8, Tryz.ntmps8
 go_wp2_with fail
 refine Calls.mono KCH.out ?_
 rintro e w1 ⟨hb1, h1⟩
 have KB1 : Hid (Below w.heap.size w w1) := hb1
 rcases h1 with ⟨hen, v1, rfl⟩ | ⟨hen, g, cc, L, rfl, hp, hso, hcell⟩
 ·clear KCH hb1
  go_wp2
  go_ret2
  exact ⟨KB1.out, .inl ⟨hen, rfl⟩⟩
 ·obtain ⟨k0, k64, kL, kb⟩ := en_parts hen hp
  obtain ⟨K, HK⟩ : ∃ x, Hid ((enK root n P).toNat = x) := ⟨_, rfl⟩
  obtain ⟨Q, HQ⟩ : ∃ x, Hid (qL P L = x) := ⟨_, rfl⟩
  have HFin : Hid (∀ e, RsE root K Q e → (enB root n P = false ∧ e = .returned (.tuple #[.string ⟨#[]⟩, .int .i64 1])) ∨ (enB root n P = true ∧ ∃ L : List Nat, L.Perm (gsel root P n) ∧ (∀ x y, x < y → y < L.length → (P (L.getD x 0)).i ≤ (P (L.getD y 0)).i) ∧ RsE root (enK root n P).toNat (qL P L) e)) := fun e he => .inr ⟨hen, L, hp, hso, by rw [HK.out, HQ.out]; exact he⟩
  rw [HK.out] at k0 k64 hcell
  rw [HK.out]
  rw [HQ.out] at kb
  have KBO : Hid _ := sBod_any root g K cc Q (fun j => A (L.getD j 0)) (fun j => C (L.getD j 0)) w1 (fun j q hj hq => by rw [← HQ.out]; exact hcell j q hj hq) k0 k64 kb
  clear hcell hp hso hen HK HQ KCH hb1
  go_wp2_with fail
  refine Calls.mono KBO.out ?_
  rintro e wb ⟨hb2, h2⟩
  have KB2 : Hid (Below w.heap.size w wb) := below2 KB1.out hb2
  rcases h2 with ⟨hcm, g', rfl⟩ | ⟨hcm, v, rfl, hP⟩
  ·have HFn : Hid _ := HFin.out (.returned (.tuple #[.string ⟨#[]⟩, .int .i64 2])) (.inl ⟨hcm, rfl⟩)
   clear KBO hb2
   go_wp2
   go_ret2
   exact ⟨KB2.out, HFn.out⟩
  ·obtain ⟨g5, c5, A5, C5, rfl, hO5⟩ := hP
   have hsp := sprOk_parts hcm.1.1
   have hkk : (Q 0).k = (K : Int) := hcm.1.2.2.1.symm
   obtain ⟨N, HN⟩ : ∃ x, Hid ((Q 0).n.toNat = x) := ⟨_, rfl⟩
   obtain ⟨R, HR⟩ : ∃ x, Hid (allQ K Q = x) := ⟨_, rfl⟩
   have hnn : (Q 0).n = (N : Int) := by rw [← HN.out]; exact (Int.toNat_of_nonneg (by omega)).symm
   have hRk : Hid (∀ j, (R j).k = (K : Int) ∧ (R j).n = (N : Int) ∧ (R j).i = (j : Int)) := fun j => by rw [← HR.out]; exact ⟨hkk, by show ((Q 0).n.toNat : Int) = N; rw [HN.out], rfl⟩
   have hO6 : OwnP wb w1.heap.size (some ⟨g5, 0, none⟩) N c5 A5 C5 R := by rw [← HR.out, ← HN.out]; exact hO5
   have hKN : K ≤ N := by omega
   have hN : 0 < N ∧ N ≤ 64 := by omega
   have HX : Hid (∀ j q, j < N → q < 6 → wb.cell? ⟨g5, j * 6 + q, none⟩ = some (cel (R j) (.slice (A5 j) (R j).m (C5 j)) q)) := fun j q hj hq => OwnC.cell hO6.1 hj hq
   have HRb : Hid ((R 0).b.size ≤ 1048576) := by show (R 0).b.size ≤ 1048576; rw [← HR.out]; show (alQ K Q 0).size ≤ 1048576; unfold alQ bdS; rw [bod_size]; exact kb
   have HFy : Hid (∀ ok, dcB (K : Int) (N : Int) (zsQ K R) K (sQ R) = ok → _) := fun ok hok => HFin.out (.returned (.tuple #[.string (if ok then dcS (K : Int) (N : Int) (zsQ K R) K (sQ R) else ⟨#[]⟩), .int .i64 (if ok then 0 else 2)])) (by
    rw [← HR.out, ← hkk, ← hnn] at hok
    cases ok with
    | false => exact .inr (.inl ⟨hcm, hok, rfl⟩)
    | true => exact .inr (.inr ⟨hcm, hok, by rw [← HR.out, ← hkk, ← hnn]; rfl⟩))
   have x1w := HX.out 0 1 hN.1 (by omega)
   have x2w := HX.out 0 2 hN.1 (by omega)
   simp only [cel, Nat.zero_mul, Nat.zero_add] at x1w x2w
   rw [(hRk.out 0).1] at x1w
   rw [(hRk.out 0).2.1] at x2w
   have hgw := block_lt_of_cell x1w
   simp only at hgw
   have hNi : (0 : Int) < (N : Int) := by omega
   rw [HN.out]
   clear hO5 hO6 KBO hb2 hcm hkk hnn hsp
   go_wp2
   go_loopw [10, 11, 12] (fun v10 v11 v12 wr => ∃ j g1 c1 g2 c2 : Nat, j ≤ K ∧ v12 = .int .i64 (j : Int) ∧ v10 = .slice (some ⟨g1, 0, none⟩) j c1 ∧ v11 = .slice (some ⟨g2, 0, none⟩) j c2 ∧ SbI wr wb.heap.size g1 c1 g2 c2 j R ∧ Below wb.heap.size wb wr) (fun _ _ v12 _ => K - (intOf v12).toNat)
   case atStart =>
    refine ⟨0, wb.heap.size, 0, wb.heap.size + 1, 0, Nat.zero_le _, rfl, rfl, rfl, ⟨World.ownsRow.alloc (World.ownsRow_lit wb #[] 0 (Nat.le_refl _) (by unfold maxLen; omega) (by simp)) _, ?_, by omega⟩, ((Below.refl _ _).alloc (Nat.le_refl _) _).alloc (by simp) _⟩
    have := OwnT.base (litT (wb.alloc (.cells #[] 3)) (sQ R)) (B' := wb.heap.size) (by simp)
    simpa using this
   case round =>
    obtain ⟨j, g1, c1, g2, c2, hjc, rfl, rfl, rfl, hl, hbel⟩ := hrel
    have x1 := (hbel.cell (p := ⟨g5, 1, none⟩) hgw).trans x1w
    by_cases hlt : j < K
    ·have hji : (j : Int) < (K : Int) := by omega
     have hjN : (j : Int) < (N : Int) := by omega
     have hsz := hbel.size
     have lg1 := World.ownsRow.lt hl.1 g1 rfl
     have lg2 := World.ownsRow.lt hl.2.1 g2 rfl
     have x4w := HX.out j 4 (by omega) (by omega)
     simp only [cel] at x4w
     have HI : Hid ((R j).i = (j : Int)) := (hRk.out j).2.2
     obtain ⟨bb, HBB⟩ : ∃ x, Hid ((R j).b = x) := ⟨_, rfl⟩
     rw [HBB.out] at x4w
     have hgg := hl.2.2
     have HL : Hid (OwnT wr wb.heap.size (some ⟨g2, 0, none⟩) j c2 (sQ R)) := hl.2.1
     have HBel : Hid (Below wb.heap.size wb wr) := hbel
     have hl1 := hl.1
     clear hl hbel
     go_wp2_with (first | (guard_hyp KA; at_builtin; refine wpList_append_lies _ (by rfl) _ _ 28 (by rfl) wb.heap.size 9 j0 (.string ByteArray.empty) 1 16 Tryz.underlying28 hj hy0 hy1 hy2 rfl (by decide) (.slice (some ⟨g2, 0, none⟩) j c2) j _ (by rfl) (World.ownsRow.alloc KA.out.2.1 _) ⟨w2.heap.size, 0, none⟩ 1 1 [.string bb] (by rfl) (by rfl) (World.news_of_block (cs := #[.string bb]) (t := 9) (fr := (0, 0)) (heap_alloc_new w2 _)) (by simp [Value.oneCell']) (by omega) (by unfold maxLen; omega) (by omega) (by simp; omega) (w2.heap.size + 1) (by simp) ?_; intro g4 c4 w3 hown3 hgrow3 hat3 hltg3) | (at_builtin; refine wpList_append_lies _ (by rfl) _ _ 25 (by rfl) wb.heap.size 3 i0 (.int .i64 0) 1 8 Tryz.underlying25 hi hz0 hz1 hz2 rfl (by decide) (.slice (some ⟨g1, 0, none⟩) j c1) j _ (by rfl) (World.ownsRow.alloc hl1 _) ⟨wr.heap.size, 0, none⟩ 1 1 [.int .i64 (j : Int)] (by rfl) (by rfl) (World.news_of_block (cs := #[.int .i64 (j : Int)]) (t := 3) (fr := (0, 0)) (heap_alloc_new wr _)) (by simp [Value.oneCell']) (by omega) (by unfold maxLen; omega) (by omega) (by simp; omega) (wr.heap.size + 1) (by simp) ?_; intro g3 c3 w2 hown2 hgrow hat hltg; have hb2 : Below wb.heap.size wb w2 := (HBel.out.alloc hsz _).grown (show World.grownBy _ w2 (some g1) from hgrow) (by simp; omega) (fun x hx => by cases hx; exact lg1.1); have x4 := (hb2.cell (p := ⟨g5, j * 6 + 4, none⟩) hgw).trans x4w; have KA : Hid (w2.ownsRow wb.heap.size 3 1 (.slice (some ⟨g3, 0, none⟩) (j + 1) c3) (j + 1) (zL (fun x => (R x).i) j ++ [.int .i64 (j : Int)]) ∧ OwnT w2 wb.heap.size (some ⟨g2, 0, none⟩) j c2 (sQ R) ∧ Below wb.heap.size wb w2) := ⟨hown2, World.ownsRow.kept (World.ownsRow.alloc HL.out _) (show World.grownBy _ w2 (some g1) from hgrow) (.inr (by intro e; exact hgg (by simpa [Value.ownBlock] using e.symm))), hb2⟩; have hg3 : g3 ≠ g2 := own_ne hat hgg (Nat.lt_succ_of_lt lg2.2); have hsz2 := hb2.size; have lg3 := (World.ownsRow.lt hown2 g3 rfl); have lg2' : g2 < w2.heap.size := (World.ownsRow.lt KA.out.2.1 g2 rfl).2; have x1' := (hb2.cell (p := ⟨g5, 1, none⟩) hgw).trans x1w; clear hown2 hgrow hat hb2 x1))
     have KF : Hid (SbI w3 wb.heap.size g3 c3 g4 c4 (j + 1) R ∧ Below wb.heap.size wb w3) := by
      refine ⟨⟨?_, ?_, ?_⟩, (KA.out.2.2.alloc hsz2 _).grown (show World.grownBy _ w3 (some g2) from hgrow3) (by simp; omega) (fun x hx => by cases hx; exact lg2.1)⟩
      ·have := World.ownsRow.kept (World.ownsRow.alloc KA.out.1 _) (show World.grownBy _ w3 (some g2) from hgrow3) (.inr (by intro e; exact hg3 (by simpa [Value.ownBlock] using e)))
       rw [zL_snoc, HI.out]
       exact this
      ·unfold OwnT
       rw [sL_snoc, show sQ R j = bb from HBB.out]
       exact hown3
      ·rcases hat3 with e | e
       ·have e' : g2 = g4 := by simpa [Value.ownBlock] using e
        omega
       ·omega
     clear hown3 hgrow3 hat3 KA x4 x4w hl1 HL x1'
     go_roundw
     case rel => exact ⟨j + 1, g3, c3, g4, c4, by omega, by go_num, rfl, rfl, KF.out.1, KF.out.2⟩
     case measure => simp [intOf] <;> omega
    ·obtain rfl : j = K := by omega
     have KI : Hid (IntsAt wr (some ⟨g1, 0, none⟩) j (zsQ j R)) := hl.ints
     have KT : Hid (TxtAt wr (some ⟨g2, 0, none⟩) j (sQ R)) := OwnT.at hl.2.1
     have KB : Hid (Below w.heap.size w wr) := below2 KB2.out hbel
     have x2 := (hbel.cell (p := ⟨g5, 2, none⟩) hgw).trans x2w
     have KDC : Hid (∀ W, Below wr.heap.size wr W → Calls Tryz.prog 33 #[.int .i64 (j : Int), .int .i64 (N : Int), .slice (some ⟨g1, 0, none⟩) j c1, .slice (some ⟨g2, 0, none⟩) j c2] W fun e w' => e = .returned (.tuple #[.string (dcS (j : Int) (N : Int) (zsQ j R) j (sQ R)), .bool (dcB (j : Int) (N : Int) (zsQ j R) j (sQ R))]) ∧ Below W.heap.size W w') := fun W hW => sDecode_any _ _ _ _ _ _ _ _ _ _ W (KI.out.below hW) (KT.out.below hW) (fun _ => HRb.out)
     obtain ⟨ok, HOK⟩ : ∃ x, Hid (dcB (j : Int) (N : Int) (zsQ j R) j (sQ R) = x) := ⟨_, rfl⟩
     have HFz : Hid _ := HFy.out ok HOK.out
     rw [HOK.out] at KDC
     obtain ⟨tx, HTX⟩ : ∃ x, Hid (dcS (j : Int) (N : Int) (zsQ j R) j (sQ R) = x) := ⟨_, rfl⟩
     rw [HTX.out] at KDC HFz
     clear hl hbel hi hz0 hz1 hz2 hj hy0 hy1 hy2 x1w x2w HX HFy
     go_wp2_with fail
     go_cut [13, 14] from 54 to 67 (fun v13 v14 wx => Hid (Below wr.heap.size wr wx ∧ v13 = .string tx ∧ v14 = .bool ok))
     case first =>
      go_region_with ((go_at_call 33; refine Calls.mono (KDC.out _ ⟨rfl, rfl, rfl, Nat.le_refl _, fun _ _ => rfl⟩) ?_; rintro e w2 ⟨rfl, hb2'⟩; have hb2 := below_of_drew hb2'; clear hb2'; have z1 := (hb2.cell (p := ⟨g5, 1, none⟩) (block_lt_of_cell x1)).trans x1; have z2 := (hb2.cell (p := ⟨g5, 2, none⟩) (block_lt_of_cell x2)).trans x2))
      all_goals
       go_wp2_with fail
       go_meet
       exact ⟨hb2, rfl, rfl⟩
     obtain ⟨hbc, rfl, rfl⟩ := hcut.out
     clear hcut KDC
     cases ok with
     | false =>
      go_wp2
      go_ret2
      exact ⟨below2 KB.out hbc, HFz.out⟩
     | true =>
      go_wp2
      go_ret2
      exact ⟨below2 KB.out hbc, HFz.out⟩
theorem tells_congr {W W' : Nat → Nat} {N k : Nat} (h : ∀ q, q < N → W q = W' q) (ht : tells W N k) : tells W' N k := by
 obtain ⟨h1, h2, h3, h4⟩ := ht
 have e0 := h 0 (by omega)
 have e1 := h 1 (by omega)
 refine ⟨h1, by rw [← e0, ← e1]; exact h2, by rw [← e0, ← e1]; exact h3, fun q hq hq2 => ?_⟩
 rw [← h q hq2]
 exact h4 q (by rw [e0, e1]; exact hq) hq2
theorem tl_congr {W W' : Nat → Nat} {N k : Nat} (hk : 1 ≤ k) (h : ∀ q, q < N → W q = W' q) : tlB W N k = tlB W' N k ∧ tlS W N k = tlS W' N k := by
 by_cases ht : tells W N k
 ·have ht' := tells_congr h ht
  refine ⟨(tl_yes ht).1.trans (tl_yes ht').1.symm, ?_⟩
  rw [(tl_yes ht).2, (tl_yes ht').2]
  have e0 := h 0 (by have := ht.1; omega)
  have e1 := h 1 (by have := ht.1; omega)
  unfold told
  rw [← e0, ← e1]
  refine txt_congr fun q hq => h (q + 2) ?_
  have h1 := blen_ge (s := W 0 * 256 + W 1) hk
  have h2 := ht.2.2.1
  rw [← h2] at h1
  omega
 ·have ht' : ¬ tells W' N k := fun h' => ht (tells_congr (fun q hq => (h q hq).symm) h')
  exact ⟨(tl_no ht).1.trans (tl_no ht').1.symm, (tl_no ht).2.trans (tl_no ht').2.symm⟩
theorem first_fs {K M : Nat} {S : Nat → ByteArray} (h : Rgt (K : Int) (M : Int) (eI (fun i => i) K) K S) {t : Nat} (ht : t < K) (p : Nat) : fsT K M (eI (fun i => i) K) S t p = tat (S t) p := by
 obtain ⟨q1, q2, q3⟩ := sprOk_parts h.1
 obtain ⟨_, _, io, hbz⟩ := spread_pick h.diff (eI_len _ _) (show 1 ≤ K by omega) (show K ≤ M by omega) (by omega)
 have hbk : ∀ t j, t < K → j < K → bkM M K (eI (fun i => i) K) t j = Gm.dl t j := fun t j ht hj =>
  iv_dl (bZ_byt _ _ _) (fun a b ha hb => by
   have := hbz a b ha hb
   rw [eI_getD _ _ _ ha, Int.toNat_natCast] at this
   refine Eq.trans this ?_
   unfold Gm.sprd
   rw [if_pos ha]) io.2.2 ht hj
 unfold fsT
 rw [Gm.mp_congr (A' := Gm.dl) (B' := fun i p => tat (S i) p) (fun u hu => hbk t u ht hu) (fun _ _ => rfl)]
 exact Gm.mp_dl ht (tat_lt _ _)
theorem dc_again {K M : Nat} {zs : List Int} {S : Nat → ByteArray} (hr : Rgt (K : Int) (M : Int) zs K S) :
  dcB (K : Int) (M : Int) (eI (fun i => i) K) K (bdS (K : Int) (M : Int) zs S) = dcB (K : Int) (M : Int) zs K S ∧ dcS (K : Int) (M : Int) (eI (fun i => i) K) K (bdS (K : Int) (M : Int) zs S) = dcS (K : Int) (M : Int) zs K S := by
 have hr' := agr_rgt (bd_agr hr)
 obtain ⟨q1, q2, q3⟩ := sprOk_parts hr.1
 obtain ⟨e1, e2⟩ := dc_yes hr
 obtain ⟨f1, f2⟩ := dc_yes hr'
 rw [e1, e2, f1, f2, bd_size]
 have key : ∀ q, q < K * (S 0).size → fsW K M (eI (fun i => i) K) (bdS (K : Int) (M : Int) zs S) q = fsW K M zs S q := fun q hq => by
  unfold fsW
  rw [bd_size]
  obtain ⟨l, hl⟩ : ∃ l, (S 0).size = l := ⟨_, rfl⟩
  rw [hl] at hq ⊢
  have hl0 : 0 < l := by
   rcases Nat.eq_zero_or_pos l with h | h
   ·rw [h, Nat.mul_zero] at hq; omega
   ·exact h
  have ht : q / l < K := (Nat.div_lt_iff_lt_mul hl0).2 hq
  have hp : q % l < (S 0).size := by rw [hl]; exact Nat.mod_lt _ hl0
  unfold whl
  rw [first_fs hr' ht, bdS_is, tat_txt hp (Gm.mp_byt _ _ _ _ _)]
  exact bod_first (fsT_byt K M zs S) ht
 exact tl_congr (show 1 ≤ K by omega) key
theorem zsQ_all (K : Nat) (Q : Nat → Pc) : zsQ K (allQ K Q) = eI (fun i => i) K := rfl
theorem sQ_all (K : Nat) (Q : Nat → Pc) : sQ (allQ K Q) = alQ K Q := rfl
theorem rs_rg {root : ByteArray} {K : Nat} {Q : Nat → Pc} {e : Ending} (h : RsE root K Q e) : RgE root K Q e := by
 have key : Cm root K Q → dcB (Q 0).k (Q 0).n (zsQ K (allQ K Q)) K (sQ (allQ K Q)) = dcB (Q 0).k (Q 0).n (zsQ K Q) K (sQ Q) ∧ dcS (Q 0).k (Q 0).n (zsQ K (allQ K Q)) K (sQ (allQ K Q)) = dcS (Q 0).k (Q 0).n (zsQ K Q) K (sQ Q) := fun hc => by
  have hr := hc.1
  obtain ⟨q1, q2, q3⟩ := sprOk_parts hr.1
  have hk : (Q 0).k = (K : Int) := hr.2.2.1.symm
  obtain ⟨N, hN⟩ := Int.eq_ofNat_of_zero_le (show 0 ≤ (Q 0).n by omega)
  rw [zsQ_all, sQ_all]
  unfold alQ
  rw [hk, hN] at hr ⊢
  exact dc_again hr
 rcases h with ⟨h1, h2⟩ | ⟨h1, h2, h3⟩ | ⟨h1, h2, h3⟩
 ·exact .inl ⟨h1, h2⟩
 ·exact .inr (.inl ⟨h1, by rw [← (key h1).1]; exact h2, h3⟩)
 ·exact .inr (.inr ⟨h1, by rw [← (key h1).1]; exact h2, by rw [← (key h1).2]; exact h3⟩)
def RgA (root : ByteArray) (n : Nat) (P : Nat → Pc) (e : Ending) : Prop :=
 (enB root n P = false ∧ e = .returned (.tuple #[.string ⟨#[]⟩, .int .i64 1])) ∨ (enB root n P = true ∧ ∃ L : List Nat, L.Perm (gsel root P n) ∧ (∀ x y, x < y → y < L.length → (P (L.getD x 0)).i ≤ (P (L.getD y 0)).i) ∧ RgE root (enK root n P).toNat (qL P L) e)
theorem rgE_one {root : ByteArray} {K : Nat} {Q : Nat → Pc} {e e' : Ending} (h : RgE root K Q e) (h' : RgE root K Q e') : e = e' := by
 rcases h with ⟨h1, h2⟩ | ⟨h1, h2, h3⟩ | ⟨h1, h2, h3⟩ <;> rcases h' with ⟨k1, k2⟩ | ⟨k1, k2, k3⟩ | ⟨k1, k2, k3⟩
 ·rw [h2, k2]
 ·exact absurd k1 h1
 ·exact absurd k1 h1
 ·exact absurd h1 k1
 ·rw [h3, k3]
 ·rw [h2] at k2; cases k2
 ·exact absurd h1 k1
 ·rw [h2] at k2; cases k2
 ·rw [h3, k3]
theorem rgA_one {root : ByteArray} {n : Nat} {P : Nat → Pc} {e e' : Ending} (h : RgA root n P e) (h' : RgA root n P e') : e = e' := by
 rcases h with ⟨h1, h2⟩ | ⟨h1, L, hp, hs, hr⟩ <;> rcases h' with ⟨k1, k2⟩ | ⟨k1, L', kp, ks, kr⟩
 ·rw [h2, k2]
 ·rw [h1] at k1; cases k1
 ·rw [h1] at k1; cases k1
 ·obtain rfl := asc_one (gsel_one root P n) hp kp hs ks
  exact rgE_one hr kr
theorem rgA_is {root : ByteArray} {n : Nat} {P : Nat → Pc} {e : Ending} (h : RgA root n P e) : ∃ (s : ByteArray) (c : Int), e = .returned (.tuple #[.string s, .int .i64 c]) := by
 rcases h with ⟨_, h2⟩ | ⟨_, L, _, _, hr⟩
 ·exact ⟨_, _, h2⟩
 ·rcases hr with ⟨_, h2⟩ | ⟨_, _, h2⟩ | ⟨_, _, h2⟩ <;> exact ⟨_, _, h2⟩
theorem rgt_congr {k n : Int} {zs : List Int} {nb : Nat} {S S' : Nat → ByteArray} (h : ∀ i, i < nb → S i = S' i) (hr : Rgt k n zs nb S) : Rgt k n zs nb S' := by
 obtain ⟨h1, h2, h3, h4, h5⟩ := hr
 have q := sprOk_parts h1
 have h0 := h 0 (by omega)
 refine ⟨h1, h2, h3, by rw [← h0]; exact h4, fun i hi => ?_⟩
 obtain ⟨a, b, c⟩ := h5 i hi
 exact ⟨a, by rw [← h i hi, ← h0]; exact b, c⟩
theorem fsT_congr {k n : Nat} {zs : List Int} {S S' : Nat → ByteArray} (h : ∀ i, i < k → S i = S' i) : fsT k n zs S = fsT k n zs S' := by
 funext i p
 exact Gm.mp_congr (fun _ _ => rfl) (fun t ht => by rw [h t ht])
theorem dc_congr {k n : Int} {zs : List Int} {nb : Nat} {S S' : Nat → ByteArray} (h : ∀ i, i < nb → S i = S' i) : dcB k n zs nb S = dcB k n zs nb S' ∧ dcS k n zs nb S = dcS k n zs nb S' := by
 by_cases hr : Rgt k n zs nb S
 ·have hr' := rgt_congr h hr
  have hk : k.toNat = nb := by have := hr.2.2.1; omega
  have q := sprOk_parts hr.1
  have h0 := h 0 (by have := hr.2.2.1; omega)
  unfold dcB dcS fsW
  rw [rgt_yes hr, rgt_yes hr', fsT_congr (S' := S') (fun i hi => h i (by omega)), h0]
  exact ⟨rfl, rfl⟩
 ·have hr' : ¬ Rgt k n zs nb S' := fun h' => hr (rgt_congr (fun i hi => (h i hi).symm) h')
  exact ⟨(dc_no hr).1.trans (dc_no hr').1.symm, (dc_no hr).2.trans (dc_no hr').2.symm⟩
theorem enB_of {root : ByteArray} {n : Nat} {P : Nat → Pc} (h : n ≤ 64 ∧ gsel root P n ≠ [] ∧ enK root n P ≤ ((gsel root P n).length : Int)) : enB root n P = true := by
 unfold enB
 simpa [and_assoc] using h
def pz : Pc := ⟨ByteArray.empty, 0, 0, 0, ByteArray.empty, 0, fun _ => ByteArray.empty⟩
def IsRm (root : ByteArray) (n : Nat) (P : Nat → Pc) (idx : Int) (p : Pc) (c : Int) : Prop :=
 (enB root n P = false ∧ p = pz ∧ c = 1) ∨ (enB root n P = true ∧ ∃ L : List Nat, L.Perm (gsel root P n) ∧ (∀ x y, x < y → y < L.length → (P (L.getD x 0)).i ≤ (P (L.getD y 0)).i) ∧
  ((¬ (Cm root (enK root n P).toNat (qL P L) ∧ 0 ≤ idx ∧ idx < (qL P L 0).n) ∧ p = pz ∧ c = 2) ∨
   (Cm root (enK root n P).toNat (qL P L) ∧ 0 ≤ idx ∧ idx < (qL P L 0).n ∧ p = ⟨root, (qL P L 0).k, (qL P L 0).n, idx, alQ (enK root n P).toNat (qL P L) idx.toNat, pfR (qL P L 0).n.toNat (lvs (qL P L 0).k (qL P L 0).n.toNat (alQ (enK root n P).toNat (qL P L))) idx, pfF (qL P L 0).n.toNat (lvs (qL P L 0).k (qL P L 0).n.toNat (alQ (enK root n P).toNat (qL P L))) idx⟩ ∧ c = 0)))
def RmA (w w' : World) (root : ByteArray) (n : Nat) (P : Nat → Pc) (idx : Int) (e : Ending) : Prop := ∃ (p : Pc) (c : Int) (a : Option Addr) (cap : Nat), e = .returned (.tuple #[pcV p.r p.k p.n p.i p.b (.slice a p.m cap), .int .i64 c]) ∧ OwnT w' w.heap.size a p.m cap p.S ∧ p.m ≤ 1000 ∧ IsRm root n P idx p c
theorem rmA_of {w w' : World} {root : ByteArray} {n : Nat} {P : Nat → Pc} {idx : Int} {e : Ending} (h : (enB root n P = false ∧ e = .returned (.tuple #[.agg pcZ, .int .i64 1])) ∨ (enB root n P = true ∧ ∃ L : List Nat, L.Perm (gsel root P n) ∧ (∀ x y, x < y → y < L.length → (P (L.getD x 0)).i ≤ (P (L.getD y 0)).i) ∧ RmE w w' root (enK root n P).toNat (qL P L) idx e)) : RmA w w' root n P idx e := by
 rcases h with ⟨h1, h2⟩ | ⟨h1, L, hp, hs, hr⟩
 ·exact ⟨pz, 1, none, 0, h2, OwnT.nil _ _ _, by simp [pz], .inl ⟨h1, rfl, rfl⟩⟩
 ·rcases hr with ⟨a1, a2⟩ | ⟨a1, a2, a3, v, a4, ⟨a, cap, rfl, ho⟩⟩
  ·exact ⟨pz, 2, none, 0, a2, OwnT.nil _ _ _, by simp [pz], .inr ⟨h1, L, hp, hs, .inl ⟨a1, rfl, rfl⟩⟩⟩
  ·exact ⟨⟨root, (qL P L 0).k, (qL P L 0).n, idx, alQ (enK root n P).toNat (qL P L) idx.toNat, _, _⟩, 0, a, cap, a4, ho, Nat.le_trans (pfR_le _ _ _) (by omega), .inr ⟨h1, L, hp, hs, .inr ⟨a1, a2, a3, rfl, rfl⟩⟩⟩
end Go.Proofs.YtodnodekheaacaaGreatDoor
namespace Go.Proofs.YtodnodekheaacaaGreatDoor
open Go.ChangeShapes Go.WideShapes Go.ChangeAt Go.RowKit Go.Sort
end Go.Proofs.YtodnodekheaacaaGreatDoor
