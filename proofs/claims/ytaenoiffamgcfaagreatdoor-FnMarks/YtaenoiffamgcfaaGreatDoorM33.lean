import Derived.Test.YtaenoiffamgcfaaGreatDoorM31
import Derived.Test.YtaenoiffamgcfaaGreatDoorM5
set_option maxHeartbeats 8000000
set_option maxRecDepth 2000
open Go.ChangeShapes Go.WideShapes Go.ChangeAt Go.RowKit
namespace Go.Proofs.YtaenoiffamgcfaaGreatDoor
theorem below2' {B : Nat} {a b c : World} (h1 : Below B a b) (hB : B ≤ b.heap.size) (h2 : Below b.heap.size b c) : Below B a c := h1.trans (h2.mono hB)
theorem take_put {α : Type} (L Z X : List α) (p q N : Nat) (hX : X.length = q) (hZ : L.take N = Z) (hp : p + q ≤ N) (hN : N ≤ L.length) : (L.take p ++ X ++ L.drop (p + q)).take N = Z.take p ++ X ++ Z.drop (p + q) := by
 have hl : (L.take p ++ X).length = p + q := by rw [List.length_append, List.length_take, hX]; omega
 rw [List.take_append, hl, List.take_of_length_le (by omega), ← hZ, List.take_take, List.drop_take, Nat.min_eq_left (by omega)]
theorem own_putM {w : World} {B g n c p : Nat} {xs X : List Value} (h : w.ownsRow B 29 4 (.slice (some ⟨g, 0, none⟩) n c) n xs) (hX : X.length = 4) (hp : p < n) : (w.setCells g (p * 4) X).ownsRow B 29 4 (.slice (some ⟨g, 0, none⟩) n c) n (xs.take (p * 4) ++ X ++ xs.drop (p * 4 + 4)) := by
 rcases h.2 with ⟨e, _⟩ | ⟨g', cap, cur, e, hBg, hr, hnc, hcm, hsz, htk⟩
 ·cases e
 ·cases e
  have hR := rowSetsX X (p * 4) w cur hr (by rw [hX, hsz]; omega)
  refine own_of_row4 hR hBg ?_ hnc hcm ?_
  ·rw [← Array.length_toList, List.toList_toArray]
   simp [hX, hsz]
   omega
  ·rw [List.toList_toArray, hX]
   exact take_put _ _ _ _ _ _ hX htk (by omega) (by rw [Array.length_toList, hsz]; omega)
theorem insM_any (B g n c k vb : Nat) (xs : List Value) (d : Ma) (w0 w : World) (h : w.ownsRow B 29 4 (.slice (some ⟨g, 0, none⟩) n c) n xs) (hB : B ≤ w.heap.size) (hb : Below B w0 w) (hk : k ≤ n) (hn : n ≤ 1000) (h1c : ∀ v ∈ xs, v.oneCell' = true) (hv : Row w vb 29 (maC d).toArray) (hne : vb ≠ g) :
  Calls Tryz.prog 45 #[.slice (some ⟨g, 0, none⟩) n c, .int .i64 (k : Int), .slice (some ⟨vb, 0, none⟩) 1 1] w fun e w' => ∃ g' c', e = .returned (.slice (some ⟨g', 0, none⟩) (n + 1) c') ∧ w'.ownsRow B 29 4 (.slice (some ⟨g', 0, none⟩) (n + 1) c') (n + 1) (xs.take (k * 4) ++ maC d ++ xs.drop (k * 4)) ∧ Below B w0 w' := by
 have hxl : xs.length = n * 4 := h.1
 have hX : (maC d).length = 4 := rfl
 by_cases hke : k = n
 ·subst hke
  rw [List.take_of_length_le (by omega), List.drop_eq_nil_of_le (by omega), List.append_nil]
  exact insM_end B g k c vb xs d w0 w h hB hb hn hv
 ·have hkl : k < n := by omega
  rcases h.2 with ⟨e, _⟩ | ⟨g', cap, cur, e, hBg, hr, hnc, hcm, hsz, htk⟩
  ·cases e
  ·cases e
   by_cases hroom : n + 1 ≤ c
   ·refine (insM_room g n c k vb xs cur d w hr hsz htk hkl hroom hn h1c hv hne).mono ?_
    rintro e w' ⟨rfl, rfl⟩
    obtain ⟨q1, q2⟩ := shift_listX cur.toList xs (maC d) (k * 4) 4 (n * 4) hX htk (by rw [Array.length_toList, hsz]; omega) (by omega)
    have hdl : (xs.drop (k * 4)).length = n * 4 - k * 4 := by rw [List.length_drop, hxl]
    rw [show (k + 1) * 4 = k * 4 + 4 by omega]
    have hR1 := rowSetsX (xs.drop (k * 4)) (k * 4 + 4) w.drew cur hr (by rw [hdl, hsz]; omega)
    have hR2 := rowSetsX (maC d) (k * 4) _ _ hR1 (by rw [← Array.length_toList]; simp [hX, hsz, hxl]; omega)
    refine ⟨g, c, rfl, own_of_row4 hR2 hBg ?_ hroom hcm ?_, Below.setsX hBg _ _ _ (Below.setsX hBg _ _ _ hb.drew)⟩
    ·rw [← Array.length_toList]
     exact q2.trans (by rw [Array.length_toList, hsz])
    ·rw [show (n + 1) * 4 = n * 4 + 4 by omega]
     exact q1
   ·refine (insM_grow g n c k vb xs cur d w hr hsz htk hkl hnc (by omega) hn h1c hv).mono ?_
    rintro e w' ⟨rfl, rfl⟩
    have hge := grownCap_ge w (n + 1) c 29
    have hgm := grownCap_le_maxLen w (n + 1) c 29 (by unfold maxLen; omega)
    obtain ⟨G, hG⟩ : ∃ G, G = grownCap w (n + 1) c 29 := ⟨_, rfl⟩
    rw [← hG] at hge hgm ⊢
    have zl : ∀ q, (Builtin.zeroCells zcM.toArray q).toList.length = q * 4 := fun q => by simp [Builtin.zeroCells, zcM]
    obtain ⟨A, hA⟩ : ∃ A : Array Value, A = (xs.take (k * 4)).toArray ++ Builtin.zeroCells zcM.toArray (n + 1 - k) ++ Builtin.zeroCells zcM.toArray (G - (n + 1)) := ⟨_, rfl⟩
    rw [← hA]
    obtain ⟨q1, q2, q3⟩ := grow_listX xs (maC d) (Builtin.zeroCells zcM.toArray (n + 1 - k)).toList (Builtin.zeroCells zcM.toArray (G - (n + 1))).toList (k * 4) 4 (n * 4) (G * 4) hX hxl (by omega) A.toList (by rw [hA]; simp) (by rw [zl]; omega) (by rw [zl]; omega) (by omega)
    have hR0 := Row.new w A 29
    have hR1 := rowSetsX (maC d) (k * 4) _ _ hR0.drew (by rw [← Array.length_toList, q3, hX]; omega)
    have hdl : (xs.drop (k * 4)).length = n * 4 - k * 4 := by rw [List.length_drop, hxl]
    rw [show (k + 1) * 4 = k * 4 + 4 by omega]
    have hs1 : ((A.toList.take (k * 4) ++ maC d ++ A.toList.drop (k * 4 + (maC d).length)).toArray).size = G * 4 := by
     rw [← Array.length_toList, List.toList_toArray]
     simp [hX, q3]
     omega
    have hR2 := rowSetsX (xs.drop (k * 4)) (k * 4 + 4) _ _ hR1.drew (by rw [hs1, hdl]; omega)
    refine ⟨w.heap.size, G, rfl, own_of_row4 hR2 hB ?_ hge hgm ?_, Below.setsX hB _ _ _ (Below.setsX hB _ _ _ (hb.alloc hB _).drew).drew⟩
    ·rw [← Array.length_toList]
     exact q2
    ·rw [show (n + 1) * 4 = n * 4 + 4 by omega]
     exact q1
theorem mk1_nd (x : Int) (good : Bool) : (mk1 x good).nd = x := by cases good <;> rfl
set_option maxRecDepth 4000 in
theorem entered_any (B g n c : Nat) (M : Nat → Ma) (x : Int) (good : Bool) (k9 : Int) (w0 w : World) (h : w.ownsRow B 29 4 (.slice (some ⟨g, 0, none⟩) n c) n (maL n M)) (hB : B ≤ w.heap.size) (hb : Below B w0 w) (hn : n ≤ 1000) (hA : MaA n M k9) (hk : 0 ≤ k9 ∧ k9 ≤ 1000) :
  Calls Tryz.prog 22 #[.slice (some ⟨g, 0, none⟩) n c, .agg (maC (mk1 x good)).toArray] w fun e w' => ∃ g' c', e = .returned (.slice (some ⟨g', 0, none⟩) (mkN x M n) c') ∧ w'.ownsRow B 29 4 (.slice (some ⟨g', 0, none⟩) (mkN x M n) c') (mkN x M n) (maL (mkN x M n) (mkM x M n good)) ∧ Below B w0 w' := by
 have hmf : ∀ (fn : Fn) (first cap : Array Value) (w : World), (Instr.makeFunc fn first cap).run Tryz.prog w = .ok (.func fn first cap) w := fun _ _ _ _ => rfl
 obtain ⟨a1, b1, r1, Hm⟩ : ∃ a1 b1 r1, Hid (mk1 x good = ⟨x, a1, b1, r1⟩) := by cases good <;> exact ⟨_, _, _, rfl⟩
 obtain ⟨p, Hp⟩ : ∃ q, Hid (mkP x M n = q) := ⟨_, rfl⟩
 obtain ⟨hpn, hlo, hhi⟩ := mkP_is x M n
 rw [Hp.out] at hpn hlo hhi
 obtain ⟨Rb, HR⟩ : ∃ q, Hid (q = w.heap.size) := ⟨_, rfl⟩
 obtain ⟨w1, HW1⟩ : ∃ q, Hid (q = w.alloc (.cells #[.int .i64 x, .int .i64 a1, .int .i64 b1, .int .i64 r1] 29)) := ⟨_, rfl⟩
 have hb1 : Below w.heap.size w w1 := by rw [HW1.out]; exact (Below.refl _ _).alloc (Nat.le_refl _) _
 have RR1 : Row w1 Rb 29 #[.int .i64 x, .int .i64 a1, .int .i64 b1, .int .i64 r1] := by rw [HW1.out, HR.out]; exact Row.new w _ _
 have own1 := ownsRow_below h hb1
 have hB1 : B ≤ w1.heap.size := Nat.le_trans hB hb1.size
 have hbB : Below B w0 w1 := below2' hb hB hb1
 have hgl := World.ownsRow.lt own1 g rfl
 have hgw := World.ownsRow.lt h g rfl
 have hgR : g ≠ Rb := by have := HR.out; omega
 have hcs : ∀ j u, (maL n M)[j]? = some u → w1.cell? ⟨g, j, none⟩ = some u := fun j u hu => by
  have hj : j < n * 4 := by have := (List.getElem?_eq_some_iff.1 hu).1; rw [maL_len] at this; omega
  rw [World.ownsRow.cellAt own1 j hj]
  exact hu
 have hrg : ∀ i, i < n → w1.rangeAt g (i * 4) (maC (M i)) := fun i hi => mark_cells hcs hi
 have hcR : ∀ W, Below w1.heap.size w1 W → W.cell? ⟨Rb, 0, none⟩ = some (.int .i64 (mk1 x good).nd) := fun W hW => by
  rw [mk1_nd, (RR1.below hW RR1.lt).cell 0]
  rfl
 have KOn : Hid (w1.ownsRow B 29 4 (.slice (some ⟨g, 0, none⟩) n c) n (maL n M)) := own1
 have RR0 : Hid (Row w1 Rb 29 #[.int .i64 x, .int .i64 a1, .int .i64 b1, .int .i64 r1]) := RR1
 have KBB : Hid (Below B w0 w1) := hbB
 have HOC : Hid (∀ u ∈ maL n M, u.oneCell' = true) := fun u hu => one_cells hu
 rw [Hm.out]
 show Calls _ _ #[_, .agg #[.int .i64 x, .int .i64 a1, .int .i64 b1, .int .i64 r1]] w _
 cases hH : mkH x M n with
 | true =>
  have h9 := of_decide_eq_true hH
  rw [Hp.out] at h9
  have KI : Hid _ := indexM_any 42 (.inl rfl) (fun d => decide (d.nd = (mk1 x good).nd)) g n c p Rb M w1 hrg hgl.2 hn hpn (fun j hj => decide_eq_false (by rw [mk1_nd]; have := hlo j hj; omega)) (fun _ => decide_eq_true (by rw [mk1_nd]; exact h9.2)) (fun i wr _ hw => sameFn_any (M i) Rb (mk1 x good) wr (hcR wr hw))
  rw [if_pos h9.1] at KI
  have hgd := hA.g p h9.1
  have KTh : Hid (∀ W, Calls Tryz.prog 43 #[.agg (maC (M p)).toArray, .agg #[.int .i64 x, .int .i64 a1, .int .i64 b1, .int .i64 r1]] W fun r w' => r = .returned (.agg (maC (mkU good (M p))).toArray) ∧ Below W.heap.size W w') := fun W => by
   have := then_any (M p) x good W (by omega)
   rw [Hm.out] at this
   exact this
  have eN : mkN x M n = n := by unfold mkN; rw [hH]; rfl
  have ev : mkV x M n good = mkU good (M p) := by unfold mkV; rw [hH, Hp.out]; rfl
  have hl := mk_list (x := x) (M := M) (n := n) (good := good)
  rw [ev, Hp.out, hH, eN] at hl
  rw [eN]
  obtain ⟨zs, HZS⟩ : ∃ q, Hid (maL n (mkM x M n good) = q) := ⟨_, rfl⟩
  rw [HZS.out] at hl ⊢
  have HL : Hid ((maL n M).take (p * 4) ++ maC (mkU good (M p)) ++ (maL n M).drop (p * 4 + 4) = zs) := by
   show _ = _
   rw [← hl, Nat.mul_comm p 4]
   rfl
  have hpn' := h9.1
  have hpi : (p : Int) < (n : Int) := by omega
  clear h9 hhi hlo hgd ev eN hl hH hA hrg hcR hcs own1 hb1 h hb RR1 hbB
  go_enter Tryz.func22, Tryz.ntmps22
  go_wp2_with fail
  rw [← HW1.out, ← HR.out]
  refine Calls.mono KI.out ?_
  rintro e w2 ⟨rfl, b2⟩
  have RR : Hid (Row w2 Rb 29 #[.int .i64 x, .int .i64 a1, .int .i64 b1, .int .i64 r1]) := RR0.out.below b2 RR0.out.lt
  have KO2 : Hid (w2.ownsRow B 29 4 (.slice (some ⟨g, 0, none⟩) n c) n (maL n M)) := ownsRow_below KOn.out b2
  have KB2 : Hid (Below B w0 w2) := below2' KBB.out hB1 b2
  have hB2 : B ≤ w2.heap.size := Nat.le_trans hB1 b2.size
  have KR2 : Hid (∀ W, Below w2.heap.size w2 W → W.rangeAt g (p * 4) (maC (M p))) := fun W hW => by
   have hO := ownsRow_below KO2.out hW
   refine mark_cells (n := n) (M := M) (fun j u hu => ?_) hpn'
   have hj : j < n * 4 := by have := (List.getElem?_eq_some_iff.1 hu).1; rw [maL_len] at this; omega
   rw [World.ownsRow.cellAt hO j hj]
   exact hu
  have KOw : Hid (∀ W, Below w2.heap.size w2 W → W.there g (p * 4) (maC (mkU good (M p))).toArray.size ∧ (W.setCells g (p * 4) (maC (mkU good (M p))).toArray.toList).ownsRow B 29 4 (.slice (some ⟨g, 0, none⟩) n c) n zs ∧ Below B w0 (W.setCells g (p * 4) (maC (mkU good (M p))).toArray.toList)) := fun W hW => by
   have hO := ownsRow_below KO2.out hW
   have h1 := own_putM hO (X := maC (mkU good (M p))) rfl hpn'
   rw [HL.out] at h1
   refine ⟨fun j hj => ⟨?_, World.ownsRow.frozenAt hO _⟩, h1, Below.setsX (World.ownsRow.lt hO g rfl).1 _ _ _ (below2' KB2.out hB2 hW)⟩
   have hj4 : j < 4 := hj
   rw [World.ownsRow.cellAt hO _ (by omega), List.getElem?_eq_getElem (by rw [maL_len]; omega)]
   rfl
  clear b2
  go_upto_region 3 with fail
  obtain ⟨Ren, HRen⟩ : ∃ R : Act → World → Prop, Hid (∀ A9 W, R A9 W ↔ A9 = ⟨(List.toArray (α := Value) ((.slice (some ⟨g, 0, none⟩) n c) :: (.agg #[.int .i64 x, .int .i64 a1, .int .i64 b1, .int .i64 r1]) :: undef :: (.pointer (some ⟨Rb, 0, none⟩)) :: (.slice none 0 0) :: (.int .i64 (p : Int)) :: (.slice (some ⟨g, 0, none⟩) n c) :: (.func (.func 42) #[] #[.pointer (some ⟨Rb, 0, none⟩)]) :: (.int .i64 (p : Int)) :: (.int .i64 (p : Int)) :: (.bool true) :: (.slice (some ⟨g, 0, none⟩) n c) :: (.int .i64 (p : Int)) :: (.slice (some ⟨g, 0, none⟩) n c) :: (.int .i64 (p : Int)) :: (.pointer (some ⟨g, p * 4, none⟩)) :: (.agg (maC (M p)).toArray) :: (.agg #[.int .i64 x, .int .i64 a1, .int .i64 b1, .int .i64 r1]) :: (.agg (maC (mkU good (M p))).toArray) :: (.pointer (some ⟨g, p * 4, none⟩)) :: undef :: undef :: undef :: undef :: undef :: undef :: undef :: undef :: undef :: undef :: undef :: undef :: undef :: [])), []⟩ ∧ (W.ownsRow B 29 4 (.slice (some ⟨g, 0, none⟩) n c) n zs ∧ Below B w0 W)) := ⟨fun A9 W => _, fun _ _ => Iff.rfl⟩
  refine wp_region_post Ren ?_ ?_
  rotate_left
  ·intro a9 wx hR9
   obtain ⟨rfl, hf1⟩ := (HRen.out a9 wx).1 hR9
   clear hR9 HRen
   have KF : Hid _ := hf1
   clear hf1
   go_wp2
   go_ret
   exact ⟨g, c, rfl, KF.out.1, KF.out.2⟩
  refine wp_region_cl Tryz.mixed (by kernel_rfl) (fun L A9 W => A9 = ⟨(List.toArray (α := Value) ((.slice (some ⟨g, 0, none⟩) n c) :: (.agg #[.int .i64 x, .int .i64 a1, .int .i64 b1, .int .i64 r1]) :: undef :: (.pointer (some ⟨Rb, 0, none⟩)) :: (.slice none 0 0) :: (.int .i64 (p : Int)) :: (.slice (some ⟨g, 0, none⟩) n c) :: (.func (.func 42) #[] #[.pointer (some ⟨Rb, 0, none⟩)]) :: (.int .i64 (p : Int)) :: (.int .i64 (p : Int)) :: (.bool true) :: (cX (L 0) (.slice (some ⟨g, 0, none⟩) n c) undef) :: (cX (L 1) (.int .i64 (p : Int)) undef) :: (cX (L 2) (.slice (some ⟨g, 0, none⟩) n c) undef) :: (cX (L 3) (.int .i64 (p : Int)) undef) :: (cX (L 4) (.pointer (some ⟨g, p * 4, none⟩)) undef) :: (cX (L 5) (.agg (maC (M p)).toArray) undef) :: (cX (L 6) (.agg #[.int .i64 x, .int .i64 a1, .int .i64 b1, .int .i64 r1]) undef) :: (cX (L 7) (.agg (maC (mkU good (M p))).toArray) undef) :: (cX (L 8) (.pointer (some ⟨g, p * 4, none⟩)) undef) :: undef :: undef :: undef :: undef :: undef :: undef :: undef :: undef :: undef :: undef :: undef :: undef :: undef :: [])), []⟩ ∧ (L 9 = false → Below w2.heap.size w2 W) ∧ (L 9 = true → W.ownsRow B 29 4 (.slice (some ⟨g, 0, none⟩) n c) n zs ∧ Below B w0 W)) ?_ ?_ ?_
  ·exact ⟨rfl, (fun _ => below_drew _), (fun h => by cases h)⟩
  ·intro q9 hq9 L a9 W hl hd hcl hI9
   obtain ⟨rfl, h0, h1⟩ := hI9
   match q9, hq9 with
   | 0, _ =>
    have e0 := hl
    have e9 : L 9 = false := by cases h9 : L 9 with | false => rfl | true => rw [((hcl 8 ((hcl 9 h9).dep 8 (by kernel_rfl))).dep 0 (by kernel_rfl))] at hl; cases hl
    refine wpOp_plain rfl (fun _ => rfl) fun K hK => ?_
    go_simp
    exact hK _ _ ⟨(by simp only [Nat.reduceBEq, Bool.false_or, Bool.true_or, cX_y]), (fun k0 => (h0 (show L 9 = false from k0))), (fun k0 => absurd (show L 9 = true from k0) (by rw [e9]; simp))⟩
   | 1, _ =>
    have e1 := hl
    have e9 : L 9 = false := by cases h9 : L 9 with | false => rfl | true => rw [((hcl 8 ((hcl 9 h9).dep 8 (by kernel_rfl))).dep 1 (by kernel_rfl))] at hl; cases hl
    refine wpOp_plain rfl (fun _ => rfl) fun K hK => ?_
    go_simp
    exact hK _ _ ⟨(by simp only [Nat.reduceBEq, Bool.false_or, Bool.true_or, cX_y]), (fun k0 => (h0 (show L 9 = false from k0))), (fun k0 => absurd (show L 9 = true from k0) (by rw [e9]; simp))⟩
   | 2, _ =>
    have e2 := hl
    have e9 : L 9 = false := by cases h9 : L 9 with | false => rfl | true => rw [((hcl 4 ((hcl 5 ((hcl 7 ((hcl 9 h9).dep 7 (by kernel_rfl))).dep 5 (by kernel_rfl))).dep 4 (by kernel_rfl))).dep 2 (by kernel_rfl))] at hl; cases hl
    refine wpOp_plain rfl (fun _ => rfl) fun K hK => ?_
    go_simp
    exact hK _ _ ⟨(by simp only [Nat.reduceBEq, Bool.false_or, Bool.true_or, cX_y]), (fun k0 => (h0 (show L 9 = false from k0))), (fun k0 => absurd (show L 9 = true from k0) (by rw [e9]; simp))⟩
   | 3, _ =>
    have e3 := hl
    have e9 : L 9 = false := by cases h9 : L 9 with | false => rfl | true => rw [((hcl 4 ((hcl 5 ((hcl 7 ((hcl 9 h9).dep 7 (by kernel_rfl))).dep 5 (by kernel_rfl))).dep 4 (by kernel_rfl))).dep 3 (by kernel_rfl))] at hl; cases hl
    refine wpOp_plain rfl (fun _ => rfl) fun K hK => ?_
    go_simp
    exact hK _ _ ⟨(by simp only [Nat.reduceBEq, Bool.false_or, Bool.true_or, cX_y]), (fun k0 => (h0 (show L 9 = false from k0))), (fun k0 => absurd (show L 9 = true from k0) (by rw [e9]; simp))⟩
   | 4, _ =>
    have d2 := hd.dep 2 (by kernel_rfl)
    have d3 := hd.dep 3 (by kernel_rfl)
    have e4 := hl
    have e9 : L 9 = false := by cases h9 : L 9 with | false => rfl | true => rw [((hcl 5 ((hcl 7 ((hcl 9 h9).dep 7 (by kernel_rfl))).dep 5 (by kernel_rfl))).dep 4 (by kernel_rfl))] at hl; cases hl
    refine wpOp_plain rfl (fun _ => rfl) fun K hK => ?_
    simp only [d2, d3, cX_y]
    go_simp
    exact hK _ _ ⟨(by simp only [Nat.reduceBEq, Bool.false_or, Bool.true_or, cX_y, d2, d3]), (fun k0 => (h0 (show L 9 = false from k0))), (fun k0 => absurd (show L 9 = true from k0) (by rw [e9]; simp))⟩
   | 5, _ =>
    have d4 := hd.dep 4 (by kernel_rfl)
    have e5 := hl
    have e9 : L 9 = false := by cases h9 : L 9 with | false => rfl | true => rw [((hcl 7 ((hcl 9 h9).dep 7 (by kernel_rfl))).dep 5 (by kernel_rfl))] at hl; cases hl
    have m0 := KR2.out W (h0 e9)
    refine wpOp_plain rfl (fun _ => rfl) fun K hK => ?_
    simp only [d4, cX_y]
    refine wp_load_mid 29 _ (by rfl) g (p * 4) (by rfl) (maC (M p)) _ m0 Tryz.underlying29 (by rfl) Tryz.infoMa ?_
    exact hK _ _ ⟨(by simp [Act.put, cX_y, d4]), (fun k0 => (h0 (show L 9 = false from k0))), (fun k0 => absurd (show L 9 = true from k0) (by rw [e9]; simp))⟩
   | 6, _ =>
    have e6 := hl
    have e9 : L 9 = false := by cases h9 : L 9 with | false => rfl | true => rw [((hcl 7 ((hcl 9 h9).dep 7 (by kernel_rfl))).dep 6 (by kernel_rfl))] at hl; cases hl
    have m0 := RR.out.below (h0 e9) RR.out.lt
    refine wpOp_plain rfl (fun _ => rfl) fun K hK => ?_
    refine wp_load_row 29 _ (by rfl) Rb (by rfl) 29 #[.int .i64 x, .int .i64 a1, .int .i64 b1, .int .i64 r1] (0, 0) _ m0 Tryz.underlying29 (by rfl) Tryz.infoMa ?_
    exact hK _ _ ⟨(by simp [Act.put, cX_y]), (fun k0 => (h0 (show L 9 = false from k0))), (fun k0 => absurd (show L 9 = true from k0) (by rw [e9]; simp))⟩
   | 7, _ =>
    have d5 := hd.dep 5 (by kernel_rfl)
    have d6 := hd.dep 6 (by kernel_rfl)
    have e7 := hl
    have e9 : L 9 = false := by cases h9 : L 9 with | false => rfl | true => rw [((hcl 9 h9).dep 7 (by kernel_rfl))] at hl; cases hl
    have m0 := h0 e9
    refine wpOp_plain rfl (fun _ => rfl) fun K hK => ?_
    simp only [d5, d6, cX_y]
    go_simp
    refine Calls.mono (KTh.out W) ?_
    rintro e w9 ⟨rfl, b9⟩
    exact hK _ _ ⟨(by simp only [Nat.reduceBEq, Bool.false_or, Bool.true_or, cX_y, d5, d6]), (fun k0 => below2 m0 b9), (fun k0 => absurd (show L 9 = true from k0) (by rw [e9]; simp))⟩
   | 8, _ =>
    have d0 := hd.dep 0 (by kernel_rfl)
    have d1 := hd.dep 1 (by kernel_rfl)
    have e8 := hl
    have e9 : L 9 = false := by cases h9 : L 9 with | false => rfl | true => rw [((hcl 9 h9).dep 8 (by kernel_rfl))] at hl; cases hl
    refine wpOp_plain rfl (fun _ => rfl) fun K hK => ?_
    simp only [d0, d1, cX_y]
    go_simp
    exact hK _ _ ⟨(by simp only [Nat.reduceBEq, Bool.false_or, Bool.true_or, cX_y, d0, d1]), (fun k0 => (h0 (show L 9 = false from k0))), (fun k0 => absurd (show L 9 = true from k0) (by rw [e9]; simp))⟩
   | 9, _ =>
    have d8 := hd.dep 8 (by kernel_rfl)
    have d7 := hd.dep 7 (by kernel_rfl)
    have e9 := hl
    have m0 := KOw.out W (h0 hl)
    refine wpOp_plain rfl (fun _ => rfl) fun K hK => ?_
    simp only [d8, d7, cX_y]
    refine wp_store_mid 29 _ _ (by rfl) g (p * 4) (maC (mkU good (M p))).toArray (by rfl) (by rfl) m0.1 Tryz.infoMa (all_oneCell_toArray (by simp [maC, Value.oneCell'])) ?_
    exact hK _ _ ⟨(by simp [Act.put, cX_y, d8, d7]), (fun k0 => by cases k0), (fun k0 => m0.2)⟩
   | n9 + 10, h => exact absurd h (by simp)
  ·intro L a9 W hall hI9
   obtain ⟨rfl, h0, h1⟩ := hI9
   have e0 := hall 0 (by decide)
   have e1 := hall 1 (by decide)
   have e2 := hall 2 (by decide)
   have e3 := hall 3 (by decide)
   have e4 := hall 4 (by decide)
   have e5 := hall 5 (by decide)
   have e6 := hall 6 (by decide)
   have e7 := hall 7 (by decide)
   have e8 := hall 8 (by decide)
   have e9 := hall 9 (by decide)
   simp only [e0, e1, e2, e3, e4, e5, e6, e7, e8, cX_y]
   exact (HRen.out _ _).2 ⟨rfl, (h1 e9)⟩
 | false =>
  have h9 := of_decide_eq_false hH
  rw [Hp.out] at h9
  have hne : ∀ j, j < n → (M j).nd ≠ x := fun j hj e => by
   rcases Nat.lt_trichotomy j p with q | q | q
   ·have := hlo j q; omega
   ·subst q; exact h9 ⟨hj, e⟩
   ·have h1 := hA.a p j q hj
    have h2 := hhi (by omega)
    omega
  have KI0 := indexM_any 42 (.inl rfl) (fun d => decide (d.nd = (mk1 x good).nd)) g n c n Rb M w1 hrg hgl.2 hn (Nat.le_refl _) (fun j hj => decide_eq_false (by rw [mk1_nd]; exact hne j hj)) (fun q => absurd q (Nat.lt_irrefl _)) (fun i wr _ hw => sameFn_any (M i) Rb (mk1 x good) wr (hcR wr hw))
  rw [if_neg (Nat.lt_irrefl n)] at KI0
  have KI : Hid _ := KI0
  have KJ : Hid (∀ W, Below w1.heap.size w1 W → Calls Tryz.prog 41 #[.slice (some ⟨g, 0, none⟩) n c, .func (.func 44) #[] #[.pointer (some ⟨Rb, 0, none⟩)]] W fun e w' => e = .returned (.int .i64 (if p < n then (p : Int) else -1)) ∧ Below W.heap.size W w') := fun W hW =>
   indexM_any 44 (.inr rfl) (fun d => decide ((mk1 x good).nd < d.nd)) g n c p Rb M W (fun i hi j v hv => (hW.cell (p := ⟨g, i * 4 + j, none⟩) hgl.2).trans (hrg i hi j v hv)) (Nat.lt_of_lt_of_le hgl.2 hW.size) hn hpn (fun j hj => decide_eq_false (by rw [mk1_nd]; have := hlo j hj; omega)) (fun q => decide_eq_true (by rw [mk1_nd]; have h1 := hhi q; have h2 := hne p q; omega)) (fun i wr _ hw => overFn_any (M i) Rb (mk1 x good) wr (hcR wr (below2 hW hw)))
  have eN : mkN x M n = n + 1 := by unfold mkN; rw [hH]; rfl
  have ev : mkV x M n good = mk1 x good := by unfold mkV; rw [hH]; cases good <;> rfl
  have hl := mk_list (x := x) (M := M) (n := n) (good := good)
  rw [ev, Hp.out, hH, eN] at hl
  rw [eN]
  obtain ⟨zs, HZS⟩ : ∃ q, Hid (maL (n + 1) (mkM x M n good) = q) := ⟨_, rfl⟩
  rw [HZS.out] at hl ⊢
  have HL : Hid ((maL n M).take (p * 4) ++ maC ⟨x, a1, b1, r1⟩ ++ (maL n M).drop (p * 4) = zs) := by
   show _ = _
   rw [← hl, Nat.mul_comm p 4, Hm.out]
   rfl
  have KIn : Hid (∀ W, Below w1.heap.size w1 W → Calls Tryz.prog 45 #[.slice (some ⟨g, 0, none⟩) n c, .int .i64 (p : Int), .slice (some ⟨W.heap.size, 0, none⟩) 1 1] (W.alloc (.cells #[.int .i64 x, .int .i64 a1, .int .i64 b1, .int .i64 r1] 29)) fun e w' => ∃ g' c', e = .returned (.slice (some ⟨g', 0, none⟩) (n + 1) c') ∧ w'.ownsRow B 29 4 (.slice (some ⟨g', 0, none⟩) (n + 1) c') (n + 1) zs ∧ Below B w0 w') := fun W hW => by
   have hal : Below W.heap.size W (W.alloc (.cells #[.int .i64 x, .int .i64 a1, .int .i64 b1, .int .i64 r1] 29)) := (Below.refl _ _).alloc (Nat.le_refl _) _
   have hW2 := below2 hW hal
   have := insM_any B g n c p W.heap.size (maL n M) ⟨x, a1, b1, r1⟩ w0 _ (ownsRow_below KOn.out hW2) (Nat.le_trans hB1 hW2.size) (below2' KBB.out hB1 hW2) hpn hn HOC.out (Row.new W _ _) (by have := hW.size; omega)
   rw [HL.out] at this
   exact this
  clear h9 hhi hlo hne ev eN hl hH hA hrg hcR hcs own1 hb1 h hb RR1 hbB KI0
  go_enter Tryz.func22, Tryz.ntmps22
  go_wp2_with fail
  rw [← HW1.out, ← HR.out]
  refine Calls.mono KI.out ?_
  rintro e w2 ⟨rfl, b2⟩
  have KB2 : Hid (Below w1.heap.size w1 w2) := b2
  clear b2
  go_wp2_with fail
  refine Calls.mono (KJ.out w2 KB2.out) ?_
  rintro e w3 ⟨rfl, b3⟩
  have KB3 : Hid (Below w1.heap.size w1 w3) := below2 KB2.out b3
  have RR : Hid (Row w3 Rb 29 #[.int .i64 x, .int .i64 a1, .int .i64 b1, .int .i64 r1]) := RR0.out.below KB3.out RR0.out.lt
  clear b3
  by_cases hpl : p < n
  ·rw [if_pos hpl]
   go_wp2_with (refine wpList_load_row (by rfl) 29 _ (by rfl) Rb (by rfl) 29 #[.int .i64 x, .int .i64 a1, .int .i64 b1, .int .i64 r1] (0, 0) _ ?_ Tryz.underlying29 (by rfl) Tryz.infoMa ?_; exact RR.out)
   refine Calls.mono (KIn.out w3 KB3.out) ?_
   rintro e w4 ⟨g4, c4, rfl, o4, b4⟩
   have KF : Hid (w4.ownsRow B 29 4 (.slice (some ⟨g4, 0, none⟩) (n + 1) c4) (n + 1) zs ∧ Below B w0 w4) := ⟨o4, b4⟩
   clear o4 b4
   go_wp2
   go_ret
   exact ⟨g4, c4, rfl, KF.out.1, KF.out.2⟩
  ·rw [if_neg hpl]
   obtain rfl : p = n := by omega
   go_wp2_with (refine wpList_load_row (by rfl) 29 _ (by rfl) Rb (by rfl) 29 #[.int .i64 x, .int .i64 a1, .int .i64 b1, .int .i64 r1] (0, 0) _ ?_ Tryz.underlying29 (by rfl) Tryz.infoMa ?_; exact RR.out)
   refine Calls.mono (KIn.out w3 KB3.out) ?_
   rintro e w4 ⟨g4, c4, rfl, o4, b4⟩
   have KF : Hid (w4.ownsRow B 29 4 (.slice (some ⟨g4, 0, none⟩) (p + 1) c4) (p + 1) zs ∧ Below B w0 w4) := ⟨o4, b4⟩
   clear o4 b4
   go_wp2
   go_ret
   exact ⟨g4, c4, rfl, KF.out.1, KF.out.2⟩
theorem markAdd_any (b n cap : Nat) (M : Nat → Ma) (x : Int) (good : Bool) (k : Int) (w : World) (hr : ∀ j u, (maL n M)[j]? = some u → w.cell? ⟨b, j, none⟩ = some u) (hbl : b < w.heap.size) (hn : n ≤ 1000) (hA : MaA n M k) (hk : 0 ≤ k ∧ k ≤ 1000) :
  Calls Tryz.prog 6 #[.slice (some ⟨b, 0, none⟩) n cap, .int .i64 x, .bool good] w fun e w' => ∃ g c, e = .returned (.slice (some ⟨g, 0, none⟩) (mkN x M n) c) ∧ w'.ownsRow w.heap.size 29 4 (.slice (some ⟨g, 0, none⟩) (mkN x M n) c) (mkN x M n) (maL (mkN x M n) (mkM x M n good)) ∧ Below w.heap.size w w' := by
 have KC : Hid _ := cloneM_any b n cap M w hr hbl hn
 have HA : Hid (MaA n M k) := hA
 clear hr hA
 go_enter Tryz.func6, Tryz.ntmps6
 go_wp2_with fail
 refine Calls.mono KC.out ?_
 rintro e w1 ⟨g1, c1, rfl, o1, b1⟩
 have KO1 : Hid _ := o1
 have KB1 : Hid _ := b1
 clear o1 b1
 go_wp2_with fail
 refine Calls.mono (markOf_any x good w1) ?_
 rintro e w2 ⟨rfl, b2⟩
 have KO2 : Hid _ := ownsRow_below KO1.out b2
 have KB2 : Hid _ := below2 KB1.out b2
 have hs2 : w.heap.size ≤ w2.heap.size := KB2.out.size
 clear b2
 go_wp2_with fail
 refine Calls.mono (entered_any w.heap.size g1 n c1 M x good k w w2 KO2.out hs2 KB2.out hn HA.out hk) ?_
 rintro e w3 ⟨g3, c3, rfl, o3, b3⟩
 have KF : Hid (w3.ownsRow w.heap.size 29 4 (.slice (some ⟨g3, 0, none⟩) (mkN x M n) c3) (mkN x M n) (maL (mkN x M n) (mkM x M n good)) ∧ Below w.heap.size w w3) := ⟨o3, b3⟩
 clear o3 b3
 go_wp2
 go_ret
 exact ⟨g3, c3, rfl, KF.out.1, KF.out.2⟩
end Go.Proofs.YtaenoiffamgcfaaGreatDoor
