/- The program's sum, product and quotient of polynomials, at any lists of at most 2^20 numbers. -/
import Derived.Test.YtdnddimkgddooaaDoorPImpl
namespace Go.Proofs.YtdnddimkgddooaaDoor
open Go.ChangeShapes Go.WideShapes Go.ChangeAt Go.RowKit

theorem OwnI.mono {w : World} {B B' : Nat} {v : Value} {zs : List Int} (h : OwnI w B v zs) (hb : B' ≤ B) : OwnI w B' v zs :=
  ⟨h.1, h.2.imp id fun ⟨g, cap, cur, h1, h2, h3⟩ => ⟨g, cap, cur, h1, Nat.le_trans hb h2, h3⟩⟩
theorem addP_no {xs ys : List Int} (h : ¬ (okB xs = true ∧ okB ys = true)) : addP xs ys = ([], false) := by unfold addP; rw [if_neg h]
theorem onTop_first {xs : List Int} (h : okB xs = true) (i : Nat) : onTop (fun _ => 0) (coP xs) 1 0 xs.length i = coP xs i := by
  have hp := (okB_parts h).2.2.1
  rw [onTop_sh hp.2, Nat.zero_xor, show Gp.sh 0 (coP xs) i = coP xs i by unfold Gp.sh; rw [if_pos (Nat.zero_le _), Nat.sub_zero], Gp.m_one (hp.1 i)]
theorem onTop_second {ys : List Int} (h : okB ys = true) (f : Nat → Nat) (i : Nat) : onTop f (coP ys) 1 0 ys.length i = Gp.ad f (coP ys) i := by
  have hp := (okB_parts h).2.2.1
  rw [onTop_sh hp.2, show Gp.sh 0 (coP ys) i = coP ys i by unfold Gp.sh; rw [if_pos (Nat.zero_le _), Nat.sub_zero], Gp.m_one (hp.1 i)]
  rfl

set_option maxRecDepth 100000 in
set_option maxHeartbeats 1000000 in
theorem polyAdd_any (a b : Option Addr) (n m ca cb : Nat) (xs ys : List Int) (w : World) (ha : IntsAt w a n xs) (hb : IntsAt w b m ys) (hn : n ≤ 1048576) (hm : m ≤ 1048576) :
    Calls Tryd.prog 18 #[.slice a n ca, .slice b m cb] w fun e w' => ∃ v, e = .returned (.tuple #[v, .bool (addP xs ys).2]) ∧ OwnI w' w.heap.size v (addP xs ys).1 ∧ Below w.heap.size w w' := by
  by_cases hok : okB xs = true ∧ okB ys = true
  · obtain ⟨hx, hy⟩ := hok
    obtain ⟨i0, hi, hz0, hz1, hz2⟩ := info_parts Tryd.infoElem
    have hR := readTwo_yes a b n m ca cb xs ys w ha hb hx hy
    have hl1 := ha.1
    have hl2 := hb.1
    have px := (okB_parts hx).2.2.1
    have py := (okB_parts hy).2.2.1
    have h40 := (okB_parts hx).1
    have h41 := (okB_parts hy).1
    have HA : Hid (addP xs ys = (eI (Gp.ad (coP xs) (coP ys)) (Gp.tl (Gp.ad (coP xs) (coP ys)) (max n m)), true)) := by
      show _ = _
      unfold addP
      rw [if_pos ⟨hx, hy⟩, hl1, hl2]
    have H1 : Hid (∀ i, onTop (fun _ => 0) (coP xs) 1 0 n i = coP xs i) := by rw [← hl1]; exact onTop_first hx
    have H2 : Hid (∀ i, onTop (coP xs) (coP ys) 1 0 m i = Gp.ad (coP xs) (coP ys) i) := by rw [← hl2]; exact onTop_second hy _
    have HP : Hid (Gp.Pol (Gp.ad (coP xs) (coP ys)) (max n m)) := by rw [← hl1, ← hl2]; exact Gp.ad_pol px py
    have pxl := px.1
    have pyl := py.1
    rw [hl1] at h40
    rw [hl2] at h41
    obtain ⟨N, hN⟩ : ∃ N, max n m = N := ⟨_, rfl⟩
    have hNn : n ≤ N := by omega
    have hNm : m ≤ N := by omega
    have hN40 : N ≤ 40 := by omega
    rw [hN] at HA HP
    have hNI : max (n : Int) (m : Int) = (N : Int) := by omega
    clear ha hb hl1 hl2 px py hx hy
    generalize coP xs = f at *
    generalize coP ys = g at *
    generalize addP xs ys = res at *
    go_enter Tryd.func18, Tryd.ntmps18
    go_wp2_with fail
    refine hR.mono ?_
    rintro e w1 ⟨g1, g2, rfl, e1, e2, b1⟩
    have hsz := b1.size
    clear hR
    go_wp2_with (at_make; refine wpList_make_full _ rfl _ _ 44 rfl w.heap.size 48 i0 (.int .u8 0) 1 Tryd.underlying44 hi hz0 hz1 .i64 .i64 _ _ N rfl rfl (by first | rfl | omega) (by first | rfl | omega) (by rw [hz2]; omega) (by unfold maxLen; omega) hsz ?_; intro w2 hown hgrow)
    all_goals
      have hb2 : Below w1.heap.size w1 w2 := (Below.refl _ _).grown hgrow (Nat.le_refl _) (by simp)
      have o2 : OwnU w2 w.heap.size w1.heap.size N N (fun _ => 0) := by
        unfold OwnU
        rw [eI_const N 0 (fun i _ => rfl)]
        simpa [Value.cells, toList_madeCells_one] using hown
      have off1 := e1.off (Nat.le_refl _)
      have off2 := e2.off (Nat.le_refl _)
      have e12 := e1.below hb2
      have e22 := e2.below hb2
      have b2 := below2 b1 hb2
      clear hown hgrow e1 e2 hb2 b1
      generalize w1.heap.size = gs at *
      refine (addScaled_any w.heap.size gs N N (fun _ => 0) _ n n f 1 0 _ o2 e12 off1 (fun _ => by omega) pxl (by omega) (by omega) (by omega)).mono ?_
      rintro e w3 ⟨rfl, o3, g3⟩
      have o3' := OwnU.congr (h := f) o3 (fun i _ => H1.out i)
      have e23 := e22.grown g3 off2
      have b3 := b2.trans (below_of_grownBy g3 hsz b2.size)
      clear o2 e12 e22 o3 g3 b2 off1
      go_wp2_with fail
      refine (addScaled_any w.heap.size gs N N f _ m m g 1 0 _ o3' e23 off2 pxl pyl (by omega) (by omega) (by omega)).mono ?_
      rintro e w4 ⟨rfl, o4, g4⟩
      have o4' := OwnU.congr (h := Gp.ad f g) o4 (fun i _ => H2.out i)
      have b4 := b3.trans (below_of_grownBy g4 hsz b3.size)
      clear o3' e23 o4 g4 b3 off2
      go_wp2_with fail
      refine (numbers_yes _ N N (Gp.ad f g) _ (OwnU.els o4') (by omega) HP.out.1 (Nat.le_trans (Gp.tl_le _ _) hN40)).mono ?_
      rintro e w5 ⟨v, rfl, o5, b5⟩
      have HO : Hid _ := And.intro (OwnI.mono o5 b4.size) (below2 b4 b5)
      clear o4' o5 b5 b4 H1 H2 HP
      go_wp2
      go_ret2
      exact ⟨v, by rw [HA.out] <;> rfl, by rw [HA.out]; exact HO.out.1, HO.out.2⟩
  · have HA : Hid (addP xs ys = ([], false)) := addP_no hok
    have hR := readTwo_no a b n m ca cb xs ys w ha hb hn hm hok
    clear ha hb hok
    go_enter Tryd.func18, Tryd.ntmps18
    go_wp2_with fail
    refine hR.mono ?_
    rintro e w1 ⟨v1, v2, rfl, b1⟩
    clear hR
    go_wp2
    go_ret2
    exact ⟨.slice none 0 0, by rw [HA.out] <;> rfl, by rw [HA.out]; exact OwnI.nil _ _, b1⟩

def twoA (g1 g2 : Nat) (i : Nat) : Option Addr := if i = 0 then some ⟨g1, 0, none⟩ else some ⟨g2, 0, none⟩
def twoN (n m : Nat) (i : Nat) : Nat := if i = 0 then n else m
def twoF (f g : Nat → Nat) (i : Nat) : Nat → Nat := if i = 0 then f else g
theorem facs_two {w : World} {g1 g2 n m : Nat} {f g : Nat → Nat} (e1 : Els w (some ⟨g1, 0, none⟩) n n f) (e2 : Els w (some ⟨g2, 0, none⟩) m m g) :
    Facs (w.alloc (.cells #[.slice (some ⟨g1, 0, none⟩) n n, .slice (some ⟨g2, 0, none⟩) m m] 44)) w.heap.size 2 (twoA g1 g2) (twoN n m) (twoN n m) (twoF f g) := by
  intro i hi
  rw [cell_of_row _ _ _ _ _ _ (heap_alloc_new w _)]
  match i, hi with
  | 0, _ => exact ⟨rfl, e1.alloc _⟩
  | 1, _ => exact ⟨rfl, e2.alloc _⟩
theorem pf_two {f g : Nat → Nat} {n m : Nat} (hf : Gp.Pol f n) (hl : n = 0 ∨ f (n - 1) ≠ 0) : pf (twoF f g) (twoN n m) 2 = (Gp.cv f g n, Gp.tl (Gp.cv f g n) (n + m)) := by
  have e1 : pf (twoF f g) (twoN n m) 1 = (f, n) := by
    rw [pf_succ]
    show (Gp.cv Gp.one f 1, Gp.tl (Gp.cv Gp.one f 1) (1 + n)) = _
    have e : Gp.cv Gp.one f 1 = f := by funext i; exact Gp.cv_one hf.1 i
    rw [e, Gp.tl_is f (1 + n) n (by omega) (fun i h1 _ => hf.2 i h1) hl]
  rw [pf_succ, e1]
  rfl
theorem mulP_no {xs ys : List Int} (h : ¬ (okB xs = true ∧ okB ys = true)) : mulP xs ys = ([], false) := by unfold mulP; rw [if_neg (fun h' => h ⟨h'.1, h'.2.1⟩)]

set_option maxRecDepth 100000 in
set_option maxHeartbeats 1000000 in
theorem polyMul_any (a b : Option Addr) (n m ca cb : Nat) (xs ys : List Int) (w : World) (ha : IntsAt w a n xs) (hb : IntsAt w b m ys) (hn : n ≤ 1048576) (hm : m ≤ 1048576) :
    Calls Tryd.prog 17 #[.slice a n ca, .slice b m cb] w fun e w' => ∃ v, e = .returned (.tuple #[v, .bool (mulP xs ys).2]) ∧ OwnI w' w.heap.size v (mulP xs ys).1 ∧ Below w.heap.size w w' := by
  by_cases hok : okB xs = true ∧ okB ys = true
  · obtain ⟨hx, hy⟩ := hok
    have hR := readTwo_yes a b n m ca cb xs ys w ha hb hx hy
    have hl1 := ha.1
    have hl2 := hb.1
    have px := (okB_parts hx).2.2.1
    have py := (okB_parts hy).2.2.1
    have hlast := (okB_parts hx).2.1
    have h40 := (okB_parts hx).1
    have h41 := (okB_parts hy).1
    have HM : Hid (mulP xs ys = if Gp.tl (Gp.cv (coP xs) (coP ys) n) (n + m) ≤ 40 then (eI (Gp.cv (coP xs) (coP ys) n) (Gp.tl (Gp.cv (coP xs) (coP ys) n) (n + m)), true) else ([], false)) := by
      show _ = _
      unfold mulP
      rw [hl1, hl2]
      by_cases h : Gp.tl (Gp.cv (coP xs) (coP ys) n) (n + m) ≤ 40
      · rw [if_pos ⟨hx, hy, h⟩, if_pos h]
      · rw [if_neg (fun h' => h h'.2.2), if_neg h]
    rw [hl1] at h40 hlast px
    rw [hl2] at h41 py
    have HP : Hid _ := pf_two (g := coP ys) (m := m) px hlast
    have hFp : ∀ i, i < 2 → Gp.Pol (twoF (coP xs) (coP ys) i) (twoN n m i) := by
      intro i hi
      match i, hi with
      | 0, _ => exact px
      | 1, _ => exact py
    have hNb : ∀ i, i < 2 → twoN n m i ≤ 1000 := by
      intro i hi
      match i, hi with
      | 0, _ => show n ≤ 1000; omega
      | 1, _ => show m ≤ 1000; omega
    clear ha hb hl1 hl2 hx hy hlast
    generalize coP xs = f at *
    generalize coP ys = g at *
    generalize mulP xs ys = res at *
    have HF : Hid _ := And.intro hFp hNb
    have hcl := fun i => Gp.cv_lt f g n i
    have htl := Gp.tl_le (Gp.cv f g n) (n + m)
    have hti := Gp.tl_idem (Gp.cv f g n) (n + m)
    have HC : Hid _ := hcl
    clear hFp hNb hcl px py
    go_enter Tryd.func17, Tryd.ntmps17
    go_wp2_with fail
    refine hR.mono ?_
    rintro e w1 ⟨g1, g2, rfl, e1, e2, b1⟩
    have hf := facs_two e1 e2
    have hal : Below w1.heap.size w1 (w1.alloc (.cells #[.slice (some ⟨g1, 0, none⟩) n n, .slice (some ⟨g2, 0, none⟩) m m] 44)) := (Below.refl _ _).alloc (Nat.le_refl _) _
    have HB : Hid _ := And.intro hf (below2 b1 hal)
    clear hR e1 e2 hf hal b1
    go_wp2_with fail
    refine (product_any _ 2 2 _ _ _ _ _ HB.out.1 (by omega) HF.out.2 HF.out.1).mono ?_
    rintro e w2 ⟨ar, cr, rfl, e2, b2⟩
    have b3 := below2 HB.out.2 b2
    rw [HP.out] at e2 ⊢
    simp only [] at e2 ⊢
    clear HB HP HF b2
    by_cases h4 : Gp.tl (Gp.cv f g n) (n + m) ≤ 40
    · have HA : Hid (res = (eI (Gp.cv f g n) (Gp.tl (Gp.cv f g n) (n + m)), true)) := by show _ = _; rw [HM.out, if_pos h4]
      have hN := numbers_yes ar (Gp.tl (Gp.cv f g n) (n + m)) cr (Gp.cv f g n) w2 e2 (by omega) HC.out (by rw [hti]; exact h4)
      rw [hti] at hN
      clear HM e2 hti h4
      generalize Gp.cv f g n = h at *
      generalize Gp.tl h (n + m) = t at *
      go_wp2_with fail
      refine hN.mono ?_
      rintro e w5 ⟨v, rfl, o5, b5⟩
      have HO : Hid _ := And.intro (OwnI.mono o5 b3.size) (below2 b3 b5)
      clear hN o5 b5 b3
      go_wp2
      go_ret2
      exact ⟨v, by rw [HA.out] <;> rfl, by rw [HA.out]; exact HO.out.1, HO.out.2⟩
    · have HA : Hid (res = ([], false)) := by show _ = _; rw [HM.out, if_neg h4]
      have hN := numbers_no ar (Gp.tl (Gp.cv f g n) (n + m)) cr (Gp.cv f g n) w2 e2 (by omega) HC.out (by rw [hti]; omega)
      clear HM e2 hti h4
      generalize Gp.cv f g n = h at *
      generalize Gp.tl h (n + m) = t at *
      go_wp2_with fail
      refine hN.mono ?_
      rintro e w5 ⟨rfl, hw⟩
      obtain rfl := hw.symm
      clear hN
      go_wp2
      go_ret2
      exact ⟨.slice none 0 0, by rw [HA.out] <;> rfl, by rw [HA.out]; exact OwnI.nil _ _, b3⟩
  · have HA : Hid (mulP xs ys = ([], false)) := mulP_no hok
    have hR := readTwo_no a b n m ca cb xs ys w ha hb hn hm hok
    clear ha hb hok
    go_enter Tryd.func17, Tryd.ntmps17
    go_wp2_with fail
    refine hR.mono ?_
    rintro e w1 ⟨v1, v2, rfl, b1⟩
    clear hR
    go_wp2
    go_ret2
    exact ⟨.slice none 0 0, by rw [HA.out] <;> rfl, by rw [HA.out]; exact OwnI.nil _ _, b1⟩

theorem divP_no {xs ys : List Int} (h : ¬ (okB xs = true ∧ okB ys = true)) : divP xs ys = ([], [], false) := by unfold divP; rw [if_neg (fun h' => h ⟨h'.1, h'.2.1⟩)]
end Go.Proofs.YtdnddimkgddooaaDoor
