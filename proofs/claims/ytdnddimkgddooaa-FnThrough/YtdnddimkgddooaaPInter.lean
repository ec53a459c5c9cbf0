/- The program's polynomial through places: what it answers at any lists of at most 2^20 numbers, in memory of its own; nothing that was there turns. -/
import Derived.Test.YtdnddimkgddooaaPImplB
namespace Go.Proofs.Ytdnddimkgddooaa
open Go.ChangeShapes Go.WideShapes Go.ChangeAt Go.RowKit

/-- No two of the first 'n' are alike. -/
def dis (x : Nat → Nat) (n : Nat) : Bool := (List.range n).all fun i => (List.range i).all fun k => x i != x k
theorem dis_of {x : Nat → Nat} {n : Nat} (h : dis x n = true) : ∀ i j, i < n → j < n → i ≠ j → x i ≠ x j := by
  have h1 : ∀ i k, i < n → k < i → x i ≠ x k := by
    intro i k hi hk
    have h2 := List.all_eq_true.1 (List.all_eq_true.1 h i (List.mem_range.2 hi)) k (List.mem_range.2 hk)
    simpa using h2
  intro i j hi hj hij
  rcases Nat.lt_trichotomy i j with h2 | h2 | h2
  · exact fun e => h1 j i hj h2 e.symm
  · exact absurd h2 hij
  · exact h1 i j hi h2
theorem dis_no {x : Nat → Nat} {n i k : Nat} (hi : i < n) (hk : k < i) (e : x i = x k) : dis x n = false := by
  cases h : dis x n with
  | false => rfl
  | true => exact absurd e (dis_of h i k hi (by omega) (by omega))
theorem dis_yes {x : Nat → Nat} {n : Nat} (h : ∀ i k, i < n → k < i → x i ≠ x k) : dis x n = true := by
  unfold dis
  rw [List.all_eq_true]
  intro i hi
  rw [List.all_eq_true]
  intro k hk
  simpa using h i k (List.mem_range.1 hi) (List.mem_range.1 hk)

def interP (xs ys : List Int) : List Int × Bool :=
  if xs.length = ys.length ∧ xs.length ≤ 40 ∧ xs.all isB = true ∧ ys.all isB = true ∧ dis (coP xs) xs.length = true then
    (eI (Gp.th (coP xs) (coP ys) xs.length xs.length) (Gp.tl (Gp.th (coP xs) (coP ys) xs.length xs.length) xs.length), true) else ([], false)
theorem interP_len (xs ys : List Int) : (interP xs ys).1.length ≤ 1048576 := by
  unfold interP
  split
  · rename_i h
    show (eI _ _).length ≤ _
    rw [eI_len]
    exact Nat.le_trans (Gp.tl_le _ _) (by omega)
  · exact Nat.zero_le _
theorem bytes_at {zs : List Int} (h : zs.all isB = true) : (∀ i, i < zs.length → isB (zs.getD i 0) = true) ∧ (∀ i, coP zs i < 256) ∧ zs = eI (coP zs) zs.length := by
  have h4 : ∀ i, i < zs.length → isB (zs.getD i 0) = true := fun i hi => List.all_eq_true.1 h _ (by simp [List.getD, hi])
  refine ⟨h4, fun i => ?_, eI_ext rfl (fun i hi => ?_)⟩
  · by_cases hi : i < zs.length
    · obtain ⟨X, hX, hx⟩ := isB_nat (h4 i hi)
      unfold coP
      rw [hx]
      simpa using hX
    · unfold coP
      simp [List.getD, List.getElem?_eq_none (show zs.length ≤ i by omega)]
  · obtain ⟨X, hX, hx⟩ := isB_nat (h4 i hi)
    unfold coP
    rw [hx]
    simp
theorem bytes_no {zs : List Int} (h : zs.all isB = false) : ∃ i, i < zs.length ∧ isB (zs.getD i 0) = false := by
  rw [List.all_eq_false] at h
  obtain ⟨x, hx, hb⟩ := h
  obtain ⟨i, hi, rfl⟩ := List.mem_iff_getElem.1 hx
  exact ⟨i, hi, by simpa [List.getD, hi] using hb⟩
theorem pf_roots (x : Nat → Nat) (k : Nat) : pf (fun i => Gp.l2 (x i)) (fun _ => 2) k = (Gp.pr x k, k + 1) := by
  induction k with
  | zero => rfl
  | succ k ih =>
    rw [pf_succ, ih]
    have e : Gp.cv (Gp.pr x k) (Gp.l2 (x k)) (k + 1) = Gp.pr x (k + 1) := by
      funext i
      exact Gp.cv_lin (Gp.pr_pol x k) i
    show (Gp.cv (Gp.pr x k) (Gp.l2 (x k)) (k + 1), Gp.tl (Gp.cv (Gp.pr x k) (Gp.l2 (x k)) (k + 1)) (k + 1 + 2)) = _
    rw [e, Gp.tl_is (Gp.pr x (k + 1)) (k + 1 + 2) (k + 1 + 1) (by omega) (fun i h1 _ => (Gp.pr_pol x (k + 1)).2 i h1) (.inr (by
      show Gp.pr x (k + 1) (k + 1) ≠ 0
      rw [Gp.pr_top]
      omega))]
theorem others {x : Nat → Nat} {n c : Nat} (hc : c < n) (i : Nat) : Gp.dq (Gp.pr x n) (Gp.l2 (x c)) (Gf.inv (Gp.l2 (x c) (2 - 1))) 2 (n + 1 - 2 + 1) (n + 1 - 2 + 1) i = Gp.po x c n i := by
  have hp := Gp.po_pol x c n
  have e : Gp.pl c n = n := by unfold Gp.pl; rw [if_pos hc]
  rw [e] at hp
  have e1 : Gp.l2 (x c) (2 - 1) = 1 := rfl
  have e2 : Gp.m (Gp.l2 (x c) (2 - 1)) (Gf.inv 1) = 1 := by rw [e1]; exact Gp.m_inv (by omega) (by omega)
  rw [show n + 1 - 2 + 1 = n by omega, e1]
  refine Gp.dq_exact _ _ _ 2 n (Gp.po x c n) hp (by omega) (fun i hi => by unfold Gp.l2; rw [if_neg (by omega), if_neg (by omega)]) e2 (fun i => ?_) i
  rw [Gp.cv_lin hp, ← Gp.po_in x c n hc]
theorem height {x : Nat → Nat} {n c : Nat} (hc : c < n) : Gp.ev (Gp.po x c n) (x c) n = Gp.un x c n := by
  have hp := Gp.po_pol x c n
  have e : Gp.pl c n = n := by unfold Gp.pl; rw [if_pos hc]
  have h := Gp.ps_po x c n
  rw [e] at h hp
  rw [Gp.ev_ps hp.1, h]
theorem th_step {x y : Nat → Nat} {n c H : Nat} (hc : c < n) (hy : y c < 256) (hH : Gp.un x c n = H) (i : Nat) : onTop (Gp.th x y n c) (Gp.po x c n) (Gf.mul (y c) (Gf.inv H)) 0 n i = Gp.th x y n (c + 1) i := by
  have hp := Gp.po_pol x c n
  have e : Gp.pl c n = n := by unfold Gp.pl; rw [if_pos hc]
  rw [e] at hp
  subst hH
  rw [onTop_sh hp.2, Gp.m_nat hy (Gf.inv_lt _), show Gp.sh 0 (Gp.po x c n) i = Gp.po x c n i by unfold Gp.sh; rw [if_pos (Nat.zero_le _), Nat.sub_zero]]
  rfl

set_option maxHeartbeats 2000000 in
theorem inter_yes (a b : Option Addr) (n ca cb : Nat) (xs ys : List Int) (w : World) (ha : IntsAt w a n xs) (hb : IntsAt w b n ys) (hn : n ≤ 40) (hx : xs.all isB = true) (hy : ys.all isB = true) :
    Calls Try.prog 23 #[.slice a n ca, .slice b n cb] w fun e w' => ∃ v, e = .returned (.tuple #[v, .bool (interP xs ys).2]) ∧ OwnI w' w.heap.size v (interP xs ys).1 ∧ Below w.heap.size w w' := by
  obtain ⟨i0, hi, hz0, hz1, hz2⟩ := info_parts Try.infoElem
  have hl1 := ha.1
  have hl2 := hb.1
  obtain ⟨bx, px, _⟩ := bytes_at hx
  obtain ⟨bY, py, _⟩ := bytes_at hy
  have hR1 := readE_yes a n ca xs w ha (by omega) (fun i hi => bx i (by omega))
  have HI : Hid (interP xs ys = if dis (coP xs) n = true then (eI (Gp.th (coP xs) (coP ys) n n) (Gp.tl (Gp.th (coP xs) (coP ys) n n) n), true) else ([], false)) := by
    show _ = _
    unfold interP
    rw [hl1, hl2]
    by_cases h : dis (coP xs) n = true
    · rw [if_pos ⟨rfl, hn, hx, hy, h⟩, if_pos h]
    · rw [if_neg (fun h' => h h'.2.2.2.2), if_neg h]
  have HR2 : Hid (∀ w', IntsAt w' b n ys → Calls Try.prog 50 #[.slice b n cb] w' fun e w'' => e = .returned (.tuple #[.slice (some ⟨w'.heap.size, 0, none⟩) n n, .bool true]) ∧ OwnU w'' w'.heap.size w'.heap.size n n (coP ys) ∧ Below w'.heap.size w' w'') := fun w' h => readE_yes b n cb ys w' h (by omega) (fun i hi => bY i (by omega))
  clear ha bx bY hl1 hl2 hx hy
  generalize coP xs = x at *
  generalize coP ys = y at *
  generalize interP xs ys = res at *
  have hnI : ¬ (40 : Int) < (n : Int) := by omega
  go_enter Try.func23, Try.ntmps23
  go_wp2_with fail
  refine hR1.mono ?_
  rintro e w1 ⟨rfl, o1, b1⟩
  have e1 := OwnU.els o1
  have hb1 := hb.below b1
  clear hR1 o1 hb
  go_wp2_with fail
  refine (HR2.out _ hb1).mono ?_
  rintro e w2 ⟨rfl, o2, b2⟩
  have ey := OwnU.els o2
  have ex := e1.below b2
  have b02 := below2 b1 b2
  clear o2 e1 hb1 HR2 b1 b2
  generalize w1.heap.size = g2 at *
  go_wp2_with fail
  refine (rootsAt_any _ n n x _ ex (by omega)).mono ?_
  rintro e w3 ⟨G, rfl, hf, b3⟩
  have ex3 := ex.below b3
  have ey3 := ey.below b3
  have b03 := below2 b02 b3
  clear ex ey b02 b3
  generalize w2.heap.size = g3 at *
  have HF : Hid _ := hf
  clear hf
  go_wp2_with fail
  refine (product_any g3 n n _ _ _ _ _ HF.out (by omega) (fun i _ => by show (2 : Nat) ≤ 1000; omega) (fun i hi => Gp.l2_pol (px i))).mono ?_
  rintro e w4 ⟨ar, cr, rfl, e4, b4⟩
  rw [pf_roots x n] at e4 ⊢
  simp only [] at e4 ⊢
  have ex4 := ex3.below b4
  have ey4 := ey3.below b4
  have HF4 : Hid _ := Facs.below HF.out b4
  have b04 := below2 b03 b4
  clear ex3 ey3 HF b03 b4
  have hs4 := b04.size
  obtain ⟨n1, hn1⟩ : ∃ n1, n + 1 = n1 := ⟨_, rfl⟩
  rw [hn1] at e4 ⊢
  go_wp2_with (at_make; refine wpList_make_full _ rfl _ _ 37 rfl w4.heap.size 49 i0 (.int .u8 0) 1 Try.underlying37 hi hz0 hz1 .i64 .i64 _ _ n1 rfl rfl (by first | rfl | omega) (by first | rfl | omega) (by rw [hz2]; omega) (by unfold maxLen; omega) (Nat.le_refl _) ?_; intro w5 hown hgrow)
  have hb5 : Below w4.heap.size w4 w5 := (Below.refl _ _).grown hgrow (Nat.le_refl _) (by simp)
  have o5 : OwnU w5 w4.heap.size w4.heap.size n1 n1 (Gp.th x y n 0) := by
    unfold OwnU
    rw [eI_const (f := Gp.th x y n 0) n1 0 (fun i _ => rfl)]
    simpa [Value.cells, toList_madeCells_one] using hown
  have H5 : Hid _ := And.intro o5 hb5
  have HE : Hid _ := And.intro e4 (And.intro ex4 ey4)
  clear hown hgrow o5 hb5 e4 ex4 ey4
  go_loopw [53] (fun i wr => ∃ c : Nat, c ≤ n ∧ i = .int .i64 c ∧ OwnU wr w4.heap.size w4.heap.size n1 n1 (Gp.th x y n c) ∧ Below w4.heap.size w4 wr ∧ Hid (∀ j, j < c → Gp.un x j n ≠ 0)) (fun i _ => n - (intOf i).toNat)
  case atStart => exact ⟨0, Nat.zero_le _, rfl, H5.out.1, H5.out.2, fun j hj => absurd hj (by omega)⟩
  case round =>
    obtain ⟨c, hc, rfl, hown, hbel, HU⟩ := hrel
    clear H5
    by_cases hlt : c < n
    · have hltI : (c : Int) < (n : Int) := by omega
      obtain ⟨e4, ex4, ey4⟩ := HE.out
      have hall := e4.below hbel
      obtain ⟨bx, ebx, hcx⟩ := (ex4.below hbel).at (i := c) hlt
      cases ebx
      obtain ⟨bY, eby, hcy⟩ := (ey4.below hbel).at (i := c) hlt
      cases eby
      obtain ⟨hcf, hfe⟩ := (Facs.below HF4.out hbel) c hlt
      have hD := divided_long ar n1 cr (Gp.pr x n) _ 2 2 (Gp.l2 (x c)) wr hall hfe (by omega) (by omega) (by omega) (Gp.pr_pol x n).1 (Gp.l2_pol (px c))
      have hOt := fun i => others (x := x) hlt i
      rw [hn1] at hOt
      have hTn : n1 - 2 + 1 = n := by omega
      rw [hTn] at hD hOt
      have HD : Hid _ := hD
      have HOt : Hid _ := hOt
      have HHt : Hid (Gp.ev (Gp.po x c n) (x c) n = Gp.un x c n) := height hlt
      have hpo := Gp.po_pol x c n
      have hpl : Gp.pl c n = n := by unfold Gp.pl; rw [if_pos hlt]
      rw [hpl] at hpo
      have HPo : Hid _ := hpo
      have hxc := px c
      have hyc := py c
      have hul := Gp.un_lt x c n
      have HW : Hid _ := And.intro hown hbel
      have hws := hbel.size
      have hgl := (OwnU.lt hown).2
      have hthl := (Gp.th_pol x y n c hc).1
      have HTh : Hid _ := hthl
      clear hthl
      clear e4 ex4 ey4 hall hfe hD hOt hTn hpo hpl hown hbel
      go_wp2_with fail
      refine Calls.mono HD.out ?_
      rintro e w6 ⟨gq, gr, crr, rfl, oq, or', b6⟩
      have eq6 := (OwnU.els oq).congr (g := Gp.po x c n) (fun i _ => HOt.out i)
      have hown6 := OwnU.below HW.out.1 b6
      have hcy6 := (b6.cell (p := ⟨g2, c, none⟩) (block_lt_of_cell hcy)).trans hcy
      have hgq := (OwnU.lt oq).1
      have b46 := HW.out.2.trans (b6.mono hws)
      have H6 : Hid _ := And.intro eq6 (And.intro hown6 b46)
      clear oq or' hcf hcx HD HOt eq6 hown6 b46 b6
      go_wp2_with fail
      refine (at_any _ n n (Gp.po x c n) (x c) _ H6.out.1 (by omega) HPo.out.1 hxc).mono ?_
      rintro e w7 ⟨rfl, b7⟩
      rw [HHt.out]
      have hcy7 := (b7.cell (p := ⟨g2, c, none⟩) (block_lt_of_cell hcy6)).trans hcy6
      have H7 : Hid _ := And.intro (H6.out.1.below b7) (And.intro (OwnU.below H6.out.2.1 b7) (H6.out.2.2.trans (b7.mono H6.out.2.2.size)))
      clear H6 hcy6 hcy b7
      by_cases hu : Gp.un x c n = 0
      · have HA : Hid (res = ([], false)) := by
          show _ = _
          rw [HI.out, if_neg]
          intro hd
          exact Gp.un_ne px (fun j hj hjc => dis_of hd j c hj hlt hjc) hu
        have HB : Hid _ := b04.trans (H7.out.2.2.mono hs4)
        rw [hu]
        clear H7 HI HE HF4 HW HTh HU HHt HPo b04 hcy7 hu hul
        go_wp2
        go_ret2
        exact ⟨.slice none 0 0, by rw [HA.out] <;> rfl, by rw [HA.out]; exact OwnI.nil _ _, HB.out⟩
      · have HU2 : Hid (∀ j, j < c + 1 → Gp.un x j n ≠ 0) := fun j hj => by
          by_cases e : j = c
          · subst e; exact hu
          · exact HU.out j (by omega)
        obtain ⟨H, hH⟩ : ∃ H, Gp.un x c n = H := ⟨_, rfl⟩
        have HT : Hid _ := fun i => th_step (x := x) (y := y) hlt hyc hH i
        rw [hH] at hu hul ⊢
        have hu' : ((H : Int) == 0) = false := by simpa using hu
        have hinvH := Gf.inv_lt H
        have hml := Gf.mul_lt hyc hinvH
        have hoffq : ∀ b, some (⟨gq, 0, none⟩ : Addr) = some ⟨b, 0, none⟩ → b ≠ w4.heap.size := fun b e => by cases e; omega
        have HQ : Hid _ := hoffq
        clear hoffq hH HU HW HHt hu
        go_wp2_with fail
        go_region_with ((first | (go_at_call 54; refine (inverse_any H _ hul).mono ?_; rintro e w8 ⟨rfl, hb8'⟩; have hb8 := below_of_drew hb8'; clear hb8'; have hcy8 := (hb8.cell (p := ⟨g2, c, none⟩) (block_lt_of_cell hcy7)).trans hcy7) | (go_at_call 53; refine (times_any (y c) (Gf.inv H) _ hyc hinvH).mono ?_; rintro e w9 ⟨rfl, hb9⟩) | (go_at_call 45; refine (addScaled_any w4.heap.size w4.heap.size n1 n1 (Gp.th x y n c) _ n n (Gp.po x c n) (Gf.mul (y c) (Gf.inv H)) 0 _ (OwnU.below (OwnU.below H7.out.2.1 hb8) hb9) (Els.below (Els.below H7.out.1 hb8) hb9) HQ.out HTh.out HPo.out.1 hml (by omega) (by omega)).mono ?_; rintro e w10 ⟨rfl, o10, g10⟩)))
        all_goals
          have b49 := (H7.out.2.2.trans (hb8.mono H7.out.2.2.size))
          have b410 := (b49.trans (hb9.mono b49.size))
          have b411 := b410.trans (below_of_grownBy g10 (Nat.le_refl _) b410.size)
          have HO : Hid _ := And.intro (OwnU.congr (h := Gp.th x y n (c + 1)) o10 (fun i _ => HT.out i)) b411
          clear b49 b410 b411 o10 g10 hb8 hb9 H7 HT HTh HPo HQ HF4 HE
          go_wp2
          go_roundw
          case rel => exact ⟨c + 1, by omega, by go_num, HO.out.1, HO.out.2, HU2.out⟩
          case measure => simp [intOf] <;> omega
    · obtain rfl : c = n := by omega
      have hd : dis x c = true := dis_yes (fun i k hi hk e => HU.out i hi (Gp.un_zero (by omega) (by omega) e.symm))
      have hp := Gp.th_pol x y c c (Nat.le_refl _)
      have htl : Gp.tl (Gp.th x y c c) n1 = Gp.tl (Gp.th x y c c) c := Gp.tl_more hp.2 n1 (by omega)
      have hN := numbers_yes _ n1 n1 (Gp.th x y c c) wr (OwnU.els hown) (by omega) hp.1 (by rw [htl]; exact Nat.le_trans (Gp.tl_le _ _) hn)
      rw [htl] at hN
      have HA : Hid (res = (eI (Gp.th x y c c) (Gp.tl (Gp.th x y c c) c), true)) := by show _ = _; rw [HI.out, if_pos hd]
      have HN : Hid _ := hN
      have b0r := b04.trans (hbel.mono hs4)
      clear hN hp htl hd hown hbel HU HI HE HF4 b04
      go_wp2_with fail
      refine Calls.mono HN.out ?_
      rintro e w9 ⟨v, rfl, o9, b9⟩
      have HO : Hid _ := And.intro (OwnI.mono o9 b0r.size) (below2 b0r b9)
      clear o9 b9 b0r HN
      go_wp2
      go_ret2
      exact ⟨v, by rw [HA.out] <;> rfl, by rw [HA.out]; exact HO.out.1, HO.out.2⟩

theorem interP_no {xs ys : List Int} (h : ¬ (xs.length = ys.length ∧ xs.length ≤ 40 ∧ xs.all isB = true ∧ ys.all isB = true)) : interP xs ys = ([], false) := by
  unfold interP
  rw [if_neg (fun h' => h ⟨h'.1, h'.2.1, h'.2.2.1, h'.2.2.2.1⟩)]
set_option maxHeartbeats 1000000 in
theorem inter_any (a b : Option Addr) (n m ca cb : Nat) (xs ys : List Int) (w : World) (ha : IntsAt w a n xs) (hb : IntsAt w b m ys) (_hn : n ≤ 1048576) (_hm : m ≤ 1048576) :
    Calls Try.prog 23 #[.slice a n ca, .slice b m cb] w fun e w' => ∃ v, e = .returned (.tuple #[v, .bool (interP xs ys).2]) ∧ OwnI w' w.heap.size v (interP xs ys).1 ∧ Below w.heap.size w w' := by
  have hl1 := ha.1
  have hl2 := hb.1
  by_cases hnm : n = m
  · subst hnm
    by_cases h40 : n ≤ 40
    · have h40I : ¬ (40 : Int) < (n : Int) := by omega
      by_cases hx : xs.all isB = true
      · by_cases hy : ys.all isB = true
        · exact inter_yes a b n ca cb xs ys w ha hb h40 hx hy
        · have hy' : ys.all isB = false := by simpa using hy
          have HA : Hid (interP xs ys = ([], false)) := interP_no (fun h => hy h.2.2.2)
          have hz := bytes_no hy'
          rw [hl2] at hz
          obtain ⟨bx, _, _⟩ := bytes_at hx
          have hR1 := readE_yes a n ca xs w ha (by omega) (fun i hi => bx i (by omega))
          generalize interP xs ys = res at *
          clear ha bx hl1 hl2 hx hy hy'
          go_enter Try.func23, Try.ntmps23
          go_wp2_with fail
          refine hR1.mono ?_
          rintro e w1 ⟨rfl, o1, b1⟩
          have hb1 := hb.below b1
          clear hR1 o1 hb
          go_wp2_with fail
          refine (readE_no b n cb ys _ hb1 (by omega) hz).mono ?_
          rintro e w2 ⟨rfl, b2⟩
          have HB : Hid _ := below2 b1 b2
          clear hb1 hz b1 b2
          go_wp2
          go_ret2
          exact ⟨.slice none 0 0, by rw [HA.out] <;> rfl, by rw [HA.out]; exact OwnI.nil _ _, HB.out⟩
      · have hx' : xs.all isB = false := by simpa using hx
        have HA : Hid (interP xs ys = ([], false)) := interP_no (fun h => hx h.2.2.1)
        have hz := bytes_no hx'
        rw [hl1] at hz
        have hR1 := readE_no a n ca xs w ha (by omega) hz
        by_cases hy : ys.all isB = true
        · obtain ⟨bY, _, _⟩ := bytes_at hy
          have HY : Hid _ := bY
          generalize interP xs ys = res at *
          clear ha bY hl1 hx hx' hy hz
          go_enter Try.func23, Try.ntmps23
          go_wp2_with fail
          refine hR1.mono ?_
          rintro e w1 ⟨rfl, b1⟩
          have hb1 := hb.below b1
          clear hR1 hb
          go_wp2_with fail
          refine (readE_yes b n cb ys _ hb1 (by omega) (fun i hi => HY.out i (by omega))).mono ?_
          rintro e w2 ⟨rfl, o2, b2⟩
          have HB : Hid _ := below2 b1 b2
          clear hb1 b1 b2 o2
          go_wp2
          go_ret2
          exact ⟨.slice none 0 0, by rw [HA.out] <;> rfl, by rw [HA.out]; exact OwnI.nil _ _, HB.out⟩
        · have hy' : ys.all isB = false := by simpa using hy
          have hz2 := bytes_no hy'
          rw [hl2] at hz2
          generalize interP xs ys = res at *
          clear ha hl1 hl2 hx hx' hy hy' hz
          go_enter Try.func23, Try.ntmps23
          go_wp2_with fail
          refine hR1.mono ?_
          rintro e w1 ⟨rfl, b1⟩
          have hb1 := hb.below b1
          clear hR1 hb
          go_wp2_with fail
          refine (readE_no b n cb ys _ hb1 (by omega) hz2).mono ?_
          rintro e w2 ⟨rfl, b2⟩
          have HB : Hid _ := below2 b1 b2
          clear hb1 b1 b2 hz2
          go_wp2
          go_ret2
          exact ⟨.slice none 0 0, by rw [HA.out] <;> rfl, by rw [HA.out]; exact OwnI.nil _ _, HB.out⟩
    · have h40I : (40 : Int) < (n : Int) := by omega
      have HA : Hid (interP xs ys = ([], false)) := interP_no (fun h => by omega)
      generalize interP xs ys = res at *
      clear ha hb hl1 hl2
      go_enter Try.func23, Try.ntmps23
      go_wp2
      go_ret2
      exact ⟨.slice none 0 0, by rw [HA.out] <;> rfl, by rw [HA.out]; exact OwnI.nil _ _, Below.refl _ _⟩
  · have hne : ((n : Int) != (m : Int)) = true := by simp; omega
    have HA : Hid (interP xs ys = ([], false)) := interP_no (fun h => by omega)
    generalize interP xs ys = res at *
    clear ha hb hl1 hl2
    go_enter Try.func23, Try.ntmps23
    go_wp2
    go_ret2
    exact ⟨.slice none 0 0, by rw [HA.out] <;> rfl, by rw [HA.out]; exact OwnI.nil _ _, Below.refl _ _⟩
end Go.Proofs.Ytdnddimkgddooaa
