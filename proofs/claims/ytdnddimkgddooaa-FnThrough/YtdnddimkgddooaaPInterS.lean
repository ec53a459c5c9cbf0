/- The model's polynomial through places: what it answers at any lists of at most 2^20 numbers, in memory of its own; nothing that was there turns. -/
import Derived.Test.YtdnddimkgddooaaPInter
import Derived.Test.YtdnddimkgddooaaPDivS
namespace Go.Proofs.Ytdnddimkgddooaa
open Go.ChangeShapes Go.WideShapes Go.ChangeAt Go.RowKit

theorem po_top (xs : Nat → Nat) (i k : Nat) : Gp.po xs i k (Gp.pl i k - 1) = 1 := by
  induction k with
  | zero => rfl
  | succ k ih =>
    have hp := Gp.po_pol xs i k
    show (if k = i then _ else _ : Nat → Nat) _ = 1
    by_cases e : k = i
    · subst e
      rw [if_pos rfl, show Gp.pl k (k + 1) = Gp.pl k k by unfold Gp.pl; rw [if_pos (by omega), if_neg (by omega)]]
      exact ih
    · rw [if_neg e]
      have e2 : Gp.pl i (k + 1) = Gp.pl i k + 1 := by
        unfold Gp.pl
        by_cases h1 : i < k
        · rw [if_pos h1, if_pos (by omega)]
        · rw [if_neg h1, if_neg (by omega)]
      have e3 : 0 < Gp.pl i k := by unfold Gp.pl; split <;> omega
      obtain ⟨j, hj⟩ : ∃ j, Gp.pl i k = j + 1 := ⟨Gp.pl i k - 1, by omega⟩
      rw [e2, show Gp.pl i k + 1 - 1 = j + 1 by omega]
      show Gp.m (Gp.po xs i k (j + 1)) _ ^^^ Gp.po xs i k j = 1
      rw [hp.2 (j + 1) (by omega), Gp.zero_m, Nat.zero_xor]
      rw [hj] at ih
      exact ih
theorem po_step {xs : Nat → Nat} {i k : Nat} (hki : k ≠ i) : Gp.cv (Gp.po xs i k) (Gp.l2 (xs k)) (Gp.pl i k) = Gp.po xs i (k + 1) ∧ Gp.tl (Gp.po xs i (k + 1)) (Gp.pl i k + 2) = Gp.pl i (k + 1) := by
  constructor
  · funext j
    rw [Gp.cv_lin (Gp.po_pol xs i k)]
    show _ = (if k = i then _ else _ : Nat → Nat) j
    rw [if_neg hki]
  · have e2 : Gp.pl i (k + 1) = Gp.pl i k + 1 := by
      unfold Gp.pl
      by_cases h1 : i < k
      · rw [if_pos h1, if_pos (by omega)]
      · rw [if_neg h1, if_neg (by omega)]
    refine Gp.tl_is _ _ _ (by omega) (fun j h1 _ => (Gp.po_pol xs i (k + 1)).2 j h1) (.inr ?_)
    rw [po_top xs i (k + 1)]
    omega
def cst (s : Nat) (i : Nat) : Nat := if i = 0 then s else 0
theorem cst_pol {s : Nat} (h : s < 256) : Gp.Pol (cst s) 1 := ⟨fun i => by unfold cst; split <;> omega, fun i hi => by unfold cst; rw [if_neg (by omega)]⟩
theorem cv_cst (p : Nat → Nat) (s k i : Nat) : Gp.cv p (cst s) k i = if i < k then Gp.m s (p i) else 0 := by
  induction k with
  | zero => rw [if_neg (by omega)]; rfl
  | succ k ih =>
    rw [Gp.cv_s, ih]
    by_cases e : i = k
    · subst e
      rw [if_neg (by omega), if_pos (by omega), Nat.zero_xor]
      congr 1
      unfold Gp.sh cst
      rw [if_pos (Nat.le_refl _), if_pos (by omega)]
    · have e2 : Gp.sh k (cst s) i = 0 := by
        unfold Gp.sh cst
        by_cases h : k ≤ i
        · rw [if_pos h, if_neg (by omega)]
        · rw [if_neg h]
      rw [e2, Gp.zero_m, Nat.xor_zero]
      by_cases h : i < k
      · rw [if_pos h, if_pos (by omega)]
      · rw [if_neg h, if_neg (by omega)]
/-- One round of the sum, in the model's way. -/
theorem th_round {x y : Nat → Nat} {n c s : Nat} (hc : c < n) (hs : Gp.m (y c) (Gf.inv (Gp.un x c n)) = s) :
    Gp.ad (Gp.th x y n c) (Gp.cv (Gp.po x c n) (cst s) n) = Gp.th x y n (c + 1) := by
  have hp := Gp.po_pol x c n
  have e : Gp.pl c n = n := by unfold Gp.pl; rw [if_pos hc]
  rw [e] at hp
  funext i
  show _ ^^^ Gp.cv _ _ _ i = _ ^^^ Gp.m (Gp.po x c n i) (Gp.m (y c) (Gf.inv (Gp.un x c n)))
  rw [hs, cv_cst]
  by_cases h : i < n
  · rw [if_pos h, Gp.m_comm]
  · rw [if_neg h, hp.2 i (by omega), Gp.zero_m]
theorem pl0 (j : Nat) : Gp.pl j 0 = 1 := by unfold Gp.pl; rw [if_neg (by omega)]
theorem pl_in {j c : Nat} (h : j < c) : Gp.pl j c = c := by unfold Gp.pl; rw [if_pos h]
theorem pl_le (j d : Nat) : Gp.pl j d ≤ d + 1 := by unfold Gp.pl; split <;> omega
theorem skip (x : Nat → Nat) (d : Nat) : Gp.pl d (d + 1) = Gp.pl d d ∧ Gp.po x d (d + 1) = Gp.po x d d ∧ Gp.un x d (d + 1) = Gp.un x d d := by
  refine ⟨by unfold Gp.pl; rw [if_pos (by omega), if_neg (by omega)], ?_, ?_⟩
  · show (if d = d then _ else _) = _
    rw [if_pos rfl]
  · show (if d = d then _ else _) = _
    rw [if_pos rfl]
theorem un_s {x : Nat → Nat} {j d : Nat} (h : d ≠ j) : Gp.un x j (d + 1) = Gp.m (Gp.un x j d) (x j ^^^ x d) := by
  show (if d = j then _ else _) = _
  rw [if_neg h]
theorem one_lit (w : World) (x : Nat → Nat) (j : Nat) : IntsAt (w.alloc (.cells #[.int .i64 1] 3)) (some ⟨w.heap.size, 0, none⟩) (Gp.pl j 0) (eI (Gp.po x j 0) (Gp.pl j 0)) := by
  rw [pl0]
  refine ⟨eI_len _ _, fun i hi => ⟨_, 0, rfl, ?_⟩⟩
  rw [Nat.zero_add, cell_of_row _ _ _ _ _ _ (heap_alloc_new w _)]
  match i, hi with
  | 0, _ => rfl
theorem lit2 (w : World) (x : Nat) : IntsAt (w.alloc (.cells #[.int .i64 (x : Int), .int .i64 1] 3)) (some ⟨w.heap.size, 0, none⟩) 2 (eI (Gp.l2 x) 2) := by
  refine ⟨eI_len _ _, fun i hi => ⟨_, 0, rfl, ?_⟩⟩
  rw [Nat.zero_add, cell_of_row _ _ _ _ _ _ (heap_alloc_new w _)]
  match i, hi with
  | 0, _ => rfl
  | 1, _ => rfl
theorem lit1 (w : World) (x : Nat) : IntsAt (w.alloc (.cells #[.int .i64 (x : Int)] 3)) (some ⟨w.heap.size, 0, none⟩) 1 (eI (cst x) 1) := by
  refine ⟨eI_len _ _, fun i hi => ⟨_, 0, rfl, ?_⟩⟩
  rw [Nat.zero_add, cell_of_row _ _ _ _ _ _ (heap_alloc_new w _)]
  match i, hi with
  | 0, _ => rfl
theorem OwnI.ints {w : World} {B n : Nat} {v : Value} {f : Nat → Nat} (h : OwnI w B v (eI f n)) : ∃ a cap, v = .slice a n cap ∧ IntsAt w a n (eI f n) := by
  obtain ⟨a, cap, e, hi, _⟩ := h.view
  rw [eI_len] at e hi
  exact ⟨a, cap, e, hi⟩

set_option maxRecDepth 100000 in
set_option maxHeartbeats 4000000 in
theorem sInter_yes (a b : Option Addr) (n ca cb : Nat) (xs ys : List Int) (w : World) (ha : IntsAt w a n xs) (hb : IntsAt w b n ys) (hn : n ≤ 40) (hx : xs.all isB = true) (hy : ys.all isB = true) :
    Calls Try.prog 24 #[.slice a n ca, .slice b n cb] w fun e w' => ∃ v, e = .returned (.tuple #[v, .bool (interP xs ys).2]) ∧ OwnI w' w.heap.size v (interP xs ys).1 ∧ Below w.heap.size w w' := by
  have hl1 := ha.1
  have hl2 := hb.1
  obtain ⟨_, px, ex⟩ := bytes_at hx
  obtain ⟨_, py, ey⟩ := bytes_at hy
  have hB1 := sBytes_any a n ca xs w ha (by omega)
  have hB2 := sBytes_any b n cb ys w hb (by omega)
  rw [hx] at hB1
  rw [hy] at hB2
  have HI : Hid (interP xs ys = if dis (coP xs) n = true then (eI (Gp.th (coP xs) (coP ys) n n) (Gp.tl (Gp.th (coP xs) (coP ys) n n) n), true) else ([], false)) := by
    show _ = _
    unfold interP
    rw [hl1, hl2]
    by_cases h : dis (coP xs) n = true
    · rw [if_pos ⟨rfl, hn, hx, hy, h⟩, if_pos h]
    · rw [if_neg (fun h' => h h'.2.2.2.2), if_neg h]
  have hA : IntsAt w a n (eI (coP xs) n) := by rw [← hl1, ← ex]; rw [hl1]; exact ha
  have hB : IntsAt w b n (eI (coP ys) n) := by rw [← hl2, ← ey]; rw [hl2]; exact hb
  clear ha hb hl1 hl2 hx hy ex ey
  generalize coP xs = x at *
  generalize coP ys = y at *
  generalize interP xs ys = res at *
  have hnI : ¬ (40 : Int) < (n : Int) := by omega
  go_enter Try.func24, Try.ntmps24
  go_wp2_with fail
  refine hB1.mono ?_
  rintro e w1 ⟨rfl, hw⟩
  obtain rfl := hw.symm
  go_wp2_with fail
  refine hB2.mono ?_
  rintro e w1 ⟨rfl, hw⟩
  obtain rfl := hw.symm
  clear hB1 hB2 hw
  go_wp2
  go_loopw [6] (fun i wr => ∃ c : Nat, c ≤ n ∧ i = .int .i64 c ∧ Below w.heap.size w wr ∧ Hid (∀ i k, i < c → k < i → x i ≠ x k)) (fun i _ => n - (intOf i).toNat)
  case atStart => exact ⟨0, Nat.zero_le _, rfl, Below.refl _ _, fun i k hi _ => absurd hi (by omega)⟩
  case round =>
    obtain ⟨c, hc, rfl, hbel, HD⟩ := hrel
    by_cases hlt : c < n
    · have hltI : (c : Int) < (n : Int) := by omega
      have H0 : Hid _ := hbel
      clear hbel
      go_wp2
      go_loopw [7] (fun k wr => ∃ d : Nat, d ≤ c ∧ k = .int .i64 d ∧ Below w.heap.size w wr ∧ Hid (∀ k, k < d → x c ≠ x k)) (fun k _ => c - (intOf k).toNat)
      case atStart => exact ⟨0, Nat.zero_le _, rfl, H0.out, fun k hk => absurd hk (by omega)⟩
      case round =>
        obtain ⟨d, hd, rfl, hbel, HK⟩ := hrel
        clear H0
        by_cases hlt2 : d < c
        · have hlt2I : (d : Int) < (c : Int) := by omega
          have hdnI : (d : Int) < (n : Int) := by omega
          obtain ⟨b1, off1, rfl, hc1⟩ := intsE (hA.below hbel) hlt
          obtain ⟨b2, off2, e2, hc2⟩ := intsE (hA.below hbel) (k := d) (by omega)
          cases e2
          by_cases he : x c = x d
          · have HA : Hid (res = ([], false)) := by show _ = _; rw [HI.out, dis_no hlt hlt2 he]; rfl
            rw [he] at hc1
            clear HI hA hB HD HK
            go_wp2
            go_quiet (fail)
            go_wp2
            go_ret2
            refine ⟨_, by rw [HA.out] <;> rfl, by rw [HA.out]; exact OwnI.mono (nil0 _) (below_drewN hbel _).size, below2 (below_drewN hbel _) ((Below.refl _ _).alloc (Nat.le_refl _) _)⟩
          · have he' : (((x c : Nat) : Int) == ((x d : Nat) : Int)) = false := by simp; omega
            clear hA hB
            go_wp2
            go_quiet (fail)
            go_wp2
            go_roundw
            case rel => exact ⟨d + 1, by omega, by go_num, below_drewN hbel _, fun k hk => by
              by_cases e : k = d
              · subst e; exact he
              · exact HK.out k (by omega)⟩
            case measure => simp [intOf] <;> omega
        · obtain rfl : d = c := by omega
          clear hA hB
          go_wp2
          go_roundw
          case rel => exact ⟨d + 1, by omega, by go_num, hbel, fun i k hi hk => by
            by_cases e : i = d
            · subst e; exact HK.out k hk
            · exact HD.out i k (by omega) hk⟩
          case measure => simp [intOf] <;> omega
    · obtain rfl : c = n := by omega
      have hdis : dis x c = true := dis_yes HD.out
      have HA : Hid (res = (eI (Gp.th x y c c) (Gp.tl (Gp.th x y c c) c), true)) := by show _ = _; rw [HI.out, if_pos hdis]
      have HDis : Hid _ := dis_of hdis
      clear HI HD hdis
      have H0 : Hid (OwnI (wr.alloc (.cells #[] 3)) w.heap.size (.slice (some ⟨wr.heap.size, 0, none⟩) 0 0) (eI (Gp.th x y c 0) (Gp.tl (Gp.th x y c 0) c)) ∧ Below w.heap.size w (wr.alloc (.cells #[] 3))) := by
        have e : Gp.tl (Gp.th x y c 0) c = 0 := Gp.tl_is _ _ _ (Nat.zero_le _) (fun i _ _ => rfl) (.inl rfl)
        rw [e]
        exact ⟨OwnI.mono (nil0 wr) hbel.size, hbel.alloc hbel.size _⟩
      clear hbel
      go_wp2
      go_loopw [8, 9] (fun v i wr => ∃ j : Nat, j ≤ c ∧ i = .int .i64 j ∧ OwnI wr w.heap.size v (eI (Gp.th x y c j) (Gp.tl (Gp.th x y c j) c)) ∧ Below w.heap.size w wr) (fun _ i _ => c - (intOf i).toNat)
      case atStart => exact ⟨0, Nat.zero_le _, rfl, H0.out.1, H0.out.2⟩
      case round =>
        obtain ⟨j, hj, rfl, hout, hbel⟩ := hrel
        clear H0
        by_cases hlt2 : j < c
        · have hltI : (j : Int) < (c : Int) := by omega
          obtain ⟨t, ht⟩ : ∃ t, Gp.tl (Gp.th x y c j) c = t := ⟨_, rfl⟩
          rw [ht] at hout
          obtain ⟨ao, co, rfl, _⟩ := hout.ints
          have hal : Below wr.heap.size wr (wr.alloc (.cells #[.int .i64 1] 3)) := (Below.refl _ _).alloc (Nat.le_refl _) _
          have H1 : Hid _ := And.intro (one_lit wr x j) (And.intro (OwnI.below hout hal) (below2 hbel hal))
          clear hout hal hbel
          go_wp2
          go_loopw [10, 11, 12] (fun pv uv k wr => ∃ (d : Nat) (ap : Option Addr) (cp : Nat), d ≤ c ∧ k = .int .i64 d ∧ pv = .slice ap (Gp.pl j d) cp ∧ uv = .int .i64 ((Gp.un x j d : Nat) : Int) ∧ IntsAt wr ap (Gp.pl j d) (eI (Gp.po x j d) (Gp.pl j d)) ∧ OwnI wr w.heap.size (.slice ao t co) (eI (Gp.th x y c j) t) ∧ Below w.heap.size w wr) (fun _ _ k _ => c - (intOf k).toNat)
          case atStart => exact ⟨0, _, 1, Nat.zero_le _, rfl, by rw [pl0], rfl, H1.out.1, H1.out.2.1, H1.out.2.2⟩
          case round =>
            obtain ⟨d, ap, cp, hd, rfl, rfl, rfl, hp, hout, hbel⟩ := hrel
            clear H1
            by_cases hlt3 : d < c
            · have hlt3I : (d : Int) < (c : Int) := by omega
              by_cases e : d = j
              · subst e
                obtain ⟨E1, E2, E3⟩ := skip x d
                rw [← E1, ← E2] at hp
                rw [← E1, ← E3]
                have HP : Hid _ := And.intro hp (And.intro hout hbel)
                clear hp hout hbel E1 E2 E3 hA hB
                go_wp2
                go_roundw
                case rel => exact ⟨d + 1, ap, cp, by omega, by go_num, rfl, rfl, HP.out.1, HP.out.2.1, HP.out.2.2⟩
                case measure => simp [intOf] <;> omega
              · have ne1 : ((d : Int) != (j : Int)) = true := by simp; omega
                have hal : Below wr.heap.size wr (wr.alloc (.cells #[.int .i64 ((x d : Nat) : Int), .int .i64 1] 3)) := (Below.refl _ _).alloc (Nat.le_refl _) _
                have hpl := pl_le j d
                have hPr := sProd_any ap (some ⟨wr.heap.size, 0, none⟩) (Gp.pl j d) 2 cp 2 (Gp.po x j d) (Gp.l2 (x d)) _ (hp.below hal) (lit2 wr (x d)) (Gp.po_pol x j d) (Gp.l2_pol (px d)) (by omega) (by omega)
                rw [(po_step e).1, (po_step e).2] at hPr
                obtain ⟨b1, off1, rfl, hc1⟩ := intsE (hA.below hbel) hlt3
                have hA' := hA.below (below2 hbel hal)
                have HPr : Hid _ := hPr
                have HW : Hid _ := And.intro (OwnI.below hout hal) (below2 hbel hal)
                have hul := Gp.un_lt x j d
                have hxj := px j
                have hxd := px d
                have hxl := Gf.xor_lt hxj hxd
                have hxr := xor_i64 (x j) (x d) (by omega) (by omega)
                have HUn : Hid (Gf.mul (Gp.un x j d) (x j ^^^ x d) = Gp.un x j (d + 1)) := by show _ = _; rw [un_s e, Gp.m_nat hul hxl]
                clear hPr hp hout hal hbel hB hA
                go_wp2_with fail
                refine Calls.mono HPr.out ?_
                rintro e w2 ⟨v, rfl, o2, b2⟩
                obtain ⟨ap2, cp2, rfl, hi2⟩ := o2.ints
                obtain ⟨b3, off3, e3, hc3⟩ := intsE (hA'.below b2) hlt2
                cases e3
                obtain ⟨b4, off4, e4, hc4⟩ := intsE (hA'.below b2) hlt3
                cases e4
                have HP : Hid _ := And.intro hi2 (And.intro (OwnI.below HW.out.1 b2) (below2 HW.out.2 b2))
                clear o2 b2 hi2 HW HPr hc1 hA'
                go_wp2
                go_quiet ((go_at_call 40; exact Calls.quiet_of_same (sMul_nat (Gp.un x j d) (x j ^^^ x d) _ hul hxl)))
                go_wp2
                go_roundw
                case rel => exact ⟨d + 1, ap2, cp2, by omega, by go_num, rfl, by rw [HUn.out], HP.out.1, HP.out.2.1, below_drewN HP.out.2.2 _⟩
                case measure => simp [intOf] <;> omega
            · obtain rfl : d = c := by omega
              have hpc := Gp.po_pol x j d
              rw [pl_in hlt2] at hp hpc ⊢
              have hunz : Gp.un x j d ≠ 0 := Gp.un_ne px (fun i hi hij => HDis.out i j hi hlt2 hij)
              have hul := Gp.un_lt x j d
              have hdv := divI_nat (py j) hul hunz
              obtain ⟨sc, hsc⟩ : ∃ sc, Gf.mul (y j) (Gf.inv (Gp.un x j d)) = sc := ⟨_, rfl⟩
              have hscl : sc < 256 := by rw [← hsc]; exact Gf.mul_lt (py j) (Gf.inv_lt _)
              rw [hsc] at hdv
              have HTh := th_round (x := x) (y := y) (n := d) hlt2 (s := sc) (by rw [← hsc, Gp.m_nat (py j) (Gf.inv_lt _)])
              obtain ⟨b1, off1, rfl, hc1⟩ := intsE (hB.below hbel) hlt2
              have hal : Below wr.heap.size wr (wr.alloc (.cells #[.int .i64 (sc : Int)] 3)) := (Below.refl _ _).alloc (Nat.le_refl _) _
              have hTr := sTrim_any wr.heap.size 1 1 _ _ (lit1 wr sc) (Nat.le_refl _) (by omega)
              rw [trimI_eI] at hTr
              have hcp : Gp.Pol (cst sc) (Gp.tl (cst sc) 1) := (cst_pol hscl).tl
              have hm1 := Gp.tl_le (cst sc) 1
              obtain ⟨m1, hm1e⟩ : ∃ m1, Gp.tl (cst sc) 1 = m1 := ⟨_, rfl⟩
              rw [hm1e] at hTr hcp hm1
              have hp1 := hp.below hal
              have ho1 := OwnI.below hout hal
              have hb1 := below2 hbel hal
              have hthp : Gp.Pol (Gp.th x y d j) t := by
                have := (Gp.th_pol x y d j (by omega)).tl
                rw [ht] at this
                exact this
              have htd : t ≤ d := by rw [← ht]; exact Gp.tl_le _ _
              have hscp : Gp.Pol (Gp.cv (Gp.po x j d) (cst sc) d) (Gp.tl (Gp.cv (Gp.po x j d) (cst sc) d) (d + m1)) := (Gp.cv_pol hcp).tl
              have hm2 := Gp.tl_le (Gp.cv (Gp.po x j d) (cst sc) d) (d + m1)
              have HFin : Hid (Gp.tl (Gp.th x y d (j + 1)) (max t (Gp.tl (Gp.cv (Gp.po x j d) (cst sc) d) (d + m1))) = Gp.tl (Gp.th x y d (j + 1)) d) := by
                show _ = _
                have h1 := Gp.ad_pol hthp hscp
                rw [HTh] at h1
                have h2 := Gp.th_pol x y d (j + 1) (by omega)
                rcases Nat.le_total (max t (Gp.tl (Gp.cv (Gp.po x j d) (cst sc) d) (d + m1))) d with hle | hle
                · exact (Gp.tl_more h1.2 d hle).symm
                · exact Gp.tl_more h2.2 _ hle
              have HX : Hid _ := And.intro hTr (And.intro hp1 (And.intro ho1 (And.intro hb1 (And.intro hcp (And.intro hpc (And.intro hthp hscp))))))
              have HThe : Hid _ := HTh
              clear hTr hp1 ho1 hb1 hcp hpc hthp hscp hp hout hbel hal hsc HTh hA hB ht
              generalize Gp.un x j d = U at *
              go_wp2_with fail
              refine (sDiv_any _ _ _).mono ?_
              rintro e w2 ⟨rfl, hw⟩
              obtain rfl := hw.symm
              rw [hdv]
              clear hw
              go_wp2_with fail
              refine Calls.mono HX.out.1 ?_
              rintro e w3 ⟨v1, rfl, o3, b3⟩
              obtain ⟨a3, c3, rfl, hi3⟩ := o3.ints
              have HP2 : Hid _ := sProd_any ap a3 d m1 cp c3 (Gp.po x j d) (cst sc) w3 (HX.out.2.1.below b3) hi3 HX.out.2.2.2.2.2.1 HX.out.2.2.2.2.1 (by omega) (by omega)
              have ho3 := OwnI.below HX.out.2.2.1 b3
              have hb3 := below2 HX.out.2.2.2.1 b3
              clear o3 b3 hi3
              go_wp2_with fail
              refine Calls.mono HP2.out ?_
              rintro e w4 ⟨v2, rfl, o4, b4⟩
              obtain ⟨a4, c4, rfl, hi4⟩ := o4.ints
              have ho4 := OwnI.below ho3 b4
              have hb4 := below2 hb3 b4
              obtain ⟨ao', co', eo, hoi⟩ := ho4.ints
              cases eo
              have hS := sSum_any ao a4 t _ co c4 (Gp.th x y d j) (Gp.cv (Gp.po x j d) (cst sc) d) w4 hoi hi4 HX.out.2.2.2.2.2.2.1 HX.out.2.2.2.2.2.2.2 (by omega) (by omega)
              rw [HThe.out, HFin.out] at hS
              have HS : Hid _ := hS
              clear hS o4 b4 hi4 ho3 hb3 ho4 hoi HP2 HX
              generalize Gp.tl (Gp.cv (Gp.po x j d) (cst sc) d) (d + m1) = m2 at *
              go_wp2_with fail
              refine Calls.mono HS.out ?_
              rintro e w5 ⟨v3, rfl, o5, b5⟩
              have HO : Hid _ := And.intro (OwnI.mono o5 hb4.size) (below2 hb4 b5)
              clear HS o5 b5 hb4
              go_wp2
              go_roundw
              case rel => exact ⟨j + 1, by omega, by go_num, HO.out.1, HO.out.2⟩
              case measure => simp [intOf] <;> omega
        · obtain rfl : j = c := by omega
          have HO : Hid _ := And.intro hout hbel
          clear hout hbel hA hB
          go_wp2
          go_ret2
          exact ⟨_, by rw [HA.out] <;> rfl, by rw [HA.out]; exact HO.out.1, HO.out.2⟩
end Go.Proofs.Ytdnddimkgddooaa
