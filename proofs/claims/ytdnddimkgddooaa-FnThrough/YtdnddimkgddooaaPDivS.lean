/- The model's quotient of two polynomials, at any lists of at most 2^20 numbers. -/
import Derived.Test.YtdnddimkgddooaaPSpecB
namespace Go.Proofs.Ytdnddimkgddooaa
open Go.ChangeShapes Go.WideShapes Go.ChangeAt Go.RowKit

theorem add_off (b off j : Nat) : (⟨b, off, none⟩ : Addr).add j = ⟨b, off + j, none⟩ := by unfold Addr.add; split <;> simp_all
theorem ints_news {w : World} {b off n : Nat} {xs : List Int} (h : IntsAt w (some ⟨b, off, none⟩) n xs) : ∀ j u, (xs.map (Value.int .i64))[j]? = some u → w.cell? ((⟨b, off, none⟩ : Addr).add j) = some u := by
  intro j u hu
  have hl := h.1
  by_cases hj : j < n
  · obtain ⟨b', off', e, hc⟩ := h.2 j hj
    cases e
    rw [add_off, hc]
    have hjl : j < xs.length := by omega
    simp [hjl] at hu
    simp [List.getD, hjl, hu]
  · rw [List.getElem?_eq_none (by simp; omega)] at hu
    cases hu
theorem OwnR.alloc {w : World} {B g n cap : Nat} {f : Nat → Nat} (h : OwnR w B g n cap f) (o : Obj) : OwnR (w.alloc o) B g n cap f := World.ownsRow.alloc h o
theorem divI_nat {x y : Nat} (hx : x < 256) (hy : y < 256) (y0 : y ≠ 0) : divI (x : Int) (y : Int) = ((Gf.mul x (Gf.inv y) : Nat) : Int) := by
  have hi := Gf.inv_lt y
  unfold divI
  have e : invI (y : Int) = ((Gf.inv y : Nat) : Int) := by unfold invI; rw [if_pos (by omega)]; simp
  rw [e]
  unfold mulI
  rw [if_pos ⟨isB_ofNat hx, isB_ofNat hi⟩]
  simp

set_option maxHeartbeats 1000000 in
theorem sDiv_long (b1 off1 : Nat) (b : Option Addr) (n m ca cb : Nat) (xs ys : List Int) (w : World) (ha : IntsAt w (some ⟨b1, off1, none⟩) n xs) (hb : IntsAt w b m ys) (hx : okB xs = true) (hy : okB ys = true) (hm : 0 < m) (hle : m ≤ n) :
    Calls Try.prog 15 #[.slice (some ⟨b1, off1, none⟩) n ca, .slice b m cb] w fun e w' => ∃ v u, e = .returned (.tuple #[v, u, .bool true]) ∧ OwnI w' w.heap.size v (eI (divQ xs ys) (Gp.tl (divQ xs ys) (n - m + 1))) ∧ OwnI w' w.heap.size u (eI (divR xs ys) (Gp.tl (divR xs ys) n)) ∧ Below w.heap.size w w' := by
  obtain ⟨i0, hi, hz0, hz1, hz2⟩ := info_parts Try.infoInt
  have h40 := (okB_parts hx).1
  have h41 := (okB_parts hy).1
  have hl1 := ha.1
  have hl2 := hb.1
  have hX := sOk_any _ n ca xs w ha (by omega)
  have hY := sOk_any b m cb ys w hb (by omega)
  rw [hx] at hX
  rw [hy] at hY
  have px := (okB_parts hx).2.2.1
  have py := (okB_parts hy).2.2.1
  have hlast := (okB_parts hy).2.1
  have hA := ints_ok ha hx
  have hB := ints_ok hb hy
  have hQ : divQ xs ys = Gp.dq (coP xs) (coP ys) (Gf.inv (coP ys (m - 1))) m (n - m + 1) (n - m + 1) := by unfold divQ; rw [hl1, hl2]
  have hR : divR xs ys = Gp.dr (coP xs) (coP ys) (Gf.inv (coP ys (m - 1))) m (n - m + 1) (n - m + 1) := by unfold divR; rw [hl1, hl2]
  rw [hQ, hR]
  rw [hl1] at px h40
  rw [hl2] at py h41 hlast
  clear hQ hR ha hb hl1 hl2 hx hy
  generalize coP xs = f at *
  generalize coP ys = d at *
  obtain ⟨T, hT⟩ : ∃ T, n - m + 1 = T := ⟨_, rfl⟩
  rw [hT]
  have hd0 : d (m - 1) ≠ 0 := hlast.resolve_left (by omega)
  have hdl := py.1 (m - 1)
  have hinv := Gf.inv_lt (d (m - 1))
  have HD : Hid (∀ x : Nat, x < 256 → divI (x : Int) ((d (m - 1) : Nat) : Int) = ((Gf.mul x (Gf.inv (d (m - 1))) : Nat) : Int)) := fun x hx => divI_nat hx hdl hd0
  generalize Gf.inv (d (m - 1)) = lead at *
  obtain ⟨b2, off2, rfl, hc2⟩ := intsE hB (k := m - 1) (by omega)
  obtain ⟨y, hy⟩ : ∃ y, d (m - 1) = y := ⟨_, rfl⟩
  rw [hy] at hc2 hdl HD
  have hm0 : ((m : Int) == 0) = false := by simp; omega
  have hne := ints_news (hA.below ((Below.refl w.heap.size w).alloc (Nat.le_refl _) (.cells #[] 3)))
  have ho1 := lit0 w (fun _ => 0)
  have pxl := px.1
  have pyl := py.1
  have pyz := py.2
  clear hlast hd0 px
  have HL : Hid (((eI f n).map (Value.int .i64)).length = n * 1) := by show _ = _; rw [List.length_map, eI_len]; omega
  go_enter Try.func15, Try.ntmps15
  go_wp2_with fail
  refine hX.mono ?_
  rintro e w1 ⟨rfl, hw⟩
  obtain rfl := hw.symm
  go_wp2_with fail
  refine hY.mono ?_
  rintro e w1 ⟨rfl, hw⟩
  obtain rfl := hw.symm
  clear hX hY hw
  go_wp2_with (at_builtin; refine wpList_append_lies _ (by rfl) _ _ 24 (by rfl) w.heap.size 3 i0 (.int .i64 0) 1 8 Try.underlying24 hi hz0 hz1 hz2 rfl (by decide) (.slice (some ⟨w.heap.size, 0, none⟩) 0 0) 0 [] (by rfl) ho1 ⟨b1, off1, none⟩ n ca ((eI f n).map (Value.int .i64)) (by rfl) HL.out hne one_cellI (by omega) (by unfold maxLen; omega) (by omega) (by simp) (w.heap.size + 1) (by simp) ?_; intro gr cr w1 hown1 hgrow1 hat1 hltg1)
  have o1 : OwnR w1 w.heap.size gr n cr f := by
    unfold OwnR
    simpa using hown1
  have hb1 : Below w.heap.size w w1 := ((Below.refl w.heap.size w).alloc (Nat.le_refl _) _).grown (show World.grownBy _ w1 (some w.heap.size) from hgrow1) (by simp) (by simp)
  have H1 : Hid _ := And.intro ((o1.alloc (.cells #[] 3))) (And.intro (World.ownsRow_lit (base := w.heap.size) (e := 3) (size := 1) w1 #[] 0 hb1.size (by unfold maxLen; omega) rfl) (hb1.alloc hb1.size (.cells #[] 3)))
  have hgr1 : gr < w1.heap.size := hltg1
  clear hown1 hgrow1 hat1 hltg1 o1 hb1 hne ho1 HL hA
  go_loopw [8, 9] (fun v i wr => ∃ k gg cap2 : Nat, k ≤ T ∧ i = .int .i64 ((m : Int) + (k : Int)) ∧ v = .slice (some ⟨gg, 0, none⟩) k cap2 ∧ OwnR wr w.heap.size gg k cap2 (fun _ => 0) ∧ OwnR wr w.heap.size gr n cr f ∧ gg ≠ gr ∧ Below w.heap.size w wr) (fun _ i _ => n + 1 - (intOf i).toNat)
  case atStart => exact ⟨0, w1.heap.size, 0, Nat.zero_le _, by simp, rfl, H1.out.2.1, H1.out.1, by omega, H1.out.2.2⟩
  case round =>
    obtain ⟨k, gg, cap2, hk, rfl, rfl, hown, hr, hggr, hbel⟩ := hrel
    clear H1
    have hgg := hown.lt.1
    have hsz := hbel.size
    by_cases h1 : k < T
    · have h1I : (m : Int) + (k : Int) ≤ (n : Int) := by omega
      have hgrl := hr.lt.2
      clear hB pxl pyl pyz py
      go_wp2_with (at_builtin; refine wpList_append_lies _ (by rfl) _ _ 24 (by rfl) w.heap.size 3 i0 (.int .i64 0) 1 8 Try.underlying24 hi hz0 hz1 hz2 rfl (by decide) (.slice (some ⟨gg, 0, none⟩) k cap2) k _ (by rfl) (World.ownsRow.alloc hown _) ⟨wr.heap.size, 0, none⟩ 1 1 [.int .i64 0] (by rfl) (by rfl) (World.news_of_block (cs := #[.int .i64 0]) (t := 3) (fr := (0, 0)) (heap_alloc_new wr _)) (by simp [Value.oneCell']) (by omega) (by unfold maxLen; omega) (by omega) (by simp; omega) (wr.heap.size + 1) (by simp) ?_; intro g2 cap3 w2 hown2 hgrow hat hltg)
      have hgrow' : (wr.alloc (.cells #[.int .i64 0] 3)).grownBy w2 (some gg) := hgrow
      have HO : Hid (OwnR w2 w.heap.size g2 (k + 1) cap3 (fun _ => 0)) := OwnR.snoc (by exact hown2)
      have hr2 := (hr.alloc (.cells #[.int .i64 0] 3)).other hgrow' (Ne.symm hggr)
      have hb' : Below w.heap.size w w2 := (hbel.alloc hsz _).grown hgrow' (by simp; omega) (fun j hj => by cases hj; exact hgg)
      have hg2r : g2 ≠ gr := by
        rcases hat with e | e
        · cases e; exact hggr
        · omega
      have HR : Hid _ := hr2
      clear hown2 hgrow hat hltg hown hr hr2 hgrow'
      go_roundw
      case rel => exact ⟨k + 1, g2, cap3, by omega, by go_num, rfl, HO.out, HR.out, hg2r, hb'⟩
      case measure => simp [intOf] <;> omega
    · obtain rfl : k = T := by omega
      have h1I : ¬ (m : Int) + (k : Int) ≤ (n : Int) := by omega
      have hki : (n : Int) - (m : Int) = (k : Int) - 1 := by omega
      have q0 : OwnR wr w.heap.size gg k cap2 (Gp.dq f d lead m k 0) := hown.congr (fun i _ => by unfold Gp.dq; rw [if_neg (by omega)])
      have H2 : Hid _ := And.intro q0 (And.intro (show OwnR wr w.heap.size gr n cr (Gp.dr f d lead m k 0) from hr) hbel)
      clear hown hr q0 hbel hsz
      go_wp2
      go_loopw [10] (fun i wr => ∃ j s : Nat, j + s = k ∧ i = .int .i64 ((j : Int) - 1) ∧ OwnR wr w.heap.size gg k cap2 (Gp.dq f d lead m k s) ∧ OwnR wr w.heap.size gr n cr (Gp.dr f d lead m k s) ∧ Below w.heap.size w wr) (fun i _ => (intOf i + 1).toNat)
      case atStart => exact ⟨k, 0, rfl, by first | rfl | (rw [hki]), H2.out.1, H2.out.2.1, H2.out.2.2⟩
      case round =>
        obtain ⟨j, s, hjs, rfl, hq, hr, hbel⟩ := hrel
        clear H2
        by_cases hj0 : j = 0
        · subst hj0
          obtain rfl : s = k := by omega
          have hTq := sTrim_any gg s cap2 (eI (Gp.dq f d lead m s s) s) wr hq.ints hq.cap (by omega)
          rw [trimI_eI] at hTq
          have HQ : Hid _ := hTq
          clear hTq hB pyl pyz pxl py
          go_wp2_with fail
          refine Calls.mono HQ.out ?_
          rintro e w3 ⟨v, rfl, o3, b3⟩
          have hr3 := hr.below b3
          have hTr := sTrim_any gr n cr (eI (Gp.dr f d lead m s s) n) w3 hr3.ints hr3.cap (by omega)
          rw [trimI_eI] at hTr
          have HR : Hid _ := hTr
          have b03 := below2 hbel b3
          have HV : Hid _ := OwnI.mono o3 hbel.size
          clear hTr hr3 hr hq HQ b3 o3
          go_wp2_with fail
          refine Calls.mono HR.out ?_
          rintro e w4 ⟨u, rfl, o4, b4⟩
          have HO : Hid _ := And.intro (OwnI.below HV.out b4) (And.intro (OwnI.mono o4 b03.size) (below2 b03 b4))
          clear HV HR o4 b4 b03
          go_wp2
          go_ret3
          exact ⟨v, u, rfl, HO.out⟩
        · obtain ⟨p, rfl⟩ : ∃ p, j = p + 1 := ⟨j - 1, by omega⟩
          rw [show ((p + 1 : Nat) : Int) - 1 = (p : Int) by omega]
          obtain ⟨j, hj⟩ : ∃ j, p + m - 1 = j := ⟨_, rfl⟩
          have hjn : j < n := by omega
          have hpT : p < k := by omega
          have hps : p = k - 1 - s := by omega
          have hsT : s < k := by omega
          have hjI : (p : Int) + (m : Int) - 1 = (j : Int) := by omega
          have hjnI : (j : Int) < (n : Int) := by omega
          have hpTI : (p : Int) < (k : Int) := by omega
          have hrl := Gp.dr_lt f d lead m k pxl s j
          have hcr := hr.cell (i := j) hjn
          have hml := Gf.mul_lt hrl hinv
          have hmI : (m : Int) - 1 = ((m - 1 : Nat) : Int) := by omega
          have hmI2 : ((m - 1 : Nat) : Int) < (m : Int) := by omega
          have hdv := HD.out _ hrl
          have HC : Hid (Gf.mul (Gp.dr f d lead m k s j) lead = Gp.dc f d lead m k s) := by
            show _ = _
            rw [Gp.m_nat hrl hinv, ← hj, hps]
            rfl
          have HQ : Hid (∀ i, (if i = p then Gp.dc f d lead m k s else Gp.dq f d lead m k s i) = Gp.dq f d lead m k (s + 1) i) := fun i => by rw [Gp.dq_set f d lead m k s hsT i, hps]
          have HR : Hid (∀ i, onTop (Gp.dr f d lead m k s) d (Gp.dc f d lead m k s) p m i = Gp.dr f d lead m k (s + 1) i) := fun i => by rw [onTop_sh pyz, Gp.dr_succ, ← hps]
          have hcd := (hbel.cell (p := ⟨b2, off2 + (m - 1), none⟩) (block_lt_of_cell hc2)).trans hc2
          have hfrq := World.ownsRow.frozenAt hq p
          have hoq := hq.cell (i := p) hpT
          have hwr1 : IntKind.i64.wrap ((p : Int) + (m : Int)) = (p : Int) + (m : Int) := by rw [IntKind.wrap_i64]; omega
          have hfs : p + m ≤ n := by omega
          have HS : Hid (∀ q : Nat, OwnR ((wr.drewN q).setCell ⟨gg, p, none⟩ (.int .i64 ((Gf.mul (Gp.dr f d lead m k s j) lead : Nat) : Int))) w.heap.size gg k cap2 (Gp.dq f d lead m k (s + 1)) ∧ OwnR ((wr.drewN q).setCell ⟨gg, p, none⟩ (.int .i64 ((Gf.mul (Gp.dr f d lead m k s j) lead : Nat) : Int))) w.heap.size gr n cr (onTop (Gp.dr f d lead m k s) d (Gf.mul (Gp.dr f d lead m k s j) lead) p 0) ∧ Below w.heap.size w ((wr.drewN q).setCell ⟨gg, p, none⟩ (.int .i64 ((Gf.mul (Gp.dr f d lead m k s j) lead : Nat) : Int)))) := fun q => by
            have h1 := OwnR.set (w := wr.drewN q) (k := p) (v := Gf.mul (Gp.dr f d lead m k s j) lead) hq hpT
            refine ⟨OwnR.congr (h := Gp.dq f d lead m k (s + 1)) h1.1 (fun i _ => by rw [HC.out]; exact HQ.out i), ?_, (below_drewN hbel q).setCell hgg _⟩
            have h2 : OwnR (wr.drewN q) w.heap.size gr n cr (Gp.dr f d lead m k s) := hr
            exact (h2.other h1.2 (Ne.symm hggr)).congr (fun i _ => by unfold onTop; rw [if_neg (by omega)])
          have hdrl := fun i => Gp.dr_lt f d lead m k pxl s i
          have HF : Hid (∀ i, onTop (Gp.dr f d lead m k s) d (Gf.mul (Gp.dr f d lead m k s j) lead) p m i = Gp.dr f d lead m k (s + 1) i) := fun i => by rw [HC.out]; exact HR.out i
          have HDL : Hid _ := hdrl
          clear hj hps hsT hq hr HC HQ HR hbel hdrl
          generalize Gp.dr f d lead m k s j = x at hcr hrl hml hdv HS HF
          generalize Gp.dr f d lead m k s = r0 at HS HF HDL
          obtain ⟨q1, HQ1⟩ : ∃ q1, Hid (Gp.dq f d lead m k (s + 1) = q1) := ⟨_, rfl⟩
          rw [HQ1.out] at HS
          go_wp2
          go_quiet ((go_at_call 39; exact Calls.quiet_of_same (sDiv_any _ _ _)))
          go_wp2
          try simp only [hdv]
          clear hcr hdv hcd hfrq hoq hwr1 hjI hjnI hmI hmI2
          generalize Gf.mul x lead = X at *
          go_loopw [12] (fun i wr => ∃ c : Nat, c ≤ m ∧ i = .int .i64 c ∧ OwnR wr w.heap.size gg k cap2 q1 ∧ OwnR wr w.heap.size gr n cr (onTop r0 d X p c) ∧ Below w.heap.size w wr) (fun i _ => m - (intOf i).toNat)
          case atStart => exact ⟨0, Nat.zero_le _, rfl, (HS.out _).1, (HS.out _).2.1, (HS.out _).2.2⟩
          case round =>
            obtain ⟨c, hc, rfl, hq, hr, hbel⟩ := hrel
            clear HS
            by_cases h3 : c < m
            · have h3I : (c : Int) < (m : Int) := by omega
              obtain ⟨b3, off3, e3, hc3⟩ := intsE (hB.below hbel) h3
              cases e3
              obtain ⟨t, ht⟩ : ∃ t, p + c = t := ⟨_, rfl⟩
              have htn : t < n := by omega
              have htnI : (t : Int) < (n : Int) := by omega
              have ht0 : (0 : Int) ≤ (t : Int) := by omega
              have hwr2 : IntKind.i64.wrap ((p : Int) + (c : Int)) = (t : Int) := by rw [IntKind.wrap_i64]; omega
              have hco := hr.cell (i := t) htn
              have hsk : onTop r0 d X p c t = r0 t := by unfold onTop; rw [if_neg (by omega)]
              rw [hsk] at hco
              have hrt := HDL.out t
              have hdc := pyl c
              have hml2 := Gf.mul_lt hml hdc
              have hxr := xor_i64 (r0 t) (Gf.mul X (d c)) (by omega) (by omega)
              have hfr := World.ownsRow.frozenAt hr t
              have hst := OwnR.set (k := t) (v := r0 t ^^^ Gf.mul X (d c)) hr htn
              have HT : Hid (∀ i, (if i = t then r0 t ^^^ Gf.mul X (d c) else onTop r0 d X p c i) = onTop r0 d X p (c + 1) i) := fun i => by
                rw [Gf.mul_comm hml hdc]
                exact onTop_step hdc hml ht i
              have hb3 : Below w.heap.size w (wr.setCell ⟨gr, t, none⟩ (.int .i64 ((r0 t ^^^ Gf.mul X (d c) : Nat) : Int))) := hbel.setCell hr.lt.1 _
              have HS : Hid _ := And.intro (hq.other hst.2 hggr) (And.intro (OwnR.congr (h := onTop r0 d X p (c + 1)) hst.1 (fun i _ => HT.out i)) hb3)
              clear hb3 hst hq hr hsk ht hB HT HF HDL HD pxl pyl pyz py hbel
              generalize r0 t = y1 at *
              generalize d c = z1 at *
              go_wp2_with fail
              go_region_with ((go_at_call 40; refine (sMul_nat X z1 _ hml hdc).mono ?_; rintro e w2 ⟨rfl, rfl⟩))
              all_goals
                go_wp2
                go_roundw
                case rel =>
                  obtain ⟨r1, r2, r3⟩ := HS.out
                  exact ⟨c + 1, by omega, by go_num, World.ownsRow.drew r1, World.ownsRow.drew r2, r3.drew⟩
                case measure => simp [intOf] <;> omega
            · obtain rfl : c = m := by omega
              have HO : Hid _ := And.intro hq (And.intro (OwnR.congr (h := Gp.dr f d lead c k (s + 1)) hr (fun i _ => HF.out i)) hbel)
              rw [← HQ1.out] at HO
              clear hq hr hbel HF HDL HD pxl pyl pyz py hB
              go_wp2
              go_roundw
              case rel =>
                obtain ⟨r1, r2, r3⟩ := HO.out
                exact ⟨p, s + 1, by omega, by go_num, r1, r2, r3⟩
              case measure => simp [intOf] <;> omega

theorem ownI_append {w : World} {B n : Nat} {v : Value} {xs : List Int} (h : w.ownsRow B 3 1 v (0 + n) ([] ++ xs.map (Value.int .i64))) (hv : v ≠ .slice none 0 0) : ∃ g cap, v = .slice (some ⟨g, 0, none⟩) n cap ∧ n ≤ cap ∧ B ≤ g ∧ g < w.heap.size ∧ IntsAt w (some ⟨g, 0, none⟩) n xs := by
  rw [Nat.zero_add, List.nil_append] at h
  rcases h.2 with ⟨e, _⟩ | ⟨g, cap, cur, e, hB, hg, hn, _⟩
  · exact absurd e hv
  · subst e
    exact ⟨g, cap, rfl, hn, hB, (Array.getElem?_eq_some_iff.1 hg).1, ownsRow.ints h⟩

set_option maxHeartbeats 1000000 in
theorem sDiv_short (b1 off1 : Nat) (b : Option Addr) (n m ca cb : Nat) (xs ys : List Int) (w : World) (ha : IntsAt w (some ⟨b1, off1, none⟩) n xs) (hb : IntsAt w b m ys) (hx : okB xs = true) (hy : okB ys = true) (hlt : n < m) :
    Calls Try.prog 15 #[.slice (some ⟨b1, off1, none⟩) n ca, .slice b m cb] w fun e w' => ∃ v u, e = .returned (.tuple #[v, u, .bool true]) ∧ OwnI w' w.heap.size v [] ∧ OwnI w' w.heap.size u (trimI xs) ∧ Below w.heap.size w w' := by
  obtain ⟨i0, hi, hz0, hz1, hz2⟩ := info_parts Try.infoInt
  have h40 := (okB_parts hx).1
  have h41 := (okB_parts hy).1
  have hl1 := ha.1
  have hl2 := hb.1
  have hX := sOk_any _ n ca xs w ha (by omega)
  have hY := sOk_any b m cb ys w hb (by omega)
  rw [hx] at hX
  rw [hy] at hY
  rw [hl1] at h40
  rw [hl2] at h41
  have hm0 : ((m : Int) == 0) = false := by simp; omega
  have hne := ints_news (ha.below ((Below.refl w.heap.size w).alloc (Nat.le_refl _) (.cells #[] 3)))
  have ho1 := lit0 w (fun _ => 0)
  have hltI : (n : Int) < (m : Int) := by omega
  have HL : Hid ((xs.map (Value.int .i64)).length = n * 1) := by show _ = _; rw [List.length_map, hl1]; omega
  clear ha hb hl1 hl2 hx hy
  go_enter Try.func15, Try.ntmps15
  go_wp2_with fail
  refine hX.mono ?_
  rintro e w1 ⟨rfl, hw⟩
  obtain rfl := hw.symm
  go_wp2_with fail
  refine hY.mono ?_
  rintro e w1 ⟨rfl, hw⟩
  obtain rfl := hw.symm
  clear hX hY hw
  go_wp2_with (at_builtin; refine wpList_append_own _ rfl _ _ 24 rfl w.heap.size 3 i0 (.int .i64 0) 1 8 Try.underlying24 hi hz0 hz1 hz2 rfl (by decide) (.slice (some ⟨w.heap.size, 0, none⟩) 0 0) 0 [] rfl ho1 ⟨b1, off1, none⟩ n ca (xs.map (Value.int .i64)) rfl HL.out hne one_cellI (by unfold maxLen; omega) (by omega) (by simp) ?_; intro v' w1 hown hgrow hnil)
  have hv' : v' ≠ .slice none 0 0 := fun e => by
    have := hnil.1 e
    cases this.1
  obtain ⟨gr, cr, rfl, hcap, hBg, hgl, hri⟩ := ownI_append hown hv'
  have hb1 : Below w.heap.size w w1 := ((Below.refl w.heap.size w).alloc (Nat.le_refl _) _).grown (show World.grownBy _ w1 (some w.heap.size) from hgrow) (by simp) (by simp)
  have hal : Below w1.heap.size w1 (w1.alloc (.cells #[] 3)) := (Below.refl _ _).alloc (Nat.le_refl _) _
  have hri2 := hri.below hal
  have hqi : IntsAt (w1.alloc (.cells #[] 3)) (some ⟨w1.heap.size, 0, none⟩) 0 [] := ⟨rfl, fun i hi => by omega⟩
  have hb2 := below2 hb1 hal
  have hTq := sTrim_any w1.heap.size 0 0 [] (w1.alloc (.cells #[] 3)) hqi (Nat.le_refl _) (by omega)
  have H2 : Hid _ := And.intro hri2 (And.intro hb2 hTq)
  clear hown hgrow hnil hv' hne ho1 HL hri hb1 hal hri2 hqi hb2 hTq
  go_loopw [8, 9] (fun v i wr => v = .slice (some ⟨w1.heap.size, 0, none⟩) 0 0 ∧ i = .int .i64 (m : Int) ∧ wr = w1.alloc (.cells #[] 3)) (fun _ i _ => 0)
  case atStart => exact ⟨rfl, rfl, rfl⟩
  case round =>
    obtain ⟨rfl, rfl, rfl⟩ := hrel
    have h1I : ¬ (m : Int) ≤ (n : Int) := by omega
    go_wp2
    go_loopw [10] (fun i wr => i = .int .i64 ((n : Int) - (m : Int)) ∧ wr = w1.alloc (.cells #[] 3)) (fun i _ => 0)
    case atStart => exact ⟨rfl, rfl⟩
    case round =>
      obtain ⟨rfl, rfl⟩ := hrel
      go_wp2_with fail
      refine Calls.mono H2.out.2.2 ?_
      rintro e w3 ⟨v, rfl, o3, b3⟩
      have hr3 := H2.out.1.below b3
      have b03 := below2 H2.out.2.1 b3
      have HR : Hid _ := sTrim_any gr n cr xs w3 hr3 hcap (by omega)
      have HV : Hid _ := OwnI.mono o3 H2.out.2.1.size
      clear hr3 o3 b3 H2
      go_wp2_with fail
      refine Calls.mono HR.out ?_
      rintro e w4 ⟨u, rfl, o4, b4⟩
      have HO : Hid _ := And.intro (OwnI.below HV.out b4) (And.intro (OwnI.mono o4 b03.size) (below2 b03 b4))
      clear HV HR o4 b4 b03
      go_wp2
      go_ret3
      exact ⟨v, u, rfl, HO.out⟩

set_option maxHeartbeats 400000 in
theorem sPolyDiv_any (b1 off1 : Nat) (b : Option Addr) (n m ca cb : Nat) (xs ys : List Int) (w : World) (ha : IntsAt w (some ⟨b1, off1, none⟩) n xs) (hb : IntsAt w b m ys) (hn : n ≤ 1048576) (hm : m ≤ 1048576) :
    Calls Try.prog 15 #[.slice (some ⟨b1, off1, none⟩) n ca, .slice b m cb] w fun e w' => ∃ v u, e = .returned (.tuple #[v, u, .bool (divP xs ys).2.2]) ∧ OwnI w' w.heap.size v (divP xs ys).1 ∧ OwnI w' w.heap.size u (divP xs ys).2.1 ∧ Below w.heap.size w w' := by
  have hX := sOk_any _ n ca xs w ha hn
  have hY := sOk_any b m cb ys w hb hm
  have h0 := nil0 w
  have h1 := nil0 (w.alloc (.cells #[] 3))
  have hal0 : Below w.heap.size w (w.alloc (.cells #[] 3)) := (Below.refl w.heap.size w).alloc (Nat.le_refl _) (.cells #[] 3)
  have hal1 : Below (w.alloc (.cells #[] 3)).heap.size (w.alloc (.cells #[] 3)) ((w.alloc (.cells #[] 3)).alloc (.cells #[] 3)) := (Below.refl _ _).alloc (Nat.le_refl _) (.cells #[] 3)
  have es : (w.alloc (.cells #[] 3)).heap.size = w.heap.size + 1 := by simp
  rw [es] at h1
  have HN : Hid _ := And.intro (h0.below hal1) (And.intro (OwnI.mono (B' := w.heap.size) h1 (by omega)) (below2 hal0 hal1))
  clear es
  clear h0 h1 hal0 hal1
  have hl1 := ha.1
  have hl2 := hb.1
  by_cases hx : okB xs = true
  · rw [hx] at hX
    by_cases hy : okB ys = true
    · rw [hy] at hY
      by_cases hm0 : m = 0
      · have HA : Hid (divP xs ys = ([], [], false)) := by show _ = _; unfold divP; rw [if_neg (fun h => by omega)]
        subst hm0
        clear ha hb hl1 hl2
        generalize divP xs ys = res at *
        go_enter Try.func15, Try.ntmps15
        go_wp2_with fail
        refine hX.mono ?_
        rintro e w1 ⟨rfl, hw⟩
        obtain rfl := hw.symm
        go_wp2_with fail
        refine hY.mono ?_
        rintro e w1 ⟨rfl, hw⟩
        obtain rfl := hw.symm
        clear hX hY
        go_wp2
        go_ret3
        exact ⟨_, _, by rw [HA.out] <;> rfl, by rw [HA.out]; exact HN.out.1, by rw [HA.out]; exact HN.out.2.1, HN.out.2.2⟩
      · by_cases hle : m ≤ n
        · have HA : divP xs ys = (eI (divQ xs ys) (Gp.tl (divQ xs ys) (n - m + 1)), eI (divR xs ys) (Gp.tl (divR xs ys) n), true) := by
            unfold divP
            rw [if_pos ⟨hx, hy, by omega⟩, if_pos (by omega), hl1, hl2]
          rw [HA]
          exact sDiv_long b1 off1 b n m ca cb xs ys w ha hb hx hy (by omega) hle
        · have HA : divP xs ys = ([], trimI xs, true) := by
            unfold divP
            rw [if_pos ⟨hx, hy, by omega⟩, if_neg (by omega)]
            have e := (okB_parts hx).2.2.2.1
            rw [← trimI_eI, ← e]
          rw [HA]
          exact sDiv_short b1 off1 b n m ca cb xs ys w ha hb hx hy (by omega)
    · have hy' : okB ys = false := by simpa using hy
      rw [hy'] at hY
      have HA : Hid (divP xs ys = ([], [], false)) := divP_no (fun h => hy h.2)
      clear ha hb hl1 hl2
      generalize divP xs ys = res at *
      go_enter Try.func15, Try.ntmps15
      go_wp2_with fail
      refine hX.mono ?_
      rintro e w1 ⟨rfl, hw⟩
      obtain rfl := hw.symm
      go_wp2_with fail
      refine hY.mono ?_
      rintro e w1 ⟨rfl, hw⟩
      obtain rfl := hw.symm
      clear hX hY
      go_wp2
      go_ret3
      exact ⟨_, _, by rw [HA.out] <;> rfl, by rw [HA.out]; exact HN.out.1, by rw [HA.out]; exact HN.out.2.1, HN.out.2.2⟩
  · have hx' : okB xs = false := by simpa using hx
    rw [hx'] at hX
    have HA : Hid (divP xs ys = ([], [], false)) := divP_no (fun h => hx h.1)
    clear ha hb hY hl1 hl2
    generalize divP xs ys = res at *
    go_enter Try.func15, Try.ntmps15
    go_wp2_with fail
    refine hX.mono ?_
    rintro e w1 ⟨rfl, hw⟩
    obtain rfl := hw.symm
    clear hX
    go_wp2
    go_ret3
    exact ⟨_, _, by rw [HA.out] <;> rfl, by rw [HA.out]; exact HN.out.1, by rw [HA.out]; exact HN.out.2.1, HN.out.2.2⟩
end Go.Proofs.Ytdnddimkgddooaa
