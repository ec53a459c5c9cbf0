import Derived.Test.YtgooamiggebibaaGreatDoorG16
set_option maxHeartbeats 8000000
set_option maxRecDepth 2000
open Go.ChangeShapes Go.WideShapes Go.ChangeAt Go.RowKit
namespace Go.Proofs.YtgooamiggebibaaGreatDoor
structure Nd where
 i : Int
 f : Int
 n : Nat
 S : Nat → Sl
def ndD (d : Nd) : Nat → Dt
 | 0 => .val (.int .i64 d.i)
 | 1 => .val (.int .i64 d.f)
 | _ => slsD d.n d.S
def ndsD (m : Nat) (N : Nat → Nd) : Dt := .lst 72 3 m fun i => ndD (N i)
structure NdB (d : Nd) : Prop where
 n : d.n ≤ maxLen
 s : ∀ i, i < d.n → SlB (d.S i)
structure NdS (d : Nd) : Prop where
 n : d.n ≤ 1048576
 s : ∀ i, i < d.n → SlS (d.S i)
theorem node_at {w : World} {m : Nat} {N : Nat → Nd} {a : Option Addr} {cap : Nat} (h : Rd w (ndsD m N) (.slice a m cap)) {c : Nat} (hc : c < m) :
  ∃ (b off : Nat) (an : Option Addr) (cn : Nat), a = some ⟨b, off, none⟩ ∧ (w.cell? ⟨b, off + c * 3, none⟩ = some (.int .i64 (N c).i) ∧ w.cell? ⟨b, off + c * 3 + 1, none⟩ = some (.int .i64 (N c).f) ∧ w.cell? ⟨b, off + c * 3 + 2, none⟩ = some (.slice an (N c).n cn)) ∧ w.rangeAt b (off + c * 3) [.int .i64 (N c).i, .int .i64 (N c).f, .slice an (N c).n cn] ∧ Rd w (slsD (N c).n (N c).S) (.slice an (N c).n cn) := by
 obtain ⟨b, off, y, ea, hy, hr⟩ := h.row hc
 have r2 : Rd w (slsD (N c).n (N c).S) (y 2) := hr 2 (by omega)
 obtain ⟨an, cn, e2⟩ := r2.shape
 rw [e2] at r2
 have g0 := hr 0 (by omega)
 have g1 := hr 1 (by omega)
 simp only [Rd, ndD] at g0 g1
 have c0 := hy 0 (by omega)
 have c1 := hy 1 (by omega)
 have c2 := hy 2 (by omega)
 rw [g0, ← Nat.add_assoc] at c0
 rw [g1, ← Nat.add_assoc] at c1
 rw [e2, ← Nat.add_assoc] at c2
 refine ⟨b, off, an, cn, ea, ⟨c0, c1, c2⟩, fun j v hv => ?_, r2⟩
 have hj : j < 3 := (List.getElem?_eq_some_iff.1 hv).1
 match j, hj with
 | 0, _ => rw [← hv]; exact c0
 | 1, _ => rw [← hv]; exact c1
 | 2, _ => rw [← hv]; exact c2
def wtN (d : Nd) : Nat := wtL d.n d.S
def wtNs (m : Nat) (N : Nat → Nd) : Nat := m + tot (fun i => wtN (N i)) m
theorem Tryz.infoNdLw : (Tryz.prog.info? 60).map (·.size) = some 3 := by kernel_rfl
theorem szNds_any (a : Option Addr) (n cap : Nat) (N : Nat → Nd) (l : Nat) (w : World) (h : Rd w (ndsD n N) (.slice a n cap)) (hl : l ≤ 1048576) (hn : n ≤ maxLen) (hL : ∀ i, i < n → NdB (N i)) :
  Calls Tryz.prog 15 #[.slice a n cap, .int .i64 (l : Int)] w fun e w' => e = .returned (.int .i64 (szN l (wtNs n N))) ∧ Below w.heap.size w w' := by
 unfold maxLen at hn
 by_cases h1 : n ≤ l
 ·obtain ⟨d, hd⟩ : ∃ d, l - n = d := ⟨_, rfl⟩
  have hw : IntKind.i64.wrap ((l : Int) - (n : Int)) = (d : Int) := by rw [IntKind.wrap_i64]; omega
  have h0 : ¬ ((d : Int) < 0) := by omega
  have KL : Hid (∀ i, i < n → NdB (N i)) := hL
  have KH : Hid (Rd w (ndsD n N) (.slice a n cap)) := h
  clear hL h
  go_enter Tryz.func15, Tryz.ntmps15
  go_wp2
  go_loopw [1, 5] (fun p i wr => ∃ c q : Nat, c ≤ n ∧ q ≤ 1048576 ∧ Hid (tot (fun i => wtN (N i)) c + q = d) ∧ p = .int .i64 (q : Int) ∧ i = .int .i64 (c : Int) ∧ Below w.heap.size w wr) (fun _ i _ => n - (intOf i).toNat)
  case atStart => exact ⟨0, d, Nat.zero_le _, by omega, by show 0 + d = d; omega, rfl, rfl, Below.refl _ _⟩
  case round =>
   obtain ⟨c, q, hc, hq, HT, rfl, rfl, hbel⟩ := hrel
   clear hw h0
   by_cases hlt : c < n
   ·obtain ⟨b1, f1, an, cn, rfl, _, R1', hr1⟩ := node_at (KH.out.below hbel) hlt
    have hti := tot_le (fun i => wtN (N i)) hlt
    have hlti : (c : Int) < (n : Int) := by omega
    have HT' := HT.out
    obtain ⟨lc, HLC⟩ : ∃ x, Hid (wtN (N c) = x) := ⟨_, rfl⟩
    have KTS : Hid (tot (fun i => wtN (N i)) (c + 1) = tot (fun i => wtN (N i)) c + lc) := by rw [← HLC.out]; rfl
    have hti' : tot (fun i => wtN (N i)) c + lc ≤ tot (fun i => wtN (N i)) n := by rw [← HLC.out]; exact hti
    have KZ : Hid (Calls Tryz.prog 31 #[.agg #[.int .i64 (N c).i, .int .i64 (N c).f, .slice an (N c).n cn], .int .i64 (q : Int)] wr fun e w' => e = .returned (.int .i64 (szN q lc)) ∧ Below wr.heap.size wr w') := by
     rw [← HLC.out]
     exact szNd_any (N c).i (N c).f an (N c).n cn (N c).S q wr hr1 hq (KL.out c hlt).n (KL.out c hlt).s
    have R1 : Hid (wr.rangeAt b1 (f1 + c * 3) [.int .i64 (N c).i, .int .i64 (N c).f, .slice an (N c).n cn]) := R1'
    have KB : Hid (Below w.heap.size w wr) := hbel
    clear hti R1' hr1 hbel
    by_cases h2 : lc ≤ q
    ·obtain ⟨q', hq'⟩ : ∃ q', q - lc = q' := ⟨_, rfl⟩
     have h3 : ¬ ((q' : Int) < 0) := by omega
     have HT2 : Hid (tot (fun i => wtN (N i)) (c + 1) + q' = d) := by show _ = _; rw [KTS.out]; omega
     have hq2 : q' ≤ 1048576 := by omega
     rw [szN_yes h2, hq'] at KZ
     clear HT HT' hti' KTS
     go_wp2_with (refine wpList_load_mid (by rfl) 60 _ (by rfl) b1 (f1 + c * 3) (by rfl) [.int .i64 (N c).i, .int .i64 (N c).f, .slice an (N c).n cn] _ ?_ Tryz.underlying60 (by rfl) Tryz.infoNdLw ?_; exact R1.out)
     refine Calls.mono KZ.out ?_
     rintro e w1 ⟨rfl, bb⟩
     have KB1 : Hid (Below w.heap.size w w1) := below2 KB.out bb
     clear bb KZ R1
     go_wp2
     go_roundw
     case rel => exact ⟨c + 1, q', by omega, hq2, HT2, rfl, by go_num, KB1.out⟩
     case measure => simp [intOf] <;> omega
    ·have HR : Hid (szN l (wtNs n N) = -1) := szN_no (by unfold wtNs; omega)
     rw [szN_no h2] at KZ
     clear HT HT' hti' KTS
     go_wp2_with (refine wpList_load_mid (by rfl) 60 _ (by rfl) b1 (f1 + c * 3) (by rfl) [.int .i64 (N c).i, .int .i64 (N c).f, .slice an (N c).n cn] _ ?_ Tryz.underlying60 (by rfl) Tryz.infoNdLw ?_; exact R1.out)
     refine Calls.mono KZ.out ?_
     rintro e w1 ⟨rfl, bb⟩
     have KB1 : Hid (Below w.heap.size w w1) := below2 KB.out bb
     clear bb KZ R1
     go_wp2
     go_ret
     exact ⟨ret_int HR.out.symm, KB1.out⟩
   ·obtain rfl : c = n := by omega
    have HR : Hid (szN l (wtNs c N) = (q : Int)) := by
     have := HT.out
     have e : l - (c + tot (fun i => wtN (N i)) c) = q := by omega
     exact (szN_yes (by unfold wtNs; omega)).trans (by unfold wtNs; rw [e])
    clear KH
    go_wp2
    go_ret
    exact ⟨ret_int HR.out.symm, hbel⟩
 ·have h0 : (l : Int) - (n : Int) < 0 := by omega
  have hw : IntKind.i64.wrap ((l : Int) - (n : Int)) = (l : Int) - (n : Int) := by rw [IntKind.wrap_i64]; omega
  have HR : Hid (szN l (wtNs n N) = -1) := szN_no (by unfold wtNs; omega)
  clear h hL
  go_enter Tryz.func15, Tryz.ntmps15
  go_wp2
  go_ret
  exact ⟨ret_int HR.out.symm, Below.refl _ _⟩
theorem eqNds_same (a b : Option Addr) (n ca cb : Nat) (N : Nat → Nd) (w : World) (ha : Rd w (ndsD n N) (.slice a n ca)) (hb : Rd w (ndsD n N) (.slice b n cb)) (hn : n ≤ 1048576) (hs : ∀ i, i < n → NdS (N i)) :
  Calls Tryz.prog 24 #[.slice a n ca, .slice b n cb] w fun e w' => e = .returned (.bool true) ∧ Below w.heap.size w w' := by
 have KH : Hid (Rd w (ndsD n N) (.slice a n ca) ∧ Rd w (ndsD n N) (.slice b n cb)) := ⟨ha, hb⟩
 have HS : Hid (∀ i, i < n → NdS (N i)) := hs
 have hnn : ((n : Int) != (n : Int)) = false := by simp
 clear ha hb hs
 go_enter Tryz.func24, Tryz.ntmps24
 go_wp2
 go_loopw [5] (fun vi wr => ∃ c : Nat, c ≤ n ∧ vi = .int .i64 (c : Int) ∧ Below w.heap.size w wr) (fun vi _ => n - (intOf vi).toNat)
 case atStart => exact ⟨0, Nat.zero_le _, rfl, Below.refl _ _⟩
 case round =>
  obtain ⟨c, hcn, rfl, hbel⟩ := hrel
  by_cases hlt : c < n
  ·have hki : (c : Int) < (n : Int) := by omega
   obtain ⟨b1, f1, an, cn, rfl, ⟨x0, x1, x2⟩, _, hr1⟩ := node_at (KH.out.1.below hbel) hlt
   obtain ⟨b2, f2, am, cm, rfl, ⟨y0, y1, y2⟩, _, hr2⟩ := node_at (KH.out.2.below hbel) hlt
   have hsc := HS.out c hlt
   have KT : Hid (∀ W, Below wr.heap.size wr W → Calls Tryz.prog 43 #[.agg #[.int .i64 (N c).i, .int .i64 (N c).f, .slice an (N c).n cn], .agg #[.int .i64 (N c).i, .int .i64 (N c).f, .slice am (N c).n cm]] W fun e w' => e = .returned (.bool true) ∧ Below W.heap.size W w') := fun W hW => eqNd_same (N c).i (N c).f an am (N c).n cn cm (N c).S W (hr1.below hW) (hr2.below hW) hsc.n hsc.s
   have KS : Hid (∀ W, Below wr.heap.size wr W → W.cell? ⟨b1, f1 + c * 3, none⟩ = some (.int .i64 (N c).i) ∧ W.cell? ⟨b1, f1 + c * 3 + 1, none⟩ = some (.int .i64 (N c).f) ∧ W.cell? ⟨b1, f1 + c * 3 + 2, none⟩ = some (.slice an (N c).n cn) ∧ W.cell? ⟨b2, f2 + c * 3, none⟩ = some (.int .i64 (N c).i) ∧ W.cell? ⟨b2, f2 + c * 3 + 1, none⟩ = some (.int .i64 (N c).f) ∧ W.cell? ⟨b2, f2 + c * 3 + 2, none⟩ = some (.slice am (N c).n cm)) := fun W hW => ⟨(hW.cell (block_lt_of_cell x0)).trans x0, (hW.cell (block_lt_of_cell x1)).trans x1, (hW.cell (block_lt_of_cell x2)).trans x2, (hW.cell (block_lt_of_cell y0)).trans y0, (hW.cell (block_lt_of_cell y1)).trans y1, (hW.cell (block_lt_of_cell y2)).trans y2⟩
   have KB : Hid (Below w.heap.size w wr) := hbel
   have hdr := below_drew wr
   clear hr1 hr2 hbel hsc x0 x1 x2 y0 y1 y2
   go_wp2_with fail
   go_region_held3 (fun w' => w'.cell? ⟨b1, f1 + c * 3, none⟩ = some (.int .i64 (N c).i) ∧ w'.cell? ⟨b1, f1 + c * 3 + 1, none⟩ = some (.int .i64 (N c).f) ∧ w'.cell? ⟨b1, f1 + c * 3 + 2, none⟩ = some (.slice an (N c).n cn) ∧ w'.cell? ⟨b2, f2 + c * 3, none⟩ = some (.int .i64 (N c).i) ∧ w'.cell? ⟨b2, f2 + c * 3 + 1, none⟩ = some (.int .i64 (N c).f) ∧ w'.cell? ⟨b2, f2 + c * 3 + 2, none⟩ = some (.slice am (N c).n cm)) (exact KS.out _ (by assumption)) ((go_at_call 43; refine Calls.mono (KT.out _ hdr) ?_; rintro e w7 ⟨rfl, b7'⟩; have b7 := below_of_drew b7'; clear b7'))
   all_goals
    have HB7 : Hid (Below w.heap.size w w7) := below2 KB.out b7
    clear b7
    go_wp2
    go_roundw
    case rel => exact ⟨c + 1, by omega, by go_num, HB7.out⟩
    case measure => simp [intOf]; omega
  ·go_wp2
   go_ret
   exact ⟨rfl, hbel⟩
def ndN : Nd := ⟨0, 0, 0, fun _ => slZ⟩
def zcN : List Value := [.int .i64 0, .int .i64 0, .slice none 0 0]
theorem Tryz.infoNdZ2 : (Tryz.prog.info? 72).map (fun i => (i.zero, i.size, i.bytes)) = some (some (.agg zcN.toArray), 3, 40) := by kernel_rfl
theorem ow_ndZ (w : World) (B q : Nat) (hq : q < 3) : Ow w B (ndD ndN q) (zcN.getD q undef) (fun _ => False) := by
 match q, hq with
 | 0, _ | 1, _ => rfl
 | 2, _ => exact Ow.nil _ _ _ _ _ _
theorem ow_node {w : World} {B : Nat} {d : Nd} {v : Value} {F : Nat → Prop} (h : Ow w B (slsD d.n d.S) v F) (q : Nat) (hq : q < 3) : Ow w B (ndD d q) ([Value.int .i64 d.i, .int .i64 d.f, v].getD q undef) (fun x => q = 2 ∧ F x) := by
 match q, hq with
 | 0, _ | 1, _ => rfl
 | 2, _ => exact Ow.mono h fun g hg => ⟨rfl, hg⟩
theorem toNds_any (a : Option Addr) (n cap : Nat) (N : Nat → Nd) (w : World) (h : Rd w (ndsD n N) (.slice a n cap)) (hn : n ≤ 1048576) (hs : ∀ i, i < n → NdS (N i)) :
  Calls Tryz.prog 19 #[.slice a n cap] w fun e w' => e = .returned (.slice (some ⟨w.heap.size, 0, none⟩) n n) ∧ Ow w' w.heap.size (ndsD n N) (.slice (some ⟨w.heap.size, 0, none⟩) n n) (rng w.heap.size w'.heap.size) ∧ Below w.heap.size w w' := by
 obtain ⟨i0, hi, hz0, hz1, hz2⟩ := info_parts Tryz.infoNdZ2
 have KH : Hid (Rd w (ndsD n N) (.slice a n cap)) := h
 have HS : Hid (∀ i, i < n → NdS (N i)) := hs
 clear h hs
 go_enter Tryz.func19, Tryz.ntmps19
 go_wp2_with (at_make; refine wpList_make_full _ rfl _ _ 31 rfl w.heap.size 72 i0 (.agg zcN.toArray) 3 Tryz.underlying31 hi hz0 hz1 .i64 .i64 _ _ n rfl rfl rfl rfl (by rw [hz2]; omega) (by unfold maxLen; omega) (Nat.le_refl _) ?_; intro w1 hown hgrow)
 have hb1 : Below w.heap.size w w1 := (Below.refl _ _).grown hgrow (Nat.le_refl _) (by simp)
 obtain ⟨g, HG⟩ : ∃ x, Hid (x = w.heap.size) := ⟨_, rfl⟩
 have ho1 : Ow w1 w.heap.size (.lst 72 3 n (fun i => if i < 0 then ndD (N i) else ndD ndN)) (.slice (some ⟨g, 0, none⟩) n n) (rng w.heap.size w1.heap.size) := by
  have e : (madeCells (Value.agg zcN.toArray).cells (n * 3)).toList = cL 3 (fun _ q => zcN.getD q undef) n := made_cL (zs := zcN) (by simp [zcN])
  rw [e] at hown
  rw [HG.out]
  have := ow_made (F := rng w.heap.size w1.heap.size) hown (fun q hq => ow_ndZ w1 w.heap.size q hq) ⟨Nat.le_refl _, (World.ownsRow.lt hown _ rfl).2⟩
  exact this.congr (fun i q _ _ => by simp)
 have gB : g = w.heap.size := HG.out
 rw [← HG.out]
 have HB : Hid (w.heap.size ≤ g) := by show _ ≤ _; omega
 clear hown hgrow gB
 go_loopw [4] (fun i wr => ∃ k : Nat, k ≤ n ∧ i = .int .i64 k ∧ Ow wr w.heap.size (.lst 72 3 n (fun i => if i < k then ndD (N i) else ndD ndN)) (.slice (some ⟨g, 0, none⟩) n n) (rng w.heap.size wr.heap.size) ∧ Below w.heap.size w wr) (fun i _ => n - (intOf i).toNat)
 case atStart => exact ⟨0, Nat.zero_le _, rfl, ho1, hb1⟩
 case round =>
  obtain ⟨c, hc, rfl, hown, hbel⟩ := hrel
  clear ho1 hb1
  by_cases hlt : c < n
  ·have hlti : (c : Int) < (n : Int) := by omega
   obtain ⟨b1, f1, an, cn, rfl, _, R1', hr1⟩ := node_at (KH.out.below hbel) hlt
   have KT : Hid _ := toNd_any (N c).i (N c).f an (N c).n cn (N c).S wr hr1 (HS.out c hlt).n (HS.out c hlt).s
   have R1 : Hid (wr.rangeAt b1 (f1 + c * 3) [.int .i64 (N c).i, .int .i64 (N c).f, .slice an (N c).n cn]) := R1'
   have KO : Hid (Ow wr w.heap.size (.lst 72 3 n (fun i => if i < c then ndD (N i) else ndD ndN)) (.slice (some ⟨g, 0, none⟩) n n) (rng w.heap.size wr.heap.size) ∧ Below w.heap.size w wr) := ⟨hown, hbel⟩
   have lg : g < wr.heap.size := by
    obtain ⟨a', cap', c', G', e', ho', _⟩ := hown
    cases e'
    exact (World.ownsRow.lt ho' g rfl).2
   clear R1' hr1 hbel hown
   go_wp2_with (refine wpList_load_mid (by rfl) 60 _ (by rfl) b1 (f1 + c * 3) (by rfl) [.int .i64 (N c).i, .int .i64 (N c).f, .slice an (N c).n cn] _ ?_ Tryz.underlying60 (by rfl) Tryz.infoNdLw ?_; exact R1.out)
   refine Calls.mono KT.out ?_
   rintro e w2 ⟨gs, rfl, o2, b2⟩
   have O2 := KO.out.1.below b2
   have TH : Hid (w2.there g (c * 3) 3) := by
    obtain ⟨a', cap', c', G', e', ho', _⟩ := O2
    cases e'
    intro j hj
    refine ⟨?_, World.ownsRow.frozenAt ho' _⟩
    rw [World.ownsRow.cellAt ho' _ (mid_lt hlt hj), cL_get _ _ _ _ _ hlt hj]
    rfl
   have hsz := KO.out.2.size
   have HO : Hid (Ow (w2.setCells g (c * 3) [Value.int .i64 (N c).i, .int .i64 (N c).f, .slice (some ⟨gs, 0, none⟩) (N c).n (N c).n]) w.heap.size (.lst 72 3 n (fun i => if i < c + 1 then ndD (N i) else ndD ndN)) (.slice (some ⟨g, 0, none⟩) n n) (rng w.heap.size (w2.setCells g (c * 3) [Value.int .i64 (N c).i, .int .i64 (N c).f, .slice (some ⟨gs, 0, none⟩) (N c).n (N c).n]).heap.size)) := by
    rw [size_setCells]
    refine Ow.congr (Ow.store (d := ndD (N c)) O2 hlt rfl (fun q hq => ow_node (o2.base hsz) q hq) ?_ ?_ ?_ ?_) ?_
    ·intro q x _ hx hf
     have h2 := hf.2
     have h3 := hx.2.1
     omega
    ·intro q q' x _ _ hx hx'
     exact hx.1.trans hx'.1.symm
    ·intro x hx
     have := b2.size
     exact ⟨hx.1, by have := hx.2; omega⟩
    ·intro q x _ hx
     have h3 := hx.2
     exact ⟨by have := h3.1; omega, h3.2⟩
    ·intro i q _ _
     by_cases e : i = c
     ·subst e; simp
     ·by_cases e2 : i < c
      ·simp [e, e2, show i < c + 1 by omega]
      ·simp [e, e2, show ¬ i < c + 1 by omega]
   have HBe : Hid (Below w.heap.size w (w2.setCells g (c * 3) [Value.int .i64 (N c).i, .int .i64 (N c).f, .slice (some ⟨gs, 0, none⟩) (N c).n (N c).n])) := below_setCells (below2 KO.out.2 b2) HB.out _ _
   clear O2 b2 o2 KT R1 KO
   go_wp2_with (refine wpList_store_mid (by rfl) 72 _ _ (by rfl) g (c * 3) ([Value.int .i64 (N c).i, .int .i64 (N c).f, .slice (some ⟨gs, 0, none⟩) (N c).n (N c).n]).toArray (by rfl) (by rfl) ?_ Tryz.infoNd (by simp [Value.oneCell']) ?_; exact TH.out)
   go_roundw
   case rel => exact ⟨c + 1, by omega, by go_num, HO.out, HBe.out⟩
   case measure => simp [intOf]; omega
  ·obtain rfl : c = n := by omega
   have HO : Hid (Ow wr w.heap.size (ndsD c N) (.slice (some ⟨g, 0, none⟩) c c) (rng w.heap.size wr.heap.size)) := hown.congr (fun i q hi _ => by simp [hi])
   clear hown
   go_wp2
   go_ret
   exact ⟨by rw [← HG.out]; rfl, by rw [← HG.out]; rw [HG.out]; have := HO.out; rw [HG.out] at this; exact this, hbel⟩
structure SyB (s : Sy) : Prop where
 r : s.r.size ≤ maxLen
 pr : s.p.r.size ≤ maxLen
 pb : s.p.b.size ≤ maxLen
 m : s.p.m ≤ maxLen
 tx : ∀ i, i < s.p.m → (s.p.S i).size ≤ maxLen
def wtY (s : Sy) : Nat := s.r.size + wtP s.p
def wtYs (n : Nat) (N : Nat → Sy) : Nat := n + tot (fun i => wtY (N i)) n
theorem Tryz.infoSyL : (Tryz.prog.info? 65).map (·.size) = some 10 := by kernel_rfl
theorem Tryz.infoSy2 : (Tryz.prog.info? 75).map (·.size) = some 10 := by kernel_rfl
theorem say_at {w : World} {n : Nat} {N : Nat → Sy} {a : Option Addr} {cap : Nat} (h : Rd w (sysD n N) (.slice a n cap)) {c : Nat} (hc : c < n) :
  ∃ (b off : Nat) (an : Option Addr) (cn : Nat), a = some ⟨b, off, none⟩ ∧ w.rangeAt b (off + c * 10) [.int .i64 (N c).k, .int .i64 (N c).f, .int .i64 (N c).t, .string (N c).r, .string (N c).p.r, .int .i64 (N c).p.k, .int .i64 (N c).p.n, .int .i64 (N c).p.i, .string (N c).p.b, .slice an (N c).p.m cn] ∧ TxtAt w an (N c).p.m (N c).p.S := by
 obtain ⟨b, off, y, an, cn, ea, hy, e, ht⟩ := say_row h hc
 obtain ⟨_, x⟩ := one_row (sz := 9) w (Below.refl _ _) hy
 have R := range10 x
 have h' := congrArg (fun v => match v with | Value.agg a => a.toList | _ => []) e
 have h'' : [y 0, y 1, y 2, y 3, y 4, y 5, y 6, y 7, y 8, y 9] = [.int .i64 (N c).k, .int .i64 (N c).f, .int .i64 (N c).t, .string (N c).r, .string (N c).p.r, .int .i64 (N c).p.k, .int .i64 (N c).p.n, .int .i64 (N c).p.i, .string (N c).p.b, .slice an (N c).p.m cn] := h'
 rw [h''] at R
 exact ⟨b, off, an, cn, ea, R, ht⟩
theorem szSy_any (s : Sy) (an : Option Addr) (cn l : Nat) (w : World) (h : TxtAt w an s.p.m s.p.S) (hB : SyB s) (hl : l ≤ 1048576) :
  Calls Tryz.prog 32 #[syV s (.slice an s.p.m cn), .int .i64 (l : Int)] w fun e w' => e = .returned (.int .i64 (szN l (wtY s))) ∧ Below w.heap.size w w' := by
 obtain ⟨A, HA⟩ : ∃ x, Hid (x = w.heap.size) := ⟨_, rfl⟩
 obtain ⟨w0, HW0⟩ : ∃ x, Hid (x = w.alloc (.cells (syC s (.slice an s.p.m cn)) 65)) := ⟨_, rfl⟩
 have hb0 : Below w.heap.size w w0 := by rw [HW0.out]; exact (Below.refl _ _).alloc (Nat.le_refl _) _
 have KB0 : Hid (Below w.heap.size w w0) := hb0
 have KP : Hid (∀ l1 : Nat, l1 ≤ 1048576 → Calls Tryz.prog 47 #[pcV s.p.r s.p.k s.p.n s.p.i s.p.b (.slice an s.p.m cn), .int .i64 (l1 : Int)] w0 fun e w' => e = .returned (.int .i64 (szN l1 (wtP s.p))) ∧ Below w0.heap.size w0 w') := fun l1 h1 => by
  rw [← szPc_eq]
  exact szPc_any s.p.r s.p.k s.p.n s.p.i s.p.b an s.p.m cn s.p.S l1 w0 (h.below hb0) h1 hB.m hB.tx hB.pr hB.pb
 have HWT : Hid (wtY s = s.r.size + wtP s.p) := rfl
 rw [HWT.out]
 obtain ⟨x, HX⟩ : ∃ x, Hid (s.r.size = x) := ⟨_, rfl⟩
 obtain ⟨wp, HP⟩ : ∃ x, Hid (wtP s.p = x) := ⟨_, rfl⟩
 have hx := hB.r
 unfold maxLen at hx
 rw [HX.out] at hx
 rw [HX.out, HP.out]
 rw [HP.out] at KP
 have hsz : (s.r.size : Int) = (x : Int) := by rw [HX.out]
 clear h hB hb0 HWT
 by_cases h1 : x ≤ l
 case neg =>
  rw [szN_no (by omega)]
  have e1 : IntKind.i64.wrap ((l : Int) - (x : Int)) = (l : Int) - (x : Int) := by rw [IntKind.wrap_i64]; omega
  have h0 : (l : Int) - (x : Int) < 0 := by omega
  go_enter Tryz.func32, Tryz.ntmps32
  go_wp2
  rw [← HW0.out]
  go_ret
  exact ⟨rfl, KB0.out⟩
 obtain ⟨l1, HL1⟩ : ∃ q, Hid (l - x = q) := ⟨_, rfl⟩
 have hl1 := HL1.out
 have e1 : IntKind.i64.wrap ((l : Int) - (x : Int)) = (l1 : Int) := by rw [IntKind.wrap_i64]; omega
 have n1 : ¬ ((l1 : Int) < 0) := by omega
 have KP1 : Hid _ := KP.out l1 (by omega)
 by_cases h2 : wp ≤ l1
 ·obtain ⟨l2, HL2⟩ : ∃ q, Hid (l1 - wp = q) := ⟨_, rfl⟩
  have hl2 := HL2.out
  have n2 : ¬ ((l2 : Int) < 0) := by omega
  have HR : Hid (szN l (x + wp) = (l2 : Int)) := by show _ = _; rw [szN_yes (by omega)]; congr 1; omega
  rw [szN_yes h2, HL2.out] at KP1
  rw [HR.out]
  clear h1 h2 hl1 hl2 KP
  go_enter Tryz.func32, Tryz.ntmps32
  go_wp2_with fail
  rw [← HW0.out]
  refine Calls.mono KP1.out ?_
  rintro e w1 ⟨rfl, b1⟩
  go_wp2
  go_ret
  exact ⟨rfl, below2 KB0.out b1⟩
 ·have HR : Hid (szN l (x + wp) = -1) := szN_no (by omega)
  rw [szN_no h2] at KP1
  rw [HR.out]
  clear h1 h2 hl1 KP
  go_enter Tryz.func32, Tryz.ntmps32
  go_wp2_with fail
  rw [← HW0.out]
  refine Calls.mono KP1.out ?_
  rintro e w1 ⟨rfl, b1⟩
  go_wp2
  go_ret
  exact ⟨rfl, below2 KB0.out b1⟩
theorem szSys_any (a : Option Addr) (n cap : Nat) (N : Nat → Sy) (l : Nat) (w : World) (h : Rd w (sysD n N) (.slice a n cap)) (hl : l ≤ 1048576) (hn : n ≤ maxLen) (hL : ∀ i, i < n → SyB (N i)) :
  Calls Tryz.prog 17 #[.slice a n cap, .int .i64 (l : Int)] w fun e w' => e = .returned (.int .i64 (szN l (wtYs n N))) ∧ Below w.heap.size w w' := by
 unfold maxLen at hn
 by_cases h1 : n ≤ l
 ·obtain ⟨d, hd⟩ : ∃ d, l - n = d := ⟨_, rfl⟩
  have hw : IntKind.i64.wrap ((l : Int) - (n : Int)) = (d : Int) := by rw [IntKind.wrap_i64]; omega
  have h0 : ¬ ((d : Int) < 0) := by omega
  have KL : Hid (∀ i, i < n → SyB (N i)) := hL
  have KH : Hid (Rd w (sysD n N) (.slice a n cap)) := h
  clear hL h
  go_enter Tryz.func17, Tryz.ntmps17
  go_wp2
  go_loopw [1, 5] (fun p i wr => ∃ c q : Nat, c ≤ n ∧ q ≤ 1048576 ∧ Hid (tot (fun i => wtY (N i)) c + q = d) ∧ p = .int .i64 (q : Int) ∧ i = .int .i64 (c : Int) ∧ Below w.heap.size w wr) (fun _ i _ => n - (intOf i).toNat)
  case atStart => exact ⟨0, d, Nat.zero_le _, by omega, by show 0 + d = d; omega, rfl, rfl, Below.refl _ _⟩
  case round =>
   obtain ⟨c, q, hc, hq, HT, rfl, rfl, hbel⟩ := hrel
   clear hw h0
   by_cases hlt : c < n
   ·obtain ⟨b1, f1, an, cn, rfl, R1', hr1⟩ := say_at (KH.out.below hbel) hlt
    have hti := tot_le (fun i => wtY (N i)) hlt
    have hlti : (c : Int) < (n : Int) := by omega
    have HT' := HT.out
    obtain ⟨lc, HLC⟩ : ∃ x, Hid (wtY (N c) = x) := ⟨_, rfl⟩
    have KTS : Hid (tot (fun i => wtY (N i)) (c + 1) = tot (fun i => wtY (N i)) c + lc) := by rw [← HLC.out]; rfl
    have hti' : tot (fun i => wtY (N i)) c + lc ≤ tot (fun i => wtY (N i)) n := by rw [← HLC.out]; exact hti
    have KZ : Hid (Calls Tryz.prog 32 #[.agg #[.int .i64 (N c).k, .int .i64 (N c).f, .int .i64 (N c).t, .string (N c).r, .string (N c).p.r, .int .i64 (N c).p.k, .int .i64 (N c).p.n, .int .i64 (N c).p.i, .string (N c).p.b, .slice an (N c).p.m cn], .int .i64 (q : Int)] wr fun e w' => e = .returned (.int .i64 (szN q lc)) ∧ Below wr.heap.size wr w') := by
     rw [← HLC.out]
     exact szSy_any (N c) an cn q wr hr1 (KL.out c hlt) hq
    have R1 : Hid (wr.rangeAt b1 (f1 + c * 10) [.int .i64 (N c).k, .int .i64 (N c).f, .int .i64 (N c).t, .string (N c).r, .string (N c).p.r, .int .i64 (N c).p.k, .int .i64 (N c).p.n, .int .i64 (N c).p.i, .string (N c).p.b, .slice an (N c).p.m cn]) := R1'
    have KB : Hid (Below w.heap.size w wr) := hbel
    clear hti R1' hr1 hbel
    by_cases h2 : lc ≤ q
    ·obtain ⟨q', hq'⟩ : ∃ q', q - lc = q' := ⟨_, rfl⟩
     have h3 : ¬ ((q' : Int) < 0) := by omega
     have HT2 : Hid (tot (fun i => wtY (N i)) (c + 1) + q' = d) := by show _ = _; rw [KTS.out]; omega
     have hq2 : q' ≤ 1048576 := by omega
     rw [szN_yes h2, hq'] at KZ
     clear HT HT' hti' KTS
     go_wp2_with (refine wpList_load_mid (by rfl) 65 _ (by rfl) b1 (f1 + c * 10) (by rfl) [.int .i64 (N c).k, .int .i64 (N c).f, .int .i64 (N c).t, .string (N c).r, .string (N c).p.r, .int .i64 (N c).p.k, .int .i64 (N c).p.n, .int .i64 (N c).p.i, .string (N c).p.b, .slice an (N c).p.m cn] _ ?_ Tryz.underlying65 (by rfl) Tryz.infoSyL ?_; exact R1.out)
     refine Calls.mono KZ.out ?_
     rintro e w1 ⟨rfl, bb⟩
     have KB1 : Hid (Below w.heap.size w w1) := below2 KB.out bb
     clear bb KZ R1
     go_wp2
     go_roundw
     case rel => exact ⟨c + 1, q', by omega, hq2, HT2, rfl, by go_num, KB1.out⟩
     case measure => simp [intOf] <;> omega
    ·have HR : Hid (szN l (wtYs n N) = -1) := szN_no (by unfold wtYs; omega)
     rw [szN_no h2] at KZ
     clear HT HT' hti' KTS
     go_wp2_with (refine wpList_load_mid (by rfl) 65 _ (by rfl) b1 (f1 + c * 10) (by rfl) [.int .i64 (N c).k, .int .i64 (N c).f, .int .i64 (N c).t, .string (N c).r, .string (N c).p.r, .int .i64 (N c).p.k, .int .i64 (N c).p.n, .int .i64 (N c).p.i, .string (N c).p.b, .slice an (N c).p.m cn] _ ?_ Tryz.underlying65 (by rfl) Tryz.infoSyL ?_; exact R1.out)
     refine Calls.mono KZ.out ?_
     rintro e w1 ⟨rfl, bb⟩
     have KB1 : Hid (Below w.heap.size w w1) := below2 KB.out bb
     clear bb KZ R1
     go_wp2
     go_ret
     exact ⟨ret_int HR.out.symm, KB1.out⟩
   ·obtain rfl : c = n := by omega
    have HR : Hid (szN l (wtYs c N) = (q : Int)) := by
     have := HT.out
     have e : l - (c + tot (fun i => wtY (N i)) c) = q := by omega
     exact (szN_yes (by unfold wtYs; omega)).trans (by unfold wtYs; rw [e])
    clear KH
    go_wp2
    go_ret
    exact ⟨ret_int HR.out.symm, hbel⟩
 ·have h0 : (l : Int) - (n : Int) < 0 := by omega
  have hw : IntKind.i64.wrap ((l : Int) - (n : Int)) = (l : Int) - (n : Int) := by rw [IntKind.wrap_i64]; omega
  have HR : Hid (szN l (wtYs n N) = -1) := szN_no (by unfold wtYs; omega)
  clear h hL
  go_enter Tryz.func17, Tryz.ntmps17
  go_wp2
  go_ret
  exact ⟨ret_int HR.out.symm, Below.refl _ _⟩
theorem toSy_any (s : Sy) (an : Option Addr) (cn : Nat) (w : World) (h : TxtAt w an s.p.m s.p.S) (hm : s.p.m ≤ 1048576) :
  Calls Tryz.prog 37 #[syV s (.slice an s.p.m cn)] w fun e w' => ∃ g, e = .returned (syV s (.slice (some ⟨g, 0, none⟩) s.p.m s.p.m)) ∧ Ow w' w.heap.size (txD s.p.m s.p.S) (.slice (some ⟨g, 0, none⟩) s.p.m s.p.m) (fun x => x = g) ∧ w.heap.size ≤ g ∧ g < w'.heap.size ∧ Below w.heap.size w w' := by
 obtain ⟨A, HA⟩ : ∃ x, Hid (x = w.heap.size) := ⟨_, rfl⟩
 obtain ⟨D, HD⟩ : ∃ x, Hid (x = w.heap.size + 1) := ⟨_, rfl⟩
 obtain ⟨V, HV⟩ : ∃ x, Hid (x = w.heap.size + 1 + 1) := ⟨_, rfl⟩
 obtain ⟨w0, HW0⟩ : ∃ x, Hid (x = ((w.alloc (.cells (syC s (.slice an s.p.m cn)) 65)).alloc (.cells #[.int .i64 0, .int .i64 0, .int .i64 0, .string ⟨#[]⟩, .string ⟨#[]⟩, .int .i64 0, .int .i64 0, .int .i64 0, .string ⟨#[]⟩, .slice none 0 0] 75)).alloc (.cells #[.int .i64 s.k, .int .i64 s.f, .int .i64 s.t, .string s.r, .string ⟨#[]⟩, .int .i64 0, .int .i64 0, .int .i64 0, .string ⟨#[]⟩, .slice none 0 0] 75)) := ⟨_, rfl⟩
 have RD : Hid (Row w0 D 75 #[.int .i64 0, .int .i64 0, .int .i64 0, .string ⟨#[]⟩, .string ⟨#[]⟩, .int .i64 0, .int .i64 0, .int .i64 0, .string ⟨#[]⟩, .slice none 0 0]) := by
  show Row _ _ _ _
  rw [HW0.out, HD.out]
  have := Row.new (w.alloc (.cells (syC s (.slice an s.p.m cn)) 65)) #[.int .i64 0, .int .i64 0, .int .i64 0, .string ⟨#[]⟩, .string ⟨#[]⟩, .int .i64 0, .int .i64 0, .int .i64 0, .string ⟨#[]⟩, .slice none 0 0] 75
  exact Row.alloc (by simpa using this) _
 have RV : Hid (Row w0 V 75 #[.int .i64 s.k, .int .i64 s.f, .int .i64 s.t, .string s.r, .string ⟨#[]⟩, .int .i64 0, .int .i64 0, .int .i64 0, .string ⟨#[]⟩, .slice none 0 0]) := by
  show Row _ _ _ _
  rw [HW0.out, HV.out]
  have := Row.new ((w.alloc (.cells (syC s (.slice an s.p.m cn)) 65)).alloc (.cells #[.int .i64 0, .int .i64 0, .int .i64 0, .string ⟨#[]⟩, .string ⟨#[]⟩, .int .i64 0, .int .i64 0, .int .i64 0, .string ⟨#[]⟩, .slice none 0 0] 75)) #[.int .i64 s.k, .int .i64 s.f, .int .i64 s.t, .string s.r, .string ⟨#[]⟩, .int .i64 0, .int .i64 0, .int .i64 0, .string ⟨#[]⟩, .slice none 0 0] 75
  simpa using this
 have hb0 : Below w.heap.size w w0 := by rw [HW0.out]; exact (((Below.refl _ _).alloc (Nat.le_refl _) _).alloc (by simp) _).alloc (by simp; omega) _
 have KB0 : Hid (Below w.heap.size w w0) := hb0
 have HL : Hid (V ≠ D ∧ w.heap.size ≤ D ∧ w.heap.size ≤ V ∧ V < w0.heap.size ∧ D < w0.heap.size) := ⟨by have := HV.out; have := HD.out; omega, by have := HD.out; omega, by have := HV.out; omega, RV.out.lt, RD.out.lt⟩
 have KT : Hid _ := toPc_any s.p.r s.p.k s.p.n s.p.i s.p.b an s.p.m cn s.p.S w0 (h.below hb0) hm
 clear h hb0
 go_enter Tryz.func37, Tryz.ntmps37
 go_wp2_with fail
 rw [← HW0.out, ← HV.out, ← HD.out, ← HA.out]
 refine Calls.mono KT.out ?_
 rintro e w2 ⟨g, rfl, O2, b2⟩
 have RV2 := RV.out.below b2 RV.out.lt
 have RD2 := RD.out.below b2 RD.out.lt
 have y4 := RV2.cell 4
 have f4 := RV2.free 4
 have y5 := RV2.cell 5
 have f5 := RV2.free 5
 have y6 := RV2.cell 6
 have f6 := RV2.free 6
 have y7 := RV2.cell 7
 have f7 := RV2.free 7
 have y8 := RV2.cell 8
 have f8 := RV2.free 8
 have y9 := RV2.cell 9
 have f9 := RV2.free 9
 simp at y4 y5 y6 y7 y8 y9
 obtain ⟨w3, HW3⟩ : ∃ x, Hid (x = ((((((w2.setCell ⟨V, 4, none⟩ (.string s.p.r)).setCell ⟨V, 5, none⟩ (.int .i64 s.p.k)).setCell ⟨V, 6, none⟩ (.int .i64 s.p.n)).setCell ⟨V, 7, none⟩ (.int .i64 s.p.i)).setCell ⟨V, 8, none⟩ (.string s.p.b)).setCell ⟨V, 9, none⟩ (.slice (some ⟨g, 0, none⟩) s.p.m s.p.m))) := ⟨_, rfl⟩
 have l2 := World.ownsRow.lt O2 g rfl
 have K3 : Hid (Row w3 V 75 (syC s (.slice (some ⟨g, 0, none⟩) s.p.m s.p.m)) ∧ Row w3 D 75 #[.int .i64 0, .int .i64 0, .int .i64 0, .string ⟨#[]⟩, .string ⟨#[]⟩, .int .i64 0, .int .i64 0, .int .i64 0, .string ⟨#[]⟩, .slice none 0 0] ∧ OwnT w3 w0.heap.size (some ⟨g, 0, none⟩) s.p.m s.p.m s.p.S ∧ Below w.heap.size w w3) := by
  rw [HW3.out]
  exact ⟨(((((RV2.set 4 _).set 5 _).set 6 _).set 7 _).set 8 _).set 9 _, (((((RD2.other 4 _ (Ne.symm HL.out.1)).other 5 _ (Ne.symm HL.out.1)).other 6 _ (Ne.symm HL.out.1)).other 7 _ (Ne.symm HL.out.1)).other 8 _ (Ne.symm HL.out.1)).other 9 _ (Ne.symm HL.out.1), (((((O2.setFar HL.out.2.2.2.1).setFar HL.out.2.2.2.1).setFar HL.out.2.2.2.1).setFar HL.out.2.2.2.1).setFar HL.out.2.2.2.1).setFar HL.out.2.2.2.1, ((((((below2 KB0.out b2).setCell HL.out.2.2.1 _).setCell HL.out.2.2.1 _).setCell HL.out.2.2.1 _).setCell HL.out.2.2.1 _).setCell HL.out.2.2.1 _).setCell HL.out.2.2.1 _⟩
 obtain ⟨w7, HW7⟩ : ∃ x, Hid (x = w3.setRow D (syC s (.slice (some ⟨g, 0, none⟩) s.p.m s.p.m))) := ⟨_, rfl⟩
 have ZR : Hid (Row w7 D 75 (syC s (.slice (some ⟨g, 0, none⟩) s.p.m s.p.m))) := by show Row _ _ _ _; rw [HW7.out]; exact K3.out.2.1.row
 have ZB : Hid (Below w.heap.size w w7) := by show Below _ _ _; rw [HW7.out]; exact belowSetRow K3.out.2.2.2 HL.out.2.1 _
 have w0w : w.heap.size ≤ w0.heap.size := KB0.out.size
 have ZO : Hid (OwnT w7 w.heap.size (some ⟨g, 0, none⟩) s.p.m s.p.m s.p.S) := by
  show OwnT _ _ _ _ _ _
  rw [HW7.out]
  exact own_kept (OwnT.base K3.out.2.2.1 w0w) (grown_row _ _ _) (fun x e => by cases e; show g ≠ D; have := l2.1; have := HL.out.2.2.2.2; omega)
 have l7 := World.ownsRow.lt ZO.out g rfl
 have KL : Hid (w.heap.size ≤ g ∧ g < w7.heap.size) := l7
 clear O2 b2 RV2 RD2 l2 l7 w0w
 go_wp2_with (first | (rw [← HW3.out]; refine wpList_load_row (by rfl) 75 _ (by rfl) V (by rfl) 75 (syC s (.slice (some ⟨g, 0, none⟩) s.p.m s.p.m)) (0, 0) _ ?_ Tryz.underlying75 (by rfl) Tryz.infoSy2 ?_; exact K3.out.1; clear y4 f4 y5 f5 y6 f6 y7 f7 y8 f8 y9 f9) | (refine wpList_store_row (by rfl) 75 _ _ (by rfl) D (syC s (.slice (some ⟨g, 0, none⟩) s.p.m s.p.m)) (by rfl) (by rfl) 75 #[.int .i64 0, .int .i64 0, .int .i64 0, .string ⟨#[]⟩, .string ⟨#[]⟩, .int .i64 0, .int .i64 0, .int .i64 0, .string ⟨#[]⟩, .slice none 0 0] ?_ Tryz.infoSy2 rfl (by simp [Value.oneCell']) ?_; exact K3.out.2.1; rw [← HW7.out]))
 exact bodyPost_ret (v := syV s (.slice (some ⟨g, 0, none⟩) s.p.m s.p.m)) (results_cell_row Tryz.results37 _ _ D 75 _ (0, 0) _ (by rfl) ZR.out Tryz.underlying75 (by rfl) Tryz.infoSy2) rfl ⟨g, rfl, ow_txt ZO.out (fun x e => by cases e; rfl), KL.out.1, KL.out.2, ZB.out⟩
def syN : Sy := ⟨0, 0, 0, ByteArray.empty, ⟨ByteArray.empty, 0, 0, 0, ByteArray.empty, 0, fun _ => ByteArray.empty⟩⟩
def zcY : List Value := [.int .i64 0, .int .i64 0, .int .i64 0, .string ByteArray.empty, .string ByteArray.empty, .int .i64 0, .int .i64 0, .int .i64 0, .string ByteArray.empty, .slice none 0 0]
theorem Tryz.infoSyZ : (Tryz.prog.info? 75).map (fun i => (i.zero, i.size, i.bytes)) = some (some (.agg zcY.toArray), 10, 120) := by kernel_rfl
theorem ow_syZ (w : World) (B q : Nat) (hq : q < 10) : Ow w B (syD syN q) (zcY.getD q undef) (fun _ => False) := by
 match q, hq with
 | 0, _ | 1, _ | 2, _ | 3, _ | 4, _ | 5, _ | 6, _ | 7, _ | 8, _ => rfl
 | 9, _ => exact Ow.nil _ _ _ _ _ _
theorem ow_say {w : World} {B : Nat} {d : Sy} {v : Value} {F : Nat → Prop} (h : Ow w B (txD d.p.m d.p.S) v F) (q : Nat) (hq : q < 10) : Ow w B (syD d q) ((syC d v).toList.getD q undef) (fun x => q = 9 ∧ F x) := by
 match q, hq with
 | 0, _ | 1, _ | 2, _ | 3, _ | 4, _ | 5, _ | 6, _ | 7, _ | 8, _ => rfl
 | 9, _ => exact Ow.mono h fun g hg => ⟨rfl, hg⟩
theorem toSys_any (a : Option Addr) (n cap : Nat) (N : Nat → Sy) (w : World) (h : Rd w (sysD n N) (.slice a n cap)) (hn : n ≤ 1048576) (hs : ∀ i, i < n → (N i).p.m ≤ 1048576) :
  Calls Tryz.prog 21 #[.slice a n cap] w fun e w' => e = .returned (.slice (some ⟨w.heap.size, 0, none⟩) n n) ∧ Ow w' w.heap.size (sysD n N) (.slice (some ⟨w.heap.size, 0, none⟩) n n) (rng w.heap.size w'.heap.size) ∧ Below w.heap.size w w' := by
 obtain ⟨i0, hi, hz0, hz1, hz2⟩ := info_parts Tryz.infoSyZ
 have KH : Hid (Rd w (sysD n N) (.slice a n cap)) := h
 have HS : Hid (∀ i, i < n → (N i).p.m ≤ 1048576) := hs
 clear h hs
 go_enter Tryz.func21, Tryz.ntmps21
 go_wp2_with (at_make; refine wpList_make_full _ rfl _ _ 32 rfl w.heap.size 75 i0 (.agg zcY.toArray) 10 Tryz.underlying32 hi hz0 hz1 .i64 .i64 _ _ n rfl rfl rfl rfl (by rw [hz2]; omega) (by unfold maxLen; omega) (Nat.le_refl _) ?_; intro w1 hown hgrow)
 have hb1 : Below w.heap.size w w1 := (Below.refl _ _).grown hgrow (Nat.le_refl _) (by simp)
 obtain ⟨g, HG⟩ : ∃ x, Hid (x = w.heap.size) := ⟨_, rfl⟩
 have ho1 : Ow w1 w.heap.size (.lst 75 10 n (fun i => if i < 0 then syD (N i) else syD syN)) (.slice (some ⟨g, 0, none⟩) n n) (rng w.heap.size w1.heap.size) := by
  have e : (madeCells (Value.agg zcY.toArray).cells (n * 10)).toList = cL 10 (fun _ q => zcY.getD q undef) n := made_cL (zs := zcY) (by simp [zcY])
  rw [e] at hown
  rw [HG.out]
  have := ow_made (F := rng w.heap.size w1.heap.size) hown (fun q hq => ow_syZ w1 w.heap.size q hq) ⟨Nat.le_refl _, (World.ownsRow.lt hown _ rfl).2⟩
  exact this.congr (fun i q _ _ => by simp)
 have gB : g = w.heap.size := HG.out
 rw [← HG.out]
 have HB : Hid (w.heap.size ≤ g) := by show _ ≤ _; omega
 clear hown hgrow gB
 go_loopw [4] (fun i wr => ∃ k : Nat, k ≤ n ∧ i = .int .i64 k ∧ Ow wr w.heap.size (.lst 75 10 n (fun i => if i < k then syD (N i) else syD syN)) (.slice (some ⟨g, 0, none⟩) n n) (rng w.heap.size wr.heap.size) ∧ Below w.heap.size w wr) (fun i _ => n - (intOf i).toNat)
 case atStart => exact ⟨0, Nat.zero_le _, rfl, ho1, hb1⟩
 case round =>
  obtain ⟨c, hc, rfl, hown, hbel⟩ := hrel
  clear ho1 hb1
  by_cases hlt : c < n
  ·have hlti : (c : Int) < (n : Int) := by omega
   obtain ⟨b1, f1, an, cn, rfl, R1', hr1⟩ := say_at (KH.out.below hbel) hlt
   have KT : Hid _ := toSy_any (N c) an cn wr hr1 (HS.out c hlt)
   have R1 : Hid (wr.rangeAt b1 (f1 + c * 10) [.int .i64 (N c).k, .int .i64 (N c).f, .int .i64 (N c).t, .string (N c).r, .string (N c).p.r, .int .i64 (N c).p.k, .int .i64 (N c).p.n, .int .i64 (N c).p.i, .string (N c).p.b, .slice an (N c).p.m cn]) := R1'
   have KO : Hid (Ow wr w.heap.size (.lst 75 10 n (fun i => if i < c then syD (N i) else syD syN)) (.slice (some ⟨g, 0, none⟩) n n) (rng w.heap.size wr.heap.size) ∧ Below w.heap.size w wr) := ⟨hown, hbel⟩
   have lg : g < wr.heap.size := by
    obtain ⟨a', cap', c', G', e', ho', _⟩ := hown
    cases e'
    exact (World.ownsRow.lt ho' g rfl).2
   clear R1' hr1 hbel hown
   go_wp2_with (refine wpList_load_mid (by rfl) 65 _ (by rfl) b1 (f1 + c * 10) (by rfl) [.int .i64 (N c).k, .int .i64 (N c).f, .int .i64 (N c).t, .string (N c).r, .string (N c).p.r, .int .i64 (N c).p.k, .int .i64 (N c).p.n, .int .i64 (N c).p.i, .string (N c).p.b, .slice an (N c).p.m cn] _ ?_ Tryz.underlying65 (by rfl) Tryz.infoSyL ?_; exact R1.out)
   refine Calls.mono KT.out ?_
   rintro e w2 ⟨gs, rfl, o2, lg1, lg2, b2⟩
   have O2 := KO.out.1.below b2
   have TH : Hid (w2.there g (c * 10) 10) := by
    obtain ⟨a', cap', c', G', e', ho', _⟩ := O2
    cases e'
    intro j hj
    refine ⟨?_, World.ownsRow.frozenAt ho' _⟩
    rw [World.ownsRow.cellAt ho' _ (mid_lt hlt hj), cL_get _ _ _ _ _ hlt hj]
    rfl
   have hsz := KO.out.2.size
   have HO : Hid (Ow (w2.setCells g (c * 10) (syC (N c) (.slice (some ⟨gs, 0, none⟩) (N c).p.m (N c).p.m)).toList) w.heap.size (.lst 75 10 n (fun i => if i < c + 1 then syD (N i) else syD syN)) (.slice (some ⟨g, 0, none⟩) n n) (rng w.heap.size (w2.setCells g (c * 10) (syC (N c) (.slice (some ⟨gs, 0, none⟩) (N c).p.m (N c).p.m)).toList).heap.size)) := by
    rw [size_setCells]
    refine Ow.congr (Ow.store (d := syD (N c)) O2 hlt rfl (fun q hq => ow_say (o2.base hsz) q hq) ?_ ?_ ?_ ?_) ?_
    ·intro q x _ hx hf
     have h2 := hf.2
     have h3 := hx.2
     omega
    ·intro q q' x _ _ hx hx'
     exact hx.1.trans hx'.1.symm
    ·intro x hx
     have := b2.size
     exact ⟨hx.1, by have := hx.2; omega⟩
    ·intro q x _ hx
     have h3 := hx.2
     exact ⟨by omega, by omega⟩
    ·intro i q _ _
     by_cases e : i = c
     ·subst e; simp
     ·by_cases e2 : i < c
      ·simp [e, e2, show i < c + 1 by omega]
      ·simp [e, e2, show ¬ i < c + 1 by omega]
   have HBe : Hid (Below w.heap.size w (w2.setCells g (c * 10) (syC (N c) (.slice (some ⟨gs, 0, none⟩) (N c).p.m (N c).p.m)).toList)) := below_setCells (below2 KO.out.2 b2) HB.out _ _
   clear O2 b2 o2 KT R1 KO
   go_wp2_with (refine wpList_store_mid (by rfl) 75 _ _ (by rfl) g (c * 10) (syC (N c) (.slice (some ⟨gs, 0, none⟩) (N c).p.m (N c).p.m)) (by rfl) (by rfl) ?_ Tryz.infoSy2 (by simp [Value.oneCell']) ?_; exact TH.out)
   go_roundw
   case rel => exact ⟨c + 1, by omega, by go_num, HO.out, HBe.out⟩
   case measure => simp [intOf]; omega
  ·obtain rfl : c = n := by omega
   have HO : Hid (Ow wr w.heap.size (sysD c N) (.slice (some ⟨g, 0, none⟩) c c) (rng w.heap.size wr.heap.size)) := hown.congr (fun i q hi _ => by simp [hi])
   clear hown
   go_wp2
   go_ret
   exact ⟨by rw [← HG.out]; rfl, by rw [← HG.out]; rw [HG.out]; have := HO.out; rw [HG.out] at this; exact this, hbel⟩
structure NetA (w : World) (a : Option Addr) (n c : Nat) (l : Option Addr) (zs : List Int) (e : Option Addr) (m g : Nat) (N : Nat → Nd) (Y : Nat → Sy) : Prop where
 rn : Rd w (ndsD n N) (.slice a n c)
 rl : IntsAt w l zs.length zs
 ry : Rd w (sysD m Y) (.slice e m g)
 hn : n ≤ maxLen
 hl : zs.length ≤ maxLen
 hm : m ≤ maxLen
 bn : ∀ i, i < n → NdB (N i)
 by' : ∀ i, i < m → SyB (Y i)
abbrev ntV (f : Int) (v1 v2 v3 : Value) : Value := .agg #[.int .i64 f, v1, v2, v3]
theorem list4' {α : Type} (l : List α) (h : l.length = 4) : ∃ c0 c1 c2 c3, l = [c0, c1, c2, c3] := by
 match l, h with
 | [c0, c1, c2, c3], _ => exact ⟨c0, c1, c2, c3, rfl⟩
theorem list5 {α : Type} (l : List α) (h : l.length = 5) : ∃ c0 c1 c2 c3 c4, l = [c0, c1, c2, c3, c4] := by
 match l, h with
 | [c0, c1, c2, c3, c4], _ => exact ⟨c0, c1, c2, c3, c4, rfl⟩
theorem list10 {α : Type} (l : List α) (h : l.length = 10) : ∃ c0 c1 c2 c3 c4 c5 c6 c7 c8 c9, l = [c0, c1, c2, c3, c4, c5, c6, c7, c8, c9] := by
 match l, h with
 | [c0, c1, c2, c3, c4, c5, c6, c7, c8, c9], _ => exact ⟨c0, c1, c2, c3, c4, c5, c6, c7, c8, c9, rfl⟩
section
variable {H : Type} {enc : TypeId × Value → H} {w : World} {base : Nat} {spare : Nat → Bool} {held : Bool}
theorem open_say {fuel : Nat} {cs : List Value} {x : DataW H × List MemPlace} (h : DataW.trod enc Tryz.prog w base spare held fuel 65 cs = some x) :
  ∃ s : Sy, cs.length = 10 ∧ (∀ q, q < 10 → Rd w (syD s q) (cs.getD q undef)) ∧ SyB s := by
 have c10 : Tryz.prog.cellsOf 65 = 10 := by kernel_rfl
 have cp6 : Tryz.prog.cellsOf 63 = 6 := by kernel_rfl
 have cs1 : Tryz.prog.cellsOf 9 = 1 := by kernel_rfl
 have ci1 : Tryz.prog.cellsOf 3 = 1 := by kernel_rfl
 obtain ⟨xs, f, _, _, hl, hlen, hf⟩ := DataW.trod_struct Tryz.underlying65 h
 rw [c10] at hl
 obtain ⟨c0, c1, c2, c3, c4, c5, c6, c7, c8, c9, rfl⟩ := list10 cs hl
 obtain ⟨y0, y1, y2, y3, y4, rfl⟩ := list5 xs hlen
 have g0 := hf 0 _ rfl
 have g1 := hf 1 _ rfl
 have g2 := hf 2 _ rfl
 have g3 := hf 3 _ rfl
 have g4 := hf 4 _ rfl
 simp [cs1, cp6, ci1] at g0 g1 g2 g3 g4
 obtain ⟨k, e0, _, _⟩ := DataW.trod_int Tryz.underlying3 g0
 obtain ⟨ff, e1, _, _⟩ := DataW.trod_int Tryz.underlying3 g1
 obtain ⟨tt, e2, _, _⟩ := DataW.trod_int Tryz.underlying3 g2
 obtain ⟨r, e3, _, hr⟩ := DataW.trod_string Tryz.underlying9 g3
 obtain ⟨pr, pk, pn, pi, pb, pa, pm, pc, pS, e4, _, hpr, hpb, ht⟩ := open_piece g4
 simp at e0 e1 e2 e3 e4
 obtain ⟨rfl, rfl, rfl, rfl, rfl, rfl⟩ := e4
 subst e0 e1 e2 e3
 refine ⟨⟨k, ff, tt, r, ⟨pr, pk, pn, pi, pb, pm, pS⟩⟩, rfl, fun q hq => ?_, ⟨hr, hpr, hpb, ht.2.1, ht.2.2⟩⟩
 match q, hq with
 | 0, _ | 1, _ | 2, _ | 3, _ | 4, _ | 5, _ | 6, _ | 7, _ | 8, _ => rfl
 | 9, _ => exact rd_txt.2 ht.1
theorem open_nodeD {fuel : Nat} {cs : List Value} {x : DataW H × List MemPlace} (h : DataW.trod enc Tryz.prog w base spare held fuel 60 cs = some x) :
  ∃ d : Nd, cs.length = 3 ∧ (∀ q, q < 3 → Rd w (ndD d q) (cs.getD q undef)) ∧ NdB d := by
 obtain ⟨id, f, a, n, c, S, rfl, h1, h2, h3⟩ := open_node h
 refine ⟨⟨id, f, n, S⟩, rfl, fun q hq => ?_, ⟨h2, h3⟩⟩
 match q, hq with
 | 0, _ | 1, _ => rfl
 | 2, _ => exact h1
theorem slice_of {T e : Nat} {fuel : Nat} {v : Value} {x : DataW H × List MemPlace} (hu : Tryz.prog.underlying T = some (.slice e)) (h : DataW.trod enc Tryz.prog w base spare held fuel T [v] = some x) : ∃ a n c, v = .slice a n c := by
 rcases Go.Deep.open_slice hu h with ⟨hcs, _⟩ | ⟨ad, len, cap, m, n', D', Pl, hcs, _⟩
 ·simp at hcs
  exact ⟨none, 0, 0, hcs⟩
 ·simp at hcs
  exact ⟨some ad, len, cap, hcs⟩
theorem open_net {fuel : Nat} {cs : List Value} {x : DataW H × List MemPlace} (h : DataW.trod enc Tryz.prog w base spare held fuel 26 cs = some x) :
  ∃ (f : Int) (a : Option Addr) (n c : Nat) (l : Option Addr) (zs : List Int) (d : Nat) (e : Option Addr) (m g : Nat) (N : Nat → Nd) (Y : Nat → Sy), cs = [.int .i64 f, .slice a n c, .slice l zs.length d, .slice e m g] ∧ NetA w a n c l zs e m g N Y := by
 have c4 : Tryz.prog.cellsOf 26 = 4 := by kernel_rfl
 have ci1 : Tryz.prog.cellsOf 3 = 1 := by kernel_rfl
 have cn1 : Tryz.prog.cellsOf 22 = 1 := by kernel_rfl
 have cl1 : Tryz.prog.cellsOf 23 = 1 := by kernel_rfl
 have cy1 : Tryz.prog.cellsOf 24 = 1 := by kernel_rfl
 obtain ⟨xs, ff, _, _, hl, hlen, hf⟩ := DataW.trod_struct Tryz.underlying26 h
 rw [c4] at hl
 obtain ⟨c0, c1, c2, c3, rfl⟩ := list4' cs hl
 obtain ⟨y0, y1, y2, y3, rfl⟩ := list4' xs hlen
 have g0 := hf 0 _ rfl
 have g1 := hf 1 _ rfl
 have g2 := hf 2 _ rfl
 have g3 := hf 3 _ rfl
 simp [ci1, cn1, cl1, cy1] at g0 g1 g2 g3
 obtain ⟨f, e0, _, _⟩ := DataW.trod_int Tryz.underlying3 g0
 simp at e0
 subst e0
 obtain ⟨a, n, c, rfl⟩ := slice_of Tryz.underlying22 g1
 obtain ⟨l, zs, d, rfl, i1, i2⟩ := open_ints_at g2
 obtain ⟨e, m, g, rfl⟩ := slice_of Tryz.underlying24 g3
 obtain ⟨N, n1, n2, n3⟩ := open_list ndN 72 ndD NdB Tryz.underlying22 (by kernel_rfl) (by omega) open_nodeD g1
 obtain ⟨Y, m1, m2, m3⟩ := open_list syN 75 syD SyB Tryz.underlying24 (by kernel_rfl) (by omega) open_say g3
 exact ⟨f, a, n, c, l, zs, d, e, m, g, N, Y, rfl, ⟨n1, i1, m1, n2, i2, m2, n3, m3⟩⟩
end
def wtT (n : Nat) (N : Nat → Nd) (zs : List Int) (m : Nat) (Y : Nat → Sy) : Nat := wtNs n N + zs.length + wtYs m Y
theorem szNt_any (f : Int) (a : Option Addr) (n c : Nat) (l : Option Addr) (zs : List Int) (d : Nat) (e : Option Addr) (m g : Nat) (N : Nat → Nd) (Y : Nat → Sy) (lf : Nat) (w : World) (h : NetA w a n c l zs e m g N Y) (hlf : lf ≤ 1048576) :
  Calls Tryz.prog 4 #[.agg #[.int .i64 f, .slice a n c, .slice l zs.length d, .slice e m g], .int .i64 (lf : Int)] w fun e w' => e = .returned (.int .i64 (szN lf (wtT n N zs m Y))) ∧ Below w.heap.size w w' := by
 obtain ⟨A, HA⟩ : ∃ x, Hid (x = w.heap.size) := ⟨_, rfl⟩
 obtain ⟨w0, HW0⟩ : ∃ x, Hid (x = w.alloc (.cells #[.int .i64 f, .slice a n c, .slice l zs.length d, .slice e m g] 26)) := ⟨_, rfl⟩
 have RA : Hid (Row w0 A 26 #[.int .i64 f, .slice a n c, .slice l zs.length d, .slice e m g]) := by show Row _ _ _ _; rw [HW0.out, HA.out]; exact Row.new w _ _
 have hb0 : Below w.heap.size w w0 := by rw [HW0.out]; exact (Below.refl _ _).alloc (Nat.le_refl _) _
 have KB0 : Hid (Below w.heap.size w w0) := hb0
 have K1 : Hid (Calls Tryz.prog 15 #[.slice a n c, .int .i64 (lf : Int)] w0 _) := szNds_any a n c N lf w0 (h.rn.below hb0) hlf h.hn h.bn
 have K2 : Hid (∀ (q : Nat) W, q ≤ 1048576 → Calls Tryz.prog 16 #[.slice l zs.length d, .int .i64 (q : Int)] W fun e w' => e = .returned (.int .i64 (szN q zs.length)) ∧ w' = W) := fun q W hq => szI_any l _ d q W h.hl hq
 have K3 : Hid (∀ (q : Nat) W, q ≤ 1048576 → Below w0.heap.size w0 W → Calls Tryz.prog 17 #[.slice e m g, .int .i64 (q : Int)] W fun e w' => e = .returned (.int .i64 (szN q (wtYs m Y))) ∧ Below W.heap.size W w') := fun q W hq hW => szSys_any e m g Y q W ((h.ry.below hb0).below hW) hq h.hm h.by'
 obtain ⟨x1, HX1⟩ : ∃ x, Hid (wtNs n N = x) := ⟨_, rfl⟩
 obtain ⟨x2, HX2⟩ : ∃ x, Hid (zs.length = x) := ⟨_, rfl⟩
 obtain ⟨x3, HX3⟩ : ∃ x, Hid (wtYs m Y = x) := ⟨_, rfl⟩
 have HWT : Hid (wtT n N zs m Y = x1 + x2 + x3) := by show _ = _; unfold wtT; rw [HX1.out, HX2.out, HX3.out]
 rw [HWT.out]
 rw [HX1.out] at K1
 rw [HX2.out] at K2 RA
 rw [HX3.out] at K3
 rw [HX2.out]
 rw [HX2.out] at HW0
 clear h hb0 HWT
 by_cases h1 : x1 ≤ lf
 case neg =>
  rw [szN_no h1] at K1
  rw [szN_no (by omega)]
  go_enter Tryz.func4, Tryz.ntmps4
  go_wp2_with fail
  rw [← HW0.out, ← HA.out]
  refine Calls.mono K1.out ?_
  rintro e' w1 ⟨rfl, b1⟩
  go_wp2
  go_ret
  exact ⟨rfl, below2 KB0.out b1⟩
 obtain ⟨l1, HL1⟩ : ∃ q, Hid (lf - x1 = q) := ⟨_, rfl⟩
 rw [szN_yes h1, HL1.out] at K1
 have hl1 := HL1.out
 have n1 : ¬ ((l1 : Int) < 0) := by omega
 have K2' : Hid _ := fun W => K2.out l1 W (by omega)
 by_cases h2 : x2 ≤ l1
 case neg =>
  rw [szN_no (by omega)]
  simp only [szN_no h2] at K2'
  go_enter Tryz.func4, Tryz.ntmps4
  go_wp2_with fail
  rw [← HW0.out, ← HA.out]
  refine Calls.mono K1.out ?_
  rintro e' w1 ⟨rfl, b1⟩
  have R1 := RA.out.below b1 RA.out.lt
  have y2 := R1.cell 2
  simp at y2
  have KB1 : Hid (Below w.heap.size w w1) := below2 KB0.out b1
  clear b1 R1
  go_wp2_with fail
  refine Calls.mono (K2'.out _) ?_
  rintro e' w2 ⟨rfl, hw⟩
  obtain rfl := hw.symm
  clear hw
  go_wp2
  go_ret
  exact ⟨rfl, KB1.out⟩
 obtain ⟨l2, HL2⟩ : ∃ q, Hid (l1 - x2 = q) := ⟨_, rfl⟩
 simp only [szN_yes h2, HL2.out] at K2'
 have hl2 := HL2.out
 have n2 : ¬ ((l2 : Int) < 0) := by omega
 obtain ⟨r3, HR3⟩ : ∃ q, Hid (szN l2 x3 = q) := ⟨_, rfl⟩
 have HF : Hid (szN lf (x1 + x2 + x3) = r3) := by
  show _ = _
  rw [← HR3.out]
  by_cases h3 : x3 ≤ l2
  ·rw [szN_yes h3, szN_yes (by omega)]; congr 1; omega
  ·rw [szN_no h3, szN_no (by omega)]
 have K3' : Hid (∀ W, Below w0.heap.size w0 W → Calls Tryz.prog 17 #[.slice e m g, .int .i64 (l2 : Int)] W fun e w' => e = .returned (.int .i64 r3) ∧ Below W.heap.size W w') := fun W hW => by have := K3.out l2 W (by omega) hW; rw [HR3.out] at this; exact this
 rw [HF.out]
 have HS3 : Hid (r3 < 0 → r3 = -1) := by
  show r3 < 0 → _
  rw [← HR3.out]
  by_cases h3 : x3 ≤ l2
  ·rw [szN_yes h3]; intro hh; omega
  ·rw [szN_no h3]; intro _; rfl
 clear K2 K3 h1 h2 hl1 hl2
 by_cases h3 : r3 < 0
 ·have e3 := HS3.out h3
  subst e3
  go_enter Tryz.func4, Tryz.ntmps4
  go_wp2_with fail
  rw [← HW0.out, ← HA.out]
  refine Calls.mono K1.out ?_
  rintro e' w1 ⟨rfl, b1⟩
  have R1 := RA.out.below b1 RA.out.lt
  have y2 := R1.cell 2
  have y3 := R1.cell 3
  simp at y2 y3
  have KB1 : Hid (Below w0.heap.size w0 w1) := b1
  clear b1 R1
  go_wp2_with fail
  refine Calls.mono (K2'.out _) ?_
  rintro e' w2 ⟨rfl, hw⟩
  obtain rfl := hw.symm
  clear hw
  go_wp2_with fail
  refine Calls.mono (K3'.out _ KB1.out) ?_
  rintro e' w3 ⟨rfl, b3⟩
  go_wp2
  go_ret
  exact ⟨rfl, below2 KB0.out (below2 KB1.out b3)⟩
 ·go_enter Tryz.func4, Tryz.ntmps4
  go_wp2_with fail
  rw [← HW0.out, ← HA.out]
  refine Calls.mono K1.out ?_
  rintro e' w1 ⟨rfl, b1⟩
  have R1 := RA.out.below b1 RA.out.lt
  have y2 := R1.cell 2
  have y3 := R1.cell 3
  simp at y2 y3
  have KB1 : Hid (Below w0.heap.size w0 w1) := b1
  clear b1 R1
  go_wp2_with fail
  refine Calls.mono (K2'.out _) ?_
  rintro e' w2 ⟨rfl, hw⟩
  obtain rfl := hw.symm
  clear hw
  go_wp2_with fail
  refine Calls.mono (K3'.out _ KB1.out) ?_
  rintro e' w3 ⟨rfl, b3⟩
  go_wp2
  go_ret
  exact ⟨rfl, below2 KB0.out (below2 KB1.out b3)⟩
theorem eqNt_same (f : Int) (a b : Option Addr) (n ca cb : Nat) (l k : Option Addr) (zs : List Int) (cl ck : Nat) (e q : Option Addr) (m ce cq : Nat) (N : Nat → Nd) (Y : Nat → Sy) (w : World) (h1 : Rd w (ndsD n N) (.slice a n ca)) (h2 : Rd w (ndsD n N) (.slice b n cb)) (h3 : IntsAt w l zs.length zs) (h4 : IntsAt w k zs.length zs) (h5 : Rd w (sysD m Y) (.slice e m ce)) (h6 : Rd w (sysD m Y) (.slice q m cq)) (hn : n ≤ 1048576) (hN : ∀ i, i < n → NdS (N i)) (hz : zs.length ≤ 1048576) (hm : m ≤ 1048576) (hY : ∀ i, i < m → (Y i).p.m ≤ 1048576) :
  Calls Tryz.prog 11 #[ntV f (.slice a n ca) (.slice l zs.length cl) (.slice e m ce), ntV f (.slice b n cb) (.slice k zs.length ck) (.slice q m cq)] w fun e w' => e = .returned (.bool true) ∧ Below w.heap.size w w' := by
 obtain ⟨A, HA⟩ : ∃ x, Hid (x = w.heap.size) := ⟨_, rfl⟩
 obtain ⟨D, HD⟩ : ∃ x, Hid (x = w.heap.size + 1) := ⟨_, rfl⟩
 obtain ⟨w0, HW0⟩ : ∃ x, Hid (x = (w.alloc (.cells #[.int .i64 f, .slice a n ca, .slice l zs.length cl, .slice e m ce] 34)).alloc (.cells #[.int .i64 f, .slice b n cb, .slice k zs.length ck, .slice q m cq] 34)) := ⟨_, rfl⟩
 have RA : Hid (Row w0 A 34 #[.int .i64 f, .slice a n ca, .slice l zs.length cl, .slice e m ce]) := by show Row _ _ _ _; rw [HW0.out, HA.out]; exact Row.alloc (Row.new w _ _) _
 have RD : Hid (Row w0 D 34 #[.int .i64 f, .slice b n cb, .slice k zs.length ck, .slice q m cq]) := by
  show Row _ _ _ _
  rw [HW0.out, HD.out]
  have := Row.new (w.alloc (.cells #[.int .i64 f, .slice a n ca, .slice l zs.length cl, .slice e m ce] 34)) #[.int .i64 f, .slice b n cb, .slice k zs.length ck, .slice q m cq] 34
  simpa using this
 have hb0 : Below w.heap.size w w0 := by rw [HW0.out]; exact ((Below.refl _ _).alloc (Nat.le_refl _) _).alloc (by simp) _
 have KB0 : Hid (Below w.heap.size w w0) := hb0
 have K1 : Hid _ := eqNds_same a b n ca cb N w0 (h1.below hb0) (h2.below hb0) hn hN
 have K2 : Hid (∀ W, Below w0.heap.size w0 W → Calls Tryz.prog 25 #[.slice l zs.length cl, .slice k zs.length ck] W _) := fun W hW => eqIntS_same l k zs.length cl ck zs W ((h3.below hb0).below hW) ((h4.below hb0).below hW) hz
 have K3 : Hid (∀ W, Below w0.heap.size w0 W → Calls Tryz.prog 26 #[.slice e m ce, .slice q m cq] W _) := fun W hW => eqSys_same e q m ce cq Y W ((h5.below hb0).below hW) ((h6.below hb0).below hW) hm hY
 have hff : (f != f) = false := by simp
 clear h1 h2 h3 h4 h5 h6 hb0 hN hY
 go_enter Tryz.func11, Tryz.ntmps11
 go_wp2_with fail
 rw [← HW0.out, ← HD.out, ← HA.out]
 refine Calls.mono K1.out ?_
 rintro e' w1 ⟨rfl, b1⟩
 have R1 := RA.out.below b1 RA.out.lt
 have S1 := RD.out.below b1 RD.out.lt
 have x2 := R1.cell 2
 have x3 := R1.cell 3
 have y2 := S1.cell 2
 have y3 := S1.cell 3
 simp at x2 x3 y2 y3
 have KB1 : Hid (Below w0.heap.size w0 w1) := b1
 clear b1 R1 S1
 go_wp2_with fail
 refine Calls.mono (K2.out _ KB1.out) ?_
 rintro e' w2 ⟨rfl, b2⟩
 replace x3 := (b2.cell (p := ⟨A, 3, none⟩) (block_lt_of_cell x3)).trans x3
 replace y3 := (b2.cell (p := ⟨D, 3, none⟩) (block_lt_of_cell y3)).trans y3
 have KB2 : Hid (Below w0.heap.size w0 w2) := below2 KB1.out b2
 clear b2 x2 y2 KB1
 go_wp2_with fail
 refine Calls.mono (K3.out _ KB2.out) ?_
 rintro e' w3 ⟨rfl, b3⟩
 go_wp2
 go_ret
 exact ⟨rfl, below2 KB0.out (below2 KB2.out b3)⟩
theorem Ow.apart {w : World} {B : Nat} {d : Dt} {v : Value} {F : Nat → Prop} (h : Ow w B d v F) {g : Nat} (o : Nat) (x : Value) (hn : ¬ F g) : Ow (w.setCell ⟨g, o, none⟩ x) B d v F :=
 h.turned (Trn.set w o x (F := fun y => y = g) rfl) (fun _ hy e => hn (e ▸ hy))
theorem Tryz.infoNt : (Tryz.prog.info? 34).map (·.size) = some 4 := by kernel_rfl
theorem toI_own (a : Option Addr) (cap : Nat) (zs : List Int) (w : World) (h : IntsAt w a zs.length zs) (hn : zs.length ≤ 1048576) :
  Calls Tryz.prog 20 #[.slice a zs.length cap] w fun e w' => ∃ g, e = .returned (.slice (some ⟨g, 0, none⟩) zs.length zs.length) ∧ Ow w' w.heap.size (inD zs) (.slice (some ⟨g, 0, none⟩) zs.length zs.length) (rng w.heap.size w'.heap.size) ∧ Below w.heap.size w w' := by
 refine (toIntS_any a zs.length cap zs w h hn).mono ?_
 rintro e w' ⟨rfl, ho, hb⟩
 have l := World.ownsRow.lt ho w.heap.size rfl
 exact ⟨_, rfl, ow_ints ho (fun x e => by cases e; exact l), hb⟩
theorem toNt_any (f : Int) (a : Option Addr) (n c : Nat) (l : Option Addr) (zs : List Int) (d : Nat) (e : Option Addr) (m g : Nat) (N : Nat → Nd) (Y : Nat → Sy) (w : World) (h : NetA w a n c l zs e m g N Y) (hn : n ≤ 1048576) (hN : ∀ i, i < n → NdS (N i)) (hz : zs.length ≤ 1048576) (hm : m ≤ 1048576) (hY : ∀ i, i < m → (Y i).p.m ≤ 1048576) :
  Calls Tryz.prog 7 #[.agg #[.int .i64 f, .slice a n c, .slice l zs.length d, .slice e m g]] w fun r w' => ∃ g1 g2 g3, r = .returned (ntV f (.slice (some ⟨g1, 0, none⟩) n n) (.slice (some ⟨g2, 0, none⟩) zs.length zs.length) (.slice (some ⟨g3, 0, none⟩) m m)) ∧ ∃ (F1 F2 F3 : Nat → Prop), Ow w' w.heap.size (ndsD n N) (.slice (some ⟨g1, 0, none⟩) n n) F1 ∧ Ow w' w.heap.size (inD zs) (.slice (some ⟨g2, 0, none⟩) zs.length zs.length) F2 ∧ Ow w' w.heap.size (sysD m Y) (.slice (some ⟨g3, 0, none⟩) m m) F3 ∧ (∀ x, F1 x → ¬ F2 x) ∧ (∀ x, F1 x → ¬ F3 x) ∧ (∀ x, F2 x → ¬ F3 x) ∧ Below w.heap.size w w' := by
 obtain ⟨A, HA⟩ : ∃ x, Hid (x = w.heap.size) := ⟨_, rfl⟩
 obtain ⟨D, HD⟩ : ∃ x, Hid (x = w.heap.size + 1) := ⟨_, rfl⟩
 obtain ⟨V, HV⟩ : ∃ x, Hid (x = w.heap.size + 1 + 1) := ⟨_, rfl⟩
 obtain ⟨w0, HW0⟩ : ∃ x, Hid (x = ((w.alloc (.cells #[.int .i64 f, .slice a n c, .slice l zs.length d, .slice e m g] 26)).alloc (.cells #[.int .i64 0, .slice none 0 0, .slice none 0 0, .slice none 0 0] 34)).alloc (.cells #[.int .i64 f, .slice none 0 0, .slice none 0 0, .slice none 0 0] 34)) := ⟨_, rfl⟩
 have RA : Hid (Row w0 A 26 #[.int .i64 f, .slice a n c, .slice l zs.length d, .slice e m g]) := by show Row _ _ _ _; rw [HW0.out, HA.out]; exact Row.alloc (Row.alloc (Row.new w _ _) _) _
 have RD : Hid (Row w0 D 34 #[.int .i64 0, .slice none 0 0, .slice none 0 0, .slice none 0 0]) := by
  show Row _ _ _ _
  rw [HW0.out, HD.out]
  have := Row.new (w.alloc (.cells #[.int .i64 f, .slice a n c, .slice l zs.length d, .slice e m g] 26)) #[.int .i64 0, .slice none 0 0, .slice none 0 0, .slice none 0 0] 34
  exact Row.alloc (by simpa using this) _
 have RV : Hid (Row w0 V 34 #[.int .i64 f, .slice none 0 0, .slice none 0 0, .slice none 0 0]) := by
  show Row _ _ _ _
  rw [HW0.out, HV.out]
  have := Row.new ((w.alloc (.cells #[.int .i64 f, .slice a n c, .slice l zs.length d, .slice e m g] 26)).alloc (.cells #[.int .i64 0, .slice none 0 0, .slice none 0 0, .slice none 0 0] 34)) #[.int .i64 f, .slice none 0 0, .slice none 0 0, .slice none 0 0] 34
  simpa using this
 have hb0 : Below w.heap.size w w0 := by rw [HW0.out]; exact (((Below.refl _ _).alloc (Nat.le_refl _) _).alloc (by simp) _).alloc (by simp; omega) _
 have KB0 : Hid (Below w.heap.size w w0) := hb0
 have HL : Hid (V ≠ D ∧ V ≠ A ∧ w.heap.size ≤ D ∧ w.heap.size ≤ V ∧ V < w0.heap.size ∧ D < w0.heap.size) := ⟨by have := HV.out; have := HD.out; omega, by have := HV.out; have := HA.out; omega, by have := HD.out; omega, by have := HV.out; omega, RV.out.lt, RD.out.lt⟩
 have K1 : Hid _ := toNds_any a n c N w0 (h.rn.below hb0) hn hN
 have K2 : Hid (∀ W, Below w.heap.size w W → Calls Tryz.prog 20 #[.slice l zs.length d] W _) := fun W hW => toI_own l d zs W (h.rl.below hW) hz
 have K3 : Hid (∀ W, Below w.heap.size w W → Calls Tryz.prog 21 #[.slice e m g] W _) := fun W hW => toSys_any e m g Y W (h.ry.below hW) hm hY
 clear h hb0 hN hY
 go_enter Tryz.func7, Tryz.ntmps7
 go_wp2_with fail
 rw [← HW0.out, ← HV.out, ← HD.out, ← HA.out]
 refine Calls.mono K1.out ?_
 rintro e' w1 ⟨rfl, O1, b1⟩
 obtain ⟨g1, HG1⟩ : ∃ x, Hid (x = w0.heap.size) := ⟨_, rfl⟩
 rw [← HG1.out]
 obtain ⟨w2, HW2⟩ : ∃ x, Hid (x = w1.setCell ⟨V, 1, none⟩ (.slice (some ⟨g1, 0, none⟩) n n)) := ⟨_, rfl⟩
 have RA1 := RA.out.below b1 RA.out.lt
 have RV1 := RV.out.below b1 RV.out.lt
 have RD1 := RD.out.below b1 RD.out.lt
 have y1 := RV1.cell 1
 have f1 := RV1.free 1
 have q2 := RA1.cell 2
 simp at y1 q2
 have nVA : ¬ V = A := HL.out.2.1
 have nAV : ¬ A = V := fun e => HL.out.2.1 e.symm
 have S2 : w2.heap.size = w1.heap.size := by rw [HW2.out]; simp
 have s01 : w0.heap.size ≤ w1.heap.size := b1.size
 have J2 : Hid (Row w2 A 26 #[.int .i64 f, .slice a n c, .slice l zs.length d, .slice e m g] ∧ Row w2 V 34 #[.int .i64 f, .slice (some ⟨g1, 0, none⟩) n n, .slice none 0 0, .slice none 0 0] ∧ Row w2 D 34 #[.int .i64 0, .slice none 0 0, .slice none 0 0, .slice none 0 0] ∧ Ow w2 w.heap.size (ndsD n N) (.slice (some ⟨g1, 0, none⟩) n n) (rng w0.heap.size w1.heap.size) ∧ Below w.heap.size w w2) := by
  rw [HW2.out]
  refine ⟨RA1.other 1 _ (Ne.symm HL.out.2.1), RV1.set 1 _, RD1.other 1 _ (Ne.symm HL.out.1), ?_, (below2 KB0.out b1).setCell HL.out.2.2.2.1 _⟩
  have := O1.base KB0.out.size
  rw [← HG1.out] at this
  rw [← HG1.out]
  exact this.apart 1 _ (fun k => by have := k.1; have := HL.out.2.2.2.2.1; have := HG1.out; omega)
 have K2' : Hid _ := K2.out w2 J2.out.2.2.2.2
 clear O1 b1 RA1 RV1 RD1 K1 K2
 go_wp2_with (fail)
 rw [← HW2.out]
 refine Calls.mono K2'.out ?_
 rintro e' w3 ⟨g2, rfl, O3, b3⟩
 obtain ⟨w4, HW4⟩ : ∃ x, Hid (x = w3.setCell ⟨V, 2, none⟩ (.slice (some ⟨g2, 0, none⟩) zs.length zs.length)) := ⟨_, rfl⟩
 have RA3 := J2.out.1.below b3 J2.out.1.lt
 have RV3 := J2.out.2.1.below b3 J2.out.2.1.lt
 have RD3 := J2.out.2.2.1.below b3 J2.out.2.2.1.lt
 have y2 := RV3.cell 2
 have f2 := RV3.free 2
 have q3 := RA3.cell 3
 simp at y2 q3
 have lV2 : V < w2.heap.size := J2.out.2.1.lt
 have J4 : Hid (Row w4 A 26 #[.int .i64 f, .slice a n c, .slice l zs.length d, .slice e m g] ∧ Row w4 V 34 #[.int .i64 f, .slice (some ⟨g1, 0, none⟩) n n, .slice (some ⟨g2, 0, none⟩) zs.length zs.length, .slice none 0 0] ∧ Row w4 D 34 #[.int .i64 0, .slice none 0 0, .slice none 0 0, .slice none 0 0] ∧ Ow w4 w.heap.size (ndsD n N) (.slice (some ⟨g1, 0, none⟩) n n) (rng w0.heap.size w1.heap.size) ∧ Ow w4 w.heap.size (inD zs) (.slice (some ⟨g2, 0, none⟩) zs.length zs.length) (rng w2.heap.size w3.heap.size) ∧ Below w.heap.size w w4) := by
  rw [HW4.out]
  exact ⟨RA3.other 2 _ (Ne.symm HL.out.2.1), RV3.set 2 _, RD3.other 2 _ (Ne.symm HL.out.1), (J2.out.2.2.2.1.below b3).apart 2 _ (fun k => by have := k.1; have := HL.out.2.2.2.2.1; omega), (O3.base J2.out.2.2.2.2.size).apart 2 _ (fun k => by have := k.1; omega), (below2 J2.out.2.2.2.2 b3).setCell HL.out.2.2.2.1 _⟩
 have S4 : w4.heap.size = w3.heap.size := by rw [HW4.out]; simp
 have K3' : Hid _ := K3.out w4 J4.out.2.2.2.2.2
 have s23 := b3.size
 clear O3 b3 RA3 RV3 RD3 K3 y1 f1 q2
 go_wp2_with (fail)
 rw [← HW4.out]
 refine Calls.mono K3'.out ?_
 rintro e' w5 ⟨rfl, O5, b5⟩
 obtain ⟨g3, HG3⟩ : ∃ x, Hid (x = w4.heap.size) := ⟨_, rfl⟩
 rw [← HG3.out]
 obtain ⟨w6, HW6⟩ : ∃ x, Hid (x = w5.setCell ⟨V, 3, none⟩ (.slice (some ⟨g3, 0, none⟩) m m)) := ⟨_, rfl⟩
 have RV5 := J4.out.2.1.below b5 J4.out.2.1.lt
 have RD5 := J4.out.2.2.1.below b5 J4.out.2.2.1.lt
 have y3 := RV5.cell 3
 have f3 := RV5.free 3
 simp at y3
 have lV4 : V < w4.heap.size := J4.out.2.1.lt
 have lD4 : D < w4.heap.size := J4.out.2.2.1.lt
 have J6 : Hid (Row w6 V 34 #[.int .i64 f, .slice (some ⟨g1, 0, none⟩) n n, .slice (some ⟨g2, 0, none⟩) zs.length zs.length, .slice (some ⟨g3, 0, none⟩) m m] ∧ Row w6 D 34 #[.int .i64 0, .slice none 0 0, .slice none 0 0, .slice none 0 0] ∧ Ow w6 w.heap.size (ndsD n N) (.slice (some ⟨g1, 0, none⟩) n n) (rng w0.heap.size w1.heap.size) ∧ Ow w6 w.heap.size (inD zs) (.slice (some ⟨g2, 0, none⟩) zs.length zs.length) (rng w2.heap.size w3.heap.size) ∧ Ow w6 w.heap.size (sysD m Y) (.slice (some ⟨g3, 0, none⟩) m m) (rng w4.heap.size w5.heap.size) ∧ Below w.heap.size w w6) := by
  rw [HW6.out]
  refine ⟨RV5.set 3 _, RD5.other 3 _ (Ne.symm HL.out.1), (J4.out.2.2.2.1.below b5).apart 3 _ (fun k => by have := k.1; have := HL.out.2.2.2.2.1; omega), (J4.out.2.2.2.2.1.below b5).apart 3 _ (fun k => by have := k.1; omega), ?_, (below2 J4.out.2.2.2.2.2 b5).setCell HL.out.2.2.2.1 _⟩
  have := O5.base J4.out.2.2.2.2.2.size
  rw [← HG3.out] at this
  rw [← HG3.out]
  exact this.apart 3 _ (fun k => by have := k.1; have := HG3.out; omega)
 obtain ⟨w7, HW7⟩ : ∃ x, Hid (x = w6.setRow D #[.int .i64 f, .slice (some ⟨g1, 0, none⟩) n n, .slice (some ⟨g2, 0, none⟩) zs.length zs.length, .slice (some ⟨g3, 0, none⟩) m m]) := ⟨_, rfl⟩
 have ZR : Hid (Row w7 D 34 #[.int .i64 f, .slice (some ⟨g1, 0, none⟩) n n, .slice (some ⟨g2, 0, none⟩) zs.length zs.length, .slice (some ⟨g3, 0, none⟩) m m]) := by show Row _ _ _ _; rw [HW7.out]; exact J6.out.2.1.row
 have ZF : Hid (∃ (F1 F2 F3 : Nat → Prop), Ow w7 w.heap.size (ndsD n N) (.slice (some ⟨g1, 0, none⟩) n n) F1 ∧ Ow w7 w.heap.size (inD zs) (.slice (some ⟨g2, 0, none⟩) zs.length zs.length) F2 ∧ Ow w7 w.heap.size (sysD m Y) (.slice (some ⟨g3, 0, none⟩) m m) F3 ∧ (∀ x, F1 x → ¬ F2 x) ∧ (∀ x, F1 x → ¬ F3 x) ∧ (∀ x, F2 x → ¬ F3 x) ∧ Below w.heap.size w w7) := by
  rw [HW7.out]
  have hD := HL.out.2.2.2.2.2
  refine ⟨_, _, _, J6.out.2.2.1.frame fun x hx _ => setRow_other _ _ _ _ (fun e => by have := hx.1; omega), J6.out.2.2.2.1.frame fun x hx _ => setRow_other _ _ _ _ (fun e => by have := hx.1; omega), J6.out.2.2.2.2.1.frame fun x hx _ => setRow_other _ _ _ _ (fun e => by have := hx.1; omega), fun x hx hy => ?_, fun x hx hy => ?_, fun x hx hy => ?_, belowSetRow J6.out.2.2.2.2.2 HL.out.2.2.1 _⟩
  ·have := hx.2; have := hy.1; omega
  ·have := hx.2; have := hy.1; omega
  ·have := hx.2; have := hy.1; omega
 clear O5 b5 RV5 RD5 S2 S4 s23 lV2 lV4 lD4 y2 f2 q3
 go_wp2_with (first | (rw [← HW6.out]; refine wpList_load_row (by rfl) 34 _ (by rfl) V (by rfl) 34 #[.int .i64 f, .slice (some ⟨g1, 0, none⟩) n n, .slice (some ⟨g2, 0, none⟩) zs.length zs.length, .slice (some ⟨g3, 0, none⟩) m m] (0, 0) _ ?_ Tryz.underlying34 (by rfl) Tryz.infoNt ?_; exact J6.out.1; clear y3 f3) | (refine wpList_store_row (by rfl) 34 _ _ (by rfl) D #[.int .i64 f, .slice (some ⟨g1, 0, none⟩) n n, .slice (some ⟨g2, 0, none⟩) zs.length zs.length, .slice (some ⟨g3, 0, none⟩) m m] (by rfl) (by rfl) 34 #[.int .i64 0, .slice none 0 0, .slice none 0 0, .slice none 0 0] ?_ Tryz.infoNt rfl (by simp [Value.oneCell']) ?_; exact J6.out.2.1; rw [← HW7.out]))
 exact bodyPost_ret (v := ntV f (.slice (some ⟨g1, 0, none⟩) n n) (.slice (some ⟨g2, 0, none⟩) zs.length zs.length) (.slice (some ⟨g3, 0, none⟩) m m)) (results_cell_row Tryz.results7 _ _ D 34 _ (0, 0) _ (by rfl) ZR.out Tryz.underlying34 (by rfl) Tryz.infoNt) rfl ⟨g1, g2, g3, rfl, ZF.out⟩
end Go.Proofs.YtgooamiggebibaaGreatDoor
