/- Lists of nodes: by plain values, read, counted, copied and compared. Conditions: lists of at most 2^20. Written by a program. -/
import Derived.Test.YtkcnpkkihbpnmaaDoorD26
import Derived.Test.YtkcnpkkihbpnmaaDoorD20
namespace Go.Proofs.YtkcnpkkihbpnmaaDoor
set_option maxRecDepth 2000
open Go.ChangeShapes Go.WideShapes Go.ChangeAt Go.RowKit

/-- A node by plain values. -/
structure Nd where
  i : Int
  f : Int
  n : Nat
  S : Nat → Sl
def ndD (d : Nd) : Nat → Dt
  | 0 => .val (.int .i64 d.i)
  | 1 => .val (.int .i64 d.f)
  | _ => slsD d.n d.S
def ndsD (m : Nat) (N : Nat → Nd) : Dt := .lst 98 3 m fun i => ndD (N i)
structure NdB (d : Nd) : Prop where
  n : d.n ≤ maxLen
  s : ∀ i, i < d.n → SlB (d.S i)
structure NdS (d : Nd) : Prop where
  n : d.n ≤ 1048576
  s : ∀ i, i < d.n → SlS (d.S i)
theorem node_at {w : World} {m : Nat} {N : Nat → Nd} {a : Option Addr} {cap : Nat} (h : Rd w (ndsD m N) (.slice a m cap)) {c : Nat} (hc : c < m) :
    ∃ (b off : Nat) (an : Option Addr) (cn : Nat), a = some ⟨b, off, none⟩ ∧ (w.cell? ⟨b, off + c * 3, none⟩ = some (.int .i64 (N c).i) ∧ w.cell? ⟨b, off + c * 3 + 1, none⟩ = some (.int .i64 (N c).f) ∧ w.cell? ⟨b, off + c * 3 + 2, none⟩ = some (.slice an (N c).n cn)) ∧ w.rangeAt b (off + c * 3) [.int .i64 (N c).i, .int .i64 (N c).f, .slice an (N c).n cn] ∧ Rd w (slsD (N c).n (N c).S) (.slice an (N c).n cn) := by
  obtain ⟨b, off, y, ea, hy, hr⟩ := h.row hc
  have r2 : Rd w (slsD (N c).n (N c).S) (y 2) := hr 2 (by omega)
  obtain ⟨an, cn, e2⟩ := r2.shape
  rw [e2] at r2
  have g0 := hr 0 (by omega)
  have g1 := hr 1 (by omega)
  simp only [Rd, ndD] at g0 g1
  have c0 := hy 0 (by omega)
  have c1 := hy 1 (by omega)
  have c2 := hy 2 (by omega)
  rw [g0, ← Nat.add_assoc] at c0
  rw [g1, ← Nat.add_assoc] at c1
  rw [e2, ← Nat.add_assoc] at c2
  refine ⟨b, off, an, cn, ea, ⟨c0, c1, c2⟩, fun j v hv => ?_, r2⟩
  have hj : j < 3 := (List.getElem?_eq_some_iff.1 hv).1
  match j, hj with
  | 0, _ => rw [← hv]; exact c0
  | 1, _ => rw [← hv]; exact c1
  | 2, _ => rw [← hv]; exact c2
def wtN (d : Nd) : Nat := wtL d.n d.S
def wtNs (m : Nat) (N : Nat → Nd) : Nat := m + tot (fun i => wtN (N i)) m
theorem Tryd.infoNdLw : (Tryd.prog.info? 89).map (·.size) = some 3 := by kernel_rfl
set_option maxHeartbeats 4000000 in
theorem szNds_any (a : Option Addr) (n cap : Nat) (N : Nat → Nd) (l : Nat) (w : World) (h : Rd w (ndsD n N) (.slice a n cap)) (hl : l ≤ 1048576) (hn : n ≤ maxLen) (hL : ∀ i, i < n → NdB (N i)) :
    Calls Tryd.prog 24 #[.slice a n cap, .int .i64 (l : Int)] w fun e w' => e = .returned (.int .i64 (szN l (wtNs n N))) ∧ Below w.heap.size w w' := by
  unfold maxLen at hn
  by_cases h1 : n ≤ l
  · obtain ⟨d, hd⟩ : ∃ d, l - n = d := ⟨_, rfl⟩
    have hw : IntKind.i64.wrap ((l : Int) - (n : Int)) = (d : Int) := by rw [IntKind.wrap_i64]; omega
    have h0 : ¬ ((d : Int) < 0) := by omega
    have KL : Hid (∀ i, i < n → NdB (N i)) := hL
    have KH : Hid (Rd w (ndsD n N) (.slice a n cap)) := h
    clear hL h
    go_enter Tryd.func24, Tryd.ntmps24
    go_wp2
    go_loopw [1, 5] (fun p i wr => ∃ c q : Nat, c ≤ n ∧ q ≤ 1048576 ∧ Hid (tot (fun i => wtN (N i)) c + q = d) ∧ p = .int .i64 (q : Int) ∧ i = .int .i64 (c : Int) ∧ Below w.heap.size w wr) (fun _ i _ => n - (intOf i).toNat)
    case atStart => exact ⟨0, d, Nat.zero_le _, by omega, by show 0 + d = d; omega, rfl, rfl, Below.refl _ _⟩
    case round =>
      obtain ⟨c, q, hc, hq, HT, rfl, rfl, hbel⟩ := hrel
      clear hw h0
      by_cases hlt : c < n
      · obtain ⟨b1, f1, an, cn, rfl, _, R1', hr1⟩ := node_at (KH.out.below hbel) hlt
        have hti := tot_le (fun i => wtN (N i)) hlt
        have hlti : (c : Int) < (n : Int) := by omega
        have HT' := HT.out
        obtain ⟨lc, HLC⟩ : ∃ x, Hid (wtN (N c) = x) := ⟨_, rfl⟩
        have KTS : Hid (tot (fun i => wtN (N i)) (c + 1) = tot (fun i => wtN (N i)) c + lc) := by rw [← HLC.out]; rfl
        have hti' : tot (fun i => wtN (N i)) c + lc ≤ tot (fun i => wtN (N i)) n := by rw [← HLC.out]; exact hti
        have KZ : Hid (Calls Tryd.prog 40 #[.agg #[.int .i64 (N c).i, .int .i64 (N c).f, .slice an (N c).n cn], .int .i64 (q : Int)] wr fun e w' => e = .returned (.int .i64 (szN q lc)) ∧ Below wr.heap.size wr w') := by
          rw [← HLC.out]
          exact szNd_any (N c).i (N c).f an (N c).n cn (N c).S q wr hr1 hq (KL.out c hlt).n (KL.out c hlt).s
        have R1 : Hid (wr.rangeAt b1 (f1 + c * 3) [.int .i64 (N c).i, .int .i64 (N c).f, .slice an (N c).n cn]) := R1'
        have KB : Hid (Below w.heap.size w wr) := hbel
        clear hti R1' hr1 hbel
        by_cases h2 : lc ≤ q
        · obtain ⟨q', hq'⟩ : ∃ q', q - lc = q' := ⟨_, rfl⟩
          have h3 : ¬ ((q' : Int) < 0) := by omega
          have HT2 : Hid (tot (fun i => wtN (N i)) (c + 1) + q' = d) := by show _ = _; rw [KTS.out]; omega
          have hq2 : q' ≤ 1048576 := by omega
          rw [szN_yes h2, hq'] at KZ
          clear HT HT' hti' KTS
          go_wp2_with (refine wpList_load_mid (by rfl) 89 _ (by rfl) b1 (f1 + c * 3) (by rfl) [.int .i64 (N c).i, .int .i64 (N c).f, .slice an (N c).n cn] _ ?_ Tryd.underlying89 (by rfl) Tryd.infoNdLw ?_; exact R1.out)
          refine Calls.mono KZ.out ?_
          rintro e w1 ⟨rfl, bb⟩
          have KB1 : Hid (Below w.heap.size w w1) := below2 KB.out bb
          clear bb KZ R1
          go_wp2
          go_roundw
          case rel => exact ⟨c + 1, q', by omega, hq2, HT2, rfl, by go_num, KB1.out⟩
          case measure => simp [intOf] <;> omega
        · have HR : Hid (szN l (wtNs n N) = -1) := szN_no (by unfold wtNs; omega)
          rw [szN_no h2] at KZ
          clear HT HT' hti' KTS
          go_wp2_with (refine wpList_load_mid (by rfl) 89 _ (by rfl) b1 (f1 + c * 3) (by rfl) [.int .i64 (N c).i, .int .i64 (N c).f, .slice an (N c).n cn] _ ?_ Tryd.underlying89 (by rfl) Tryd.infoNdLw ?_; exact R1.out)
          refine Calls.mono KZ.out ?_
          rintro e w1 ⟨rfl, bb⟩
          have KB1 : Hid (Below w.heap.size w w1) := below2 KB.out bb
          clear bb KZ R1
          go_wp2
          go_ret
          exact ⟨ret_int HR.out.symm, KB1.out⟩
      · obtain rfl : c = n := by omega
        have HR : Hid (szN l (wtNs c N) = (q : Int)) := by
          have := HT.out
          have e : l - (c + tot (fun i => wtN (N i)) c) = q := by omega
          exact (szN_yes (by unfold wtNs; omega)).trans (by unfold wtNs; rw [e])
        clear KH
        go_wp2
        go_ret
        exact ⟨ret_int HR.out.symm, hbel⟩
  · have h0 : (l : Int) - (n : Int) < 0 := by omega
    have hw : IntKind.i64.wrap ((l : Int) - (n : Int)) = (l : Int) - (n : Int) := by rw [IntKind.wrap_i64]; omega
    have HR : Hid (szN l (wtNs n N) = -1) := szN_no (by unfold wtNs; omega)
    clear h hL
    go_enter Tryd.func24, Tryd.ntmps24
    go_wp2
    go_ret
    exact ⟨ret_int HR.out.symm, Below.refl _ _⟩
set_option maxHeartbeats 4000000 in
theorem eqNds_same (a b : Option Addr) (n ca cb : Nat) (N : Nat → Nd) (w : World) (ha : Rd w (ndsD n N) (.slice a n ca)) (hb : Rd w (ndsD n N) (.slice b n cb)) (hn : n ≤ 1048576) (hs : ∀ i, i < n → NdS (N i)) :
    Calls Tryd.prog 35 #[.slice a n ca, .slice b n cb] w fun e w' => e = .returned (.bool true) ∧ Below w.heap.size w w' := by
  have KH : Hid (Rd w (ndsD n N) (.slice a n ca) ∧ Rd w (ndsD n N) (.slice b n cb)) := ⟨ha, hb⟩
  have HS : Hid (∀ i, i < n → NdS (N i)) := hs
  have hnn : ((n : Int) != (n : Int)) = false := by simp
  clear ha hb hs
  go_enter Tryd.func35, Tryd.ntmps35
  go_wp2
  go_loopw [5] (fun vi wr => ∃ c : Nat, c ≤ n ∧ vi = .int .i64 (c : Int) ∧ Below w.heap.size w wr) (fun vi _ => n - (intOf vi).toNat)
  case atStart => exact ⟨0, Nat.zero_le _, rfl, Below.refl _ _⟩
  case round =>
    obtain ⟨c, hcn, rfl, hbel⟩ := hrel
    by_cases hlt : c < n
    · have hki : (c : Int) < (n : Int) := by omega
      obtain ⟨b1, f1, an, cn, rfl, ⟨x0, x1, x2⟩, _, hr1⟩ := node_at (KH.out.1.below hbel) hlt
      obtain ⟨b2, f2, am, cm, rfl, ⟨y0, y1, y2⟩, _, hr2⟩ := node_at (KH.out.2.below hbel) hlt
      have hsc := HS.out c hlt
      have KT : Hid (∀ W, Below wr.heap.size wr W → Calls Tryd.prog 46 #[.agg #[.int .i64 (N c).i, .int .i64 (N c).f, .slice an (N c).n cn], .agg #[.int .i64 (N c).i, .int .i64 (N c).f, .slice am (N c).n cm]] W fun e w' => e = .returned (.bool true) ∧ Below W.heap.size W w') := fun W hW => eqNd_same (N c).i (N c).f an am (N c).n cn cm (N c).S W (hr1.below hW) (hr2.below hW) hsc.n hsc.s
      have KS : Hid (∀ W, Below wr.heap.size wr W → W.cell? ⟨b1, f1 + c * 3, none⟩ = some (.int .i64 (N c).i) ∧ W.cell? ⟨b1, f1 + c * 3 + 1, none⟩ = some (.int .i64 (N c).f) ∧ W.cell? ⟨b1, f1 + c * 3 + 2, none⟩ = some (.slice an (N c).n cn) ∧ W.cell? ⟨b2, f2 + c * 3, none⟩ = some (.int .i64 (N c).i) ∧ W.cell? ⟨b2, f2 + c * 3 + 1, none⟩ = some (.int .i64 (N c).f) ∧ W.cell? ⟨b2, f2 + c * 3 + 2, none⟩ = some (.slice am (N c).n cm)) := fun W hW => ⟨(hW.cell (block_lt_of_cell x0)).trans x0, (hW.cell (block_lt_of_cell x1)).trans x1, (hW.cell (block_lt_of_cell x2)).trans x2, (hW.cell (block_lt_of_cell y0)).trans y0, (hW.cell (block_lt_of_cell y1)).trans y1, (hW.cell (block_lt_of_cell y2)).trans y2⟩
      have KB : Hid (Below w.heap.size w wr) := hbel
      have hdr := below_drew wr
      clear hr1 hr2 hbel hsc x0 x1 x2 y0 y1 y2
      go_wp2_with fail
      go_region_held3 (fun w' => w'.cell? ⟨b1, f1 + c * 3, none⟩ = some (.int .i64 (N c).i) ∧ w'.cell? ⟨b1, f1 + c * 3 + 1, none⟩ = some (.int .i64 (N c).f) ∧ w'.cell? ⟨b1, f1 + c * 3 + 2, none⟩ = some (.slice an (N c).n cn) ∧ w'.cell? ⟨b2, f2 + c * 3, none⟩ = some (.int .i64 (N c).i) ∧ w'.cell? ⟨b2, f2 + c * 3 + 1, none⟩ = some (.int .i64 (N c).f) ∧ w'.cell? ⟨b2, f2 + c * 3 + 2, none⟩ = some (.slice am (N c).n cm)) (exact KS.out _ (by assumption)) ((go_at_call 46; refine Calls.mono (KT.out _ hdr) ?_; rintro e w7 ⟨rfl, b7'⟩; have b7 := below_of_drew b7'; clear b7'))
      all_goals
        have HB7 : Hid (Below w.heap.size w w7) := below2 KB.out b7
        clear b7
        go_wp2
        go_roundw
        case rel => exact ⟨c + 1, by omega, by go_num, HB7.out⟩
        case measure => simp [intOf]; omega
    · go_wp2
      go_ret
      exact ⟨rfl, hbel⟩
/-- The zero value of a node. -/
def ndN : Nd := ⟨0, 0, 0, fun _ => slZ⟩
def zcN : List Value := [.int .i64 0, .int .i64 0, .slice none 0 0]
theorem Tryd.infoNdZ2 : (Tryd.prog.info? 98).map (fun i => (i.zero, i.size, i.bytes)) = some (some (.agg zcN.toArray), 3, 40) := by kernel_rfl
theorem ow_ndZ (w : World) (B q : Nat) (hq : q < 3) : Ow w B (ndD ndN q) (zcN.getD q undef) (fun _ => False) := by
  match q, hq with
  | 0, _ | 1, _ => rfl
  | 2, _ => exact Ow.nil _ _ _ _ _ _
/-- The cells of a node whose slots are ours. -/
theorem ow_node {w : World} {B : Nat} {d : Nd} {v : Value} {F : Nat → Prop} (h : Ow w B (slsD d.n d.S) v F) (q : Nat) (hq : q < 3) : Ow w B (ndD d q) ([Value.int .i64 d.i, .int .i64 d.f, v].getD q undef) (fun x => q = 2 ∧ F x) := by
  match q, hq with
  | 0, _ | 1, _ => rfl
  | 2, _ => exact Ow.mono h fun g hg => ⟨rfl, hg⟩
set_option maxHeartbeats 4000000 in
theorem toNds_any (a : Option Addr) (n cap : Nat) (N : Nat → Nd) (w : World) (h : Rd w (ndsD n N) (.slice a n cap)) (hn : n ≤ 1048576) (hs : ∀ i, i < n → NdS (N i)) :
    Calls Tryd.prog 28 #[.slice a n cap] w fun e w' => e = .returned (.slice (some ⟨w.heap.size, 0, none⟩) n n) ∧ Ow w' w.heap.size (ndsD n N) (.slice (some ⟨w.heap.size, 0, none⟩) n n) (rng w.heap.size w'.heap.size) ∧ Below w.heap.size w w' := by
  obtain ⟨i0, hi, hz0, hz1, hz2⟩ := info_parts Tryd.infoNdZ2
  have KH : Hid (Rd w (ndsD n N) (.slice a n cap)) := h
  have HS : Hid (∀ i, i < n → NdS (N i)) := hs
  clear h hs
  go_enter Tryd.func28, Tryd.ntmps28
  go_wp2_with (at_make; refine wpList_make_full _ rfl _ _ 33 rfl w.heap.size 98 i0 (.agg zcN.toArray) 3 Tryd.underlying33 hi hz0 hz1 .i64 .i64 _ _ n rfl rfl rfl rfl (by rw [hz2]; omega) (by unfold maxLen; omega) (Nat.le_refl _) ?_; intro w1 hown hgrow)
  have hb1 : Below w.heap.size w w1 := (Below.refl _ _).grown hgrow (Nat.le_refl _) (by simp)
  obtain ⟨g, HG⟩ : ∃ x, Hid (x = w.heap.size) := ⟨_, rfl⟩
  have ho1 : Ow w1 w.heap.size (.lst 98 3 n (fun i => if i < 0 then ndD (N i) else ndD ndN)) (.slice (some ⟨g, 0, none⟩) n n) (rng w.heap.size w1.heap.size) := by
    have e : (madeCells (Value.agg zcN.toArray).cells (n * 3)).toList = cL 3 (fun _ q => zcN.getD q undef) n := made_cL (zs := zcN) (by simp [zcN])
    rw [e] at hown
    rw [HG.out]
    have := ow_made (F := rng w.heap.size w1.heap.size) hown (fun q hq => ow_ndZ w1 w.heap.size q hq) ⟨Nat.le_refl _, (World.ownsRow.lt hown _ rfl).2⟩
    exact this.congr (fun i q _ _ => by simp)
  have gB : g = w.heap.size := HG.out
  rw [← HG.out]
  have HB : Hid (w.heap.size ≤ g) := by show _ ≤ _; omega
  clear hown hgrow gB
  go_loopw [4] (fun i wr => ∃ k : Nat, k ≤ n ∧ i = .int .i64 k ∧ Ow wr w.heap.size (.lst 98 3 n (fun i => if i < k then ndD (N i) else ndD ndN)) (.slice (some ⟨g, 0, none⟩) n n) (rng w.heap.size wr.heap.size) ∧ Below w.heap.size w wr) (fun i _ => n - (intOf i).toNat)
  case atStart => exact ⟨0, Nat.zero_le _, rfl, ho1, hb1⟩
  case round =>
    obtain ⟨c, hc, rfl, hown, hbel⟩ := hrel
    clear ho1 hb1
    by_cases hlt : c < n
    · have hlti : (c : Int) < (n : Int) := by omega
      obtain ⟨b1, f1, an, cn, rfl, _, R1', hr1⟩ := node_at (KH.out.below hbel) hlt
      have KT : Hid _ := toNd_any (N c).i (N c).f an (N c).n cn (N c).S wr hr1 (HS.out c hlt).n (HS.out c hlt).s
      have R1 : Hid (wr.rangeAt b1 (f1 + c * 3) [.int .i64 (N c).i, .int .i64 (N c).f, .slice an (N c).n cn]) := R1'
      have KO : Hid (Ow wr w.heap.size (.lst 98 3 n (fun i => if i < c then ndD (N i) else ndD ndN)) (.slice (some ⟨g, 0, none⟩) n n) (rng w.heap.size wr.heap.size) ∧ Below w.heap.size w wr) := ⟨hown, hbel⟩
      have lg : g < wr.heap.size := by
        obtain ⟨a', cap', c', G', e', ho', _⟩ := hown
        cases e'
        exact (World.ownsRow.lt ho' g rfl).2
      clear R1' hr1 hbel hown
      go_wp2_with (refine wpList_load_mid (by rfl) 89 _ (by rfl) b1 (f1 + c * 3) (by rfl) [.int .i64 (N c).i, .int .i64 (N c).f, .slice an (N c).n cn] _ ?_ Tryd.underlying89 (by rfl) Tryd.infoNdLw ?_; exact R1.out)
      refine Calls.mono KT.out ?_
      rintro e w2 ⟨gs, rfl, o2, b2⟩
      have O2 := KO.out.1.below b2
      have TH : Hid (w2.there g (c * 3) 3) := by
        obtain ⟨a', cap', c', G', e', ho', _⟩ := O2
        cases e'
        intro j hj
        refine ⟨?_, World.ownsRow.frozenAt ho' _⟩
        rw [World.ownsRow.cellAt ho' _ (mid_lt hlt hj), cL_get _ _ _ _ _ hlt hj]
        rfl
      have hsz := KO.out.2.size
      have HO : Hid (Ow (w2.setCells g (c * 3) [Value.int .i64 (N c).i, .int .i64 (N c).f, .slice (some ⟨gs, 0, none⟩) (N c).n (N c).n]) w.heap.size (.lst 98 3 n (fun i => if i < c + 1 then ndD (N i) else ndD ndN)) (.slice (some ⟨g, 0, none⟩) n n) (rng w.heap.size (w2.setCells g (c * 3) [Value.int .i64 (N c).i, .int .i64 (N c).f, .slice (some ⟨gs, 0, none⟩) (N c).n (N c).n]).heap.size)) := by
        rw [size_setCells]
        refine Ow.congr (Ow.store (d := ndD (N c)) O2 hlt rfl (fun q hq => ow_node (o2.base hsz) q hq) ?_ ?_ ?_ ?_) ?_
        · intro q x _ hx hf
          have h2 := hf.2
          have h3 := hx.2.1
          omega
        · intro q q' x _ _ hx hx'
          exact hx.1.trans hx'.1.symm
        · intro x hx
          have := b2.size
          exact ⟨hx.1, by have := hx.2; omega⟩
        · intro q x _ hx
          have h3 := hx.2
          exact ⟨by have := h3.1; omega, h3.2⟩
        · intro i q _ _
          by_cases e : i = c
          · subst e; simp
          · by_cases e2 : i < c
            · simp [e, e2, show i < c + 1 by omega]
            · simp [e, e2, show ¬ i < c + 1 by omega]
      have HBe : Hid (Below w.heap.size w (w2.setCells g (c * 3) [Value.int .i64 (N c).i, .int .i64 (N c).f, .slice (some ⟨gs, 0, none⟩) (N c).n (N c).n])) := below_setCells (below2 KO.out.2 b2) HB.out _ _
      clear O2 b2 o2 KT R1 KO
      go_wp2_with (refine wpList_store_mid (by rfl) 98 _ _ (by rfl) g (c * 3) ([Value.int .i64 (N c).i, .int .i64 (N c).f, .slice (some ⟨gs, 0, none⟩) (N c).n (N c).n]).toArray (by rfl) (by rfl) ?_ Tryd.infoNd (by simp [Value.oneCell']) ?_; exact TH.out)
      go_roundw
      case rel => exact ⟨c + 1, by omega, by go_num, HO.out, HBe.out⟩
      case measure => simp [intOf]; omega
    · obtain rfl : c = n := by omega
      have HO : Hid (Ow wr w.heap.size (ndsD c N) (.slice (some ⟨g, 0, none⟩) c c) (rng w.heap.size wr.heap.size)) := hown.congr (fun i q hi _ => by simp [hi])
      clear hown
      go_wp2
      go_ret
      exact ⟨by rw [← HG.out]; rfl, by rw [← HG.out]; rw [HG.out]; have := HO.out; rw [HG.out] at this; exact this, hbel⟩
end Go.Proofs.YtkcnpkkihbpnmaaDoor
