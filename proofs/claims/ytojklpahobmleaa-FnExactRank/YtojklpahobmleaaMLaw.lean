/- The laws' own helpers over matrices of whole numbers: a copy holds the same numbers in new memory; two that hold the same are told equal; marks; how much there is. Conditions: at most 2^20 rows, at most 2^20 numbers a row. -/
import Derived.Test.YtojklpahobmleaaMats
namespace Go.Proofs.Ytojklpahobmleaa
open Go.ChangeShapes Go.WideShapes Go.ChangeAt Go.RowKit

theorem Try.infoInts : (Try.prog.info? 31).map (fun i => (i.zero, i.size, i.bytes)) = some (some (.slice none 0 0), 1, 24) := by kernel_rfl
theorem own_base {w : World} {B B' e s n : Nat} {v : Value} {xs : List Value} (h : w.ownsRow B e s v n xs) (hB : B' ≤ B) : w.ownsRow B' e s v n xs := by
  refine ⟨h.1, ?_⟩
  rcases h.2 with h' | ⟨g, cap, cur, h1, h2, h3⟩
  · exact .inl h'
  · exact .inr ⟨g, cap, cur, h1, by omega, h3⟩
/-- A matrix of whole numbers of ours. -/
abbrev MatI (w : World) (B E : Nat) (a : Option Addr) (n cap : Nat) (A : Nat → Option Addr) (L C : Nat → Nat) (Z : Nat → Nat → Int) : Prop := MatZ .i64 3 31 w B E a n cap A L C Z
theorem tiNe : (3 : Nat) ≠ 31 := by decide
set_option maxHeartbeats 1000000 in
theorem toSS_any (a : Option Addr) (n cap : Nat) (L : Nat → Nat) (Z : Nat → Nat → Int) (w : World) (h : MatAt w a n L Z) (hn : n ≤ 1048576) (hL : ∀ i, i < n → L i ≤ 1048576) :
    Calls Try.prog 35 #[.slice a n cap] w fun e w' => e = .returned (.slice (some ⟨w.heap.size, 0, none⟩) n n) ∧ (∃ A, MatI w' w.heap.size w'.heap.size (some ⟨w.heap.size, 0, none⟩) n n A L L Z) ∧ Below w.heap.size w w' := by
  obtain ⟨i0, hi, hz0, hz1, hz2⟩ := info_parts Try.infoInts
  go_enter Try.func35, Try.ntmps35
  go_wp2_with (at_make; refine wpList_make_full _ rfl _ _ 24 rfl w.heap.size 31 i0 (.slice none 0 0) 1 Try.underlying24 hi hz0 hz1 .i64 .i64 _ _ n rfl rfl rfl rfl (by rw [hz2]; omega) (by unfold maxLen; omega) (Nat.le_refl _) ?_; intro w1 hown hgrow)
  have hb1 : Below w.heap.size w w1 := (Below.refl _ _).grown hgrow (Nat.le_refl _) (by simp)
  have hlt1 := (World.ownsRow.lt hown _ rfl).2
  have ho1 : MatI w1 w.heap.size w1.heap.size (some ⟨w.heap.size, 0, none⟩) n n (fun _ => none) (fun i => if i < 0 then L i else 0) (fun i => if i < 0 then L i else 0) Z :=
    (MatZ.made (by simpa [Value.cells, toList_madeCells_one] using hown) hlt1 Z).congr (fun i _ => ⟨rfl, by simp, by simp, fun j hj => rfl⟩)
  clear hown hgrow hlt1
  go_loopw [4] (fun i wr => ∃ k A, k ≤ n ∧ i = .int .i64 ((k : Nat) : Int) ∧ MatI wr w.heap.size wr.heap.size (some ⟨w.heap.size, 0, none⟩) n n A (fun i => if i < k then L i else 0) (fun i => if i < k then L i else 0) Z ∧ (∀ i, k ≤ i → A i = none) ∧ Below w.heap.size w wr) (fun i _ => n - (intOf i).toNat)
  case atStart => exact ⟨0, _, Nat.zero_le _, rfl, ho1, fun _ _ => rfl, hb1⟩
  case round =>
    obtain ⟨k, A, hk, rfl, hown, hAn, hbel⟩ := hrel
    clear ho1 hb1
    by_cases hlt : k < n
    · obtain ⟨b, off, ai, ci, rfl, hc, hr⟩ := h.below hbel k hlt
      have hLk := hL k hlt
      have hlti : (k : Int) < (n : Int) := by omega
      have HK := hAn
      have KA : Hid _ := hAn
      clear hAn h HK
      obtain ⟨l, hl⟩ : ∃ l, L k = l := ⟨_, rfl⟩
      rw [hl] at hc hr hLk
      have KL : Hid _ := hL
      clear hL
      go_wp2_with fail
      refine (toIntS_any ai l ci _ _ hr hLk).mono ?_
      rintro e w2 ⟨rfl, ho2, hb2⟩
      have hM := (hown.below hb2).wide hb2.size
      have hold := hM.hdr hlt
      have hfr := hM.ofree k
      have hbel2 := below2 hbel hb2
      have hg2 := (World.ownsRow.lt ho2 _ rfl).2
      have hlw := hb2.size
      have hSR := hM.setRow tiNe hlt (own_base ho2 hbel.size) hg2 (fun j hj _ x ex => by have := hown.rE j hj x ex; exact Nat.ne_of_lt this)
      have HS : Hid (MatI (w2.setCell ⟨w.heap.size, k, none⟩ (.slice (some ⟨wr.heap.size, 0, none⟩) l l)) w.heap.size (w2.setCell ⟨w.heap.size, k, none⟩ (.slice (some ⟨wr.heap.size, 0, none⟩) l l)).heap.size (some ⟨w.heap.size, 0, none⟩) n n (fun i => if i = k then some ⟨wr.heap.size, 0, none⟩ else A i) (fun i => if i < k + 1 then L i else 0) (fun i => if i < k + 1 then L i else 0) Z) :=
        (hSR.1.wide hSR.2.size).congr (fun i _ => by
          by_cases e : i = k
          · subst e; simp [hl]
          · by_cases e2 : i < k
            · simp [e, e2, show i < k + 1 by omega]
            · simp [e, e2, show ¬ i < k + 1 by omega])
      have HB : Hid (Below w.heap.size w (w2.setCell ⟨w.heap.size, k, none⟩ (.slice (some ⟨wr.heap.size, 0, none⟩) l l))) := hbel2.setCell (Nat.le_refl _) _
      clear hM hown ho2 hb2 hbel hr hSR
      go_wp2
      go_roundw
      case rel => exact ⟨k + 1, _, by omega, by go_num, HS.out, fun i hi => by simp [show i ≠ k by omega, KA.out i (by omega)], HB.out⟩
      case measure => simp [intOf] <;> omega
    · obtain rfl : k = n := by omega
      go_wp2
      go_ret
      exact ⟨rfl, ⟨A, hown.congr (fun i hi => ⟨rfl, if_pos hi, if_pos hi, fun j _ => rfl⟩)⟩, hbel⟩

set_option maxHeartbeats 1000000 in
theorem eqSS_same (a b : Option Addr) (n ca cb : Nat) (L : Nat → Nat) (Z : Nat → Nat → Int) (w : World) (ha : MatAt w a n L Z) (hb : MatAt w b n L Z) (hn : n ≤ 1048576) (hL : ∀ i, i < n → L i ≤ 1048576) :
    Calls Try.prog 36 #[.slice a n ca, .slice b n cb] w fun e w' => e = .returned (.bool true) ∧ Below w.heap.size w w' := by
  go_enter Try.func36, Try.ntmps36
  go_wp2
  go_loopw [5] (fun i wr => ∃ k : Nat, k ≤ n ∧ i = .int .i64 k ∧ Below w.heap.size w wr) (fun i _ => n - (intOf i).toNat)
  case atStart => exact ⟨0, Nat.zero_le _, rfl, Below.refl _ _⟩
  case round =>
    obtain ⟨k, hk, rfl, hbel⟩ := hrel
    have ha' := ha.below hbel
    have hb' := hb.below hbel
    clear ha hb
    by_cases hlt : k < n
    · obtain ⟨ba, oa, ai, ci, rfl, hca, hra⟩ := ha' k hlt
      obtain ⟨bb, ob, bi, di, rfl, hcb, hrb⟩ := hb' k hlt
      have hLk := hL k hlt
      have hlti : (k : Int) < (n : Int) := by omega
      clear ha' hb' hL
      generalize L k = l at *
      generalize zI (Z k) l = zs at hra hrb
      go_wp2_with fail
      go_region_with ((go_at_call 41; refine (eqIntS_same _ _ _ _ _ zs _ (hra.below (below_drewN (Below.refl _ _) _)) (hrb.below (below_drewN (Below.refl _ _) _)) hLk).mono ?_; rintro e w1 ⟨rfl, hb1'⟩; have hb1 := below_of_drew hb1'; clear hb1'))
      all_goals
        go_wp2
        go_roundw
        case rel => exact ⟨k + 1, by omega, by go_num, below2 hbel hb1⟩
        case measure => simp [intOf] <;> omega
    · go_wp2
      go_ret
      exact ⟨rfl, hbel⟩

set_option maxHeartbeats 400000 in
theorem szS_any (a : Option Addr) (n cap : Nat) (l : Nat) (w : World) (hl : l ≤ 1048576) (hn : n ≤ maxLen) :
    Calls Try.prog 73 #[.slice a n cap, .int .i64 (l : Int)] w fun e w' => e = .returned (.int .i64 (if n ≤ l then ((l - n : Nat) : Int) else -1)) ∧ w' = w := by
  unfold maxLen at hn
  by_cases h : n ≤ l
  · obtain ⟨d, hd⟩ : ∃ d, l - n = d := ⟨_, rfl⟩
    have hw : IntKind.i64.wrap ((l : Int) - (n : Int)) = (d : Int) := by rw [IntKind.wrap_i64]; omega
    have h0 : ¬ ((d : Int) < 0) := by omega
    rw [hd, if_pos h]
    go_enter Try.func73, Try.ntmps73
    go_wp2
    go_ret
    exact ⟨rfl, rfl⟩
  · have h0 : (l : Int) - (n : Int) < 0 := by omega
    have hw : IntKind.i64.wrap ((l : Int) - (n : Int)) = (l : Int) - (n : Int) := by rw [IntKind.wrap_i64]; omega
    rw [if_neg h]
    go_enter Try.func73, Try.ntmps73
    go_wp2
    go_ret
    exact ⟨rfl, rfl⟩
/-- What is left of 'l' behind 'n' rows, or that it is too little. -/
def szF (L : Nat → Nat) (n l : Nat) : Int := if n + tot L n ≤ l then ((l - (n + tot L n) : Nat) : Int) else -1
set_option maxHeartbeats 1000000 in
theorem szSS_any (a : Option Addr) (n cap : Nat) (L : Nat → Nat) (Z : Nat → Nat → Int) (l : Nat) (w : World) (h : MatAt w a n L Z) (hl : l ≤ 1048576) (hn : n ≤ maxLen) (hL : ∀ i, i < n → L i ≤ maxLen) :
    Calls Try.prog 34 #[.slice a n cap, .int .i64 (l : Int)] w fun e w' => e = .returned (.int .i64 (szF L n l)) ∧ w' = w := by
  unfold maxLen at hn
  by_cases h1 : n ≤ l
  · obtain ⟨d, hd⟩ : ∃ d, l - n = d := ⟨_, rfl⟩
    have hw : IntKind.i64.wrap ((l : Int) - (n : Int)) = (d : Int) := by rw [IntKind.wrap_i64]; omega
    have h0 : ¬ ((d : Int) < 0) := by omega
    have KL : Hid _ := hL
    clear hL
    go_enter Try.func34, Try.ntmps34
    go_wp2
    go_loop [1, 5] (fun p i => ∃ c q : Nat, c ≤ n ∧ q ≤ 1048576 ∧ Hid (tot L c + q = d) ∧ p = .int .i64 (q : Int) ∧ i = .int .i64 (c : Int)) (fun _ i => n - (intOf i).toNat)
    case atStart => exact ⟨0, d, Nat.zero_le _, by omega, by show 0 + d = d; omega, rfl, rfl⟩
    case round =>
      obtain ⟨c, q, hc, hq, HT, rfl, rfl⟩ := hrel
      clear hw h0
      by_cases hlt : c < n
      · obtain ⟨b, off, ai, ci, rfl, hcell, _⟩ := h c hlt
        have hLc := KL.out c hlt
        have hti := tot_le L hlt
        have hlti : (c : Int) < (n : Int) := by omega
        clear h
        by_cases h2 : L c ≤ q
        · have h3 : ¬ (((q - L c : Nat) : Int) < 0) := by omega
          have hS := fun w => szS_any ai (L c) ci q w hq hLc
          rw [if_pos h2] at hS
          obtain ⟨q', hq'⟩ : ∃ q', q - L c = q' := ⟨_, rfl⟩
          rw [hq'] at hS h3
          have HT2 : Hid (tot L (c + 1) + q' = d) := by
            have := HT.out
            show tot L c + L c + q' = d
            omega
          have hq2 : q' ≤ 1048576 := by omega
          clear hti hLc HT
          generalize L c = lc at hcell hS
          go_wp2_with (go_at_call 73; refine (hS _).mono ?_; rintro e w' ⟨rfl, hw⟩; obtain rfl := hw.symm)
          go_round
          case rel => exact ⟨c + 1, q', by omega, hq2, HT2, rfl, by go_num⟩
          case measure => simp [intOf] <;> omega
        · have hS := fun w => szS_any ai (L c) ci q w hq hLc
          rw [if_neg h2] at hS
          have HR : Hid (szF L n l = -1) := by
            have := HT.out
            show _ = _
            unfold szF
            rw [if_neg (by omega)]
          clear hti hLc HT h2
          generalize L c = lc at hcell hS
          go_wp2_with (go_at_call 73; refine (hS _).mono ?_; rintro e w' ⟨rfl, hw⟩; obtain rfl := hw.symm)
          go_ret
          exact ⟨ret_int HR.out.symm, rfl⟩
      · obtain rfl : c = n := by omega
        have HR : Hid (szF L c l = (q : Int)) := by
          have := HT.out
          show _ = _
          unfold szF
          rw [if_pos (by omega)]
          omega
        clear h
        go_wp2
        go_ret
        exact ⟨ret_int HR.out.symm, rfl⟩
  · have h0 : (l : Int) - (n : Int) < 0 := by omega
    have hw : IntKind.i64.wrap ((l : Int) - (n : Int)) = (l : Int) - (n : Int) := by rw [IntKind.wrap_i64]; omega
    have HR : Hid (szF L n l = -1) := by show _ = _; unfold szF; rw [if_neg (by omega)]
    clear h hL
    go_enter Try.func34, Try.ntmps34
    go_wp2
    go_ret
    exact ⟨ret_int HR.out.symm, rfl⟩

theorem TurnM.wide {w w' : World} {B E b e : Nat} (h : TurnM w w' b e) (hb : B ≤ b) (he : e ≤ E) : TurnM w w' B E := ⟨h.os, h.tape, h.output, h.size, fun j hj hr => h.block j hj (by omega)⟩
theorem own_turn2 {w w' : World} {B b e0 e s n l c : Nat} {a : Option Addr} {xs : List Value} (h : w.ownsRow B e s (.slice a l c) n xs) (ht : TurnM w w' b e0) (hx : ∀ x, a = some x → ¬ (b ≤ x.block ∧ x.block < e0)) : w'.ownsRow B e s (.slice a l c) n xs := by
  refine ⟨h.1, ?_⟩
  rcases h.2 with h' | ⟨g, cap, cur, h1, h2, h3, h4⟩
  · exact .inl h'
  · refine .inr ⟨g, cap, cur, h1, h2, ?_, h4⟩
    cases h1
    have := hx _ rfl
    rw [ht.block g (Array.getElem?_eq_some_iff.1 h3).1 (by simp at this; omega)]
    exact h3
/-- The marks of a matrix from 'k' on. -/
def mkZ (L : Nat → Nat) (k i j : Nat) : Int := ((k + tot L i + j : Nat) : Int)
theorem marks_zI (k n : Nat) : marks k n = zI (fun j => ((k + j : Nat) : Int)) n := rfl
set_option maxHeartbeats 1000000 in
theorem markSS_any (B E : Nat) (a : Option Addr) (n cap : Nat) (A : Nat → Option Addr) (L C : Nat → Nat) (Z : Nat → Nat → Int) (k q : Nat) (w : World) (h : MatI w B E a n cap A L C Z) (hn : n ≤ 1048576) (hL : tot L n ≤ 1048576) (hk : k ≤ 5000000) (hq : k + tot L n = q) :
    Calls Try.prog 38 #[.slice a n cap, .int .i64 (k : Int)] w fun e w' => e = .returned (.int .i64 (q : Int)) ∧ MatI w' B E a n cap A L C (mkZ L k) ∧ TurnM w w' B E := by
  have H0 : Hid (MatI w B E a n cap A L C Z) := h
  clear h
  go_enter Try.func38, Try.ntmps38
  go_wp2
  go_loopw [1, 5] (fun p i wr => ∃ c p' : Nat, c ≤ n ∧ Hid (k + tot L c = p') ∧ p = .int .i64 (p' : Int) ∧ i = .int .i64 (c : Int) ∧ MatI wr B E a n cap A L C (fun i j => if i < c then mkZ L k i j else Z i j) ∧ TurnM w wr B E) (fun _ i _ => n - (intOf i).toNat)
  case atStart => exact ⟨0, k, Nat.zero_le _, by show k + 0 = k; omega, rfl, rfl, H0.out, TurnM.refl _ _ _⟩
  case round =>
    obtain ⟨c, p', hc, HP, rfl, rfl, hM, hT⟩ := hrel
    clear H0
    by_cases hlt : c < n
    · obtain ⟨G, rfl⟩ := hM.addr (by omega)
      have hcell := hM.hdr hlt
      have hti := tot_le L hlt
      have hlti : (c : Int) < (n : Int) := by omega
      obtain ⟨b0, e0, hb0, he0, hj0, hrow⟩ : ∃ b0 e0, B ≤ b0 ∧ e0 ≤ E ∧ (∀ j, b0 ≤ j → j < e0 → A c = some ⟨j, 0, none⟩) ∧ Row wr b0 e0 (A c) (L c) (C c) (zI (fun j => (fun i j => if i < c then mkZ L k i j else Z i j) c j) (L c)) := by
        have hr := hM.row c hlt
        rcases own_shape hr with ⟨hA, h1, h2⟩ | ⟨g, cur, hA, hBg, hg, hcap⟩
        · refine ⟨B, B, Nat.le_refl _, ?_, fun j h1 h2 => by omega, ?_, (zI_len _ _).symm, by omega, fun x ex => by rw [hA] at ex; cases ex⟩
          · have := hM.oE _ rfl
            have := hM.olt.1
            exact Nat.le_of_lt (Nat.lt_of_le_of_lt this (by assumption))
          · unfold OwnI; rw [zI_len]; exact hr
        · have hgE := hM.rE c hlt _ hA
          refine ⟨g, g + 1, hBg, hgE, fun j h1 h2 => by rw [hA, show j = g by omega], ?_, (zI_len _ _).symm, hcap, fun x ex => ?_⟩
          · unfold OwnI
            rw [zI_len]
            rw [hA] at hr ⊢
            refine ⟨hr.1, ?_⟩
            rcases hr.2 with ⟨h', _⟩ | ⟨g', cap', cur', h1, h2, h3⟩
            · cases h'
            · cases h1
              exact .inr ⟨g, _, cur', rfl, Nat.le_refl _, h3⟩
          · rw [hA] at ex
            cases ex
            exact ⟨Nat.le_refl _, Nat.lt_succ_self _⟩
      have hp1 : p' ≤ 10000000 := by have := HP.out; omega
      have hl1 : L c ≤ 1048576 := by omega
      have KM : Hid _ := hM
      have KT : Hid (TurnM w wr B E) := hT
      clear hM hT
      obtain ⟨lc, hlc⟩ : ∃ lc, L c = lc := ⟨_, rfl⟩
      obtain ⟨Ac, hAc⟩ : ∃ Ac, A c = Ac := ⟨_, rfl⟩
      obtain ⟨Cc, hCc⟩ : ∃ Cc, C c = Cc := ⟨_, rfl⟩
      rw [hlc, hAc, hCc] at hcell hrow
      rw [hlc] at hl1 hti
      obtain ⟨p2, hp2⟩ : ∃ p2, p' + lc = p2 := ⟨_, rfl⟩
      go_wp2_with fail
      refine (mark_q b0 e0 Ac lc Cc p' p2 _ _ hrow hl1 hp1 hp2).mono ?_
      rintro e w2 ⟨rfl, hR, hT2⟩
      have HM2 : Hid (MatI w2 B E (some ⟨G, 0, none⟩) n cap A L C (fun i j => if i < c + 1 then mkZ L k i j else Z i j)) := by
        have hM := KM.out
        have hT := hT2.m
        refine ⟨own_turn2 hM.out hT (fun x ex hx => ?_), hM.oE, fun i hi => ?_, hM.rE, hM.apart⟩
        · cases ex
          exact hM.off tiNe hlt (hj0 _ hx.1 hx.2) rfl
        · by_cases e : i = c
          · subst e
            have h1 := hR.1
            unfold OwnI at h1
            rw [marks_zI, zI_len] at h1
            rw [hlc, hAc, hCc]
            have h2 := HP.out
            rw [zI_congr (g := fun j => ((p' + j : Nat) : Int)) (fun j _ => by rw [if_pos (by omega)]; unfold mkZ; congr 1; omega)]
            exact own_base h1 hb0
          · rw [zI_congr (g := fun j => if i < c then mkZ L k i j else Z i j) (fun j _ => by
              by_cases e2 : i < c
              · rw [if_pos (by omega), if_pos e2]
              · rw [if_neg (by omega), if_neg e2])]
            refine own_turn2 (hM.row i hi) hT (fun x ex hx => ?_)
            exact hM.apart i c hi hlt e x _ ex (hj0 _ hx.1 hx.2) rfl
      clear KM hR
      go_wp2
      go_roundw
      case rel => exact ⟨c + 1, p2, by omega, by have := HP.out; show k + (tot L c + L c) = p2; omega, rfl, by go_num, HM2.out, KT.out.trans (hT2.m.wide hb0 he0)⟩
      case measure => simp [intOf] <;> omega
    · obtain rfl : c = n := by omega
      have HP' := HP.out
      obtain rfl : p' = q := by omega
      have HM : Hid _ := hM
      have HT : Hid (TurnM w wr B E) := hT
      clear hM hT
      go_wp2
      go_ret
      exact ⟨rfl, HM.out.congr (fun i hi => ⟨rfl, rfl, rfl, fun j _ => if_pos hi⟩), HT.out⟩
end Go.Proofs.Ytojklpahobmleaa
