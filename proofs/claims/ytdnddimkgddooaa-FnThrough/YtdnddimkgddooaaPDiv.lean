/- The program's division of polynomials: what the quotient and the rest are, and where they lie. Conditions: byte numbers, the divisor's last number not 0, lists of at most 2^20 numbers. -/
import Derived.Test.YtdnddimkgddooaaElsC
import Derived.Test.YtdnddimkgddooaaDraw
namespace Go.Proofs.Ytdnddimkgddooaa
open Go.ChangeShapes Go.WideShapes Go.ChangeAt Go.RowKit

theorem add_none (b j : Nat) : (⟨b, 0, none⟩ : Addr).add j = ⟨b, j, none⟩ := by unfold Addr.add; split <;> simp_all
theorem Els.news {w : World} {b n cap : Nat} {f : Nat → Nat} (h : Els w (some ⟨b, 0, none⟩) n cap f) : ∀ j u, ((eI f n).map (Value.int .u8))[j]? = some u → w.cell? ((⟨b, 0, none⟩ : Addr).add j) = some u := by
  intro j u hu
  rw [add_none]
  by_cases hj : j < n
  · obtain ⟨b', e, hc⟩ := h.at (i := j) hj
    cases e
    rw [hc]
    simpa [eI, hj] using hu
  · rw [List.getElem?_eq_none (by simp [eI_len]; omega)] at hu
    cases hu
theorem one_cell {d : IntKind} {xs : List Int} : ∀ u ∈ xs.map (Value.int d), u.oneCell' = true := by
  intro u hu
  obtain ⟨x, _, rfl⟩ := List.mem_map.1 hu
  rfl
theorem els_of_owns {w : World} {B n : Nat} {v : Value} {f : Nat → Nat} (h : w.ownsRow B 49 1 v n ((eI f n).map (Value.int .u8))) : ∃ ar cr, v = .slice ar n cr ∧ Els w ar n cr f := by
  rcases h.2 with ⟨e, hn⟩ | ⟨g, cap, cur, e, _⟩
  · subst hn; exact ⟨none, 0, e, Els.nil _ _⟩
  · subst e
    exact ⟨_, _, rfl, OwnU.els (B := B) h⟩

set_option maxHeartbeats 1000000 in
theorem divided_short (a : Option Addr) (n cap : Nat) (f : Nat → Nat) (b : Option Addr) (nb cb : Nat) (w : World) (h : Els w a n cap f) (hlt : n < nb) (hn : nb ≤ 1048576) :
    Calls Try.prog 37 #[.slice a n cap, .slice b nb cb] w fun e w' => ∃ ar cr, e = .returned (.tuple #[.slice none 0 0, .slice ar n cr]) ∧ Els w' ar n cr f ∧ Below w.heap.size w w' := by
  obtain ⟨i0, hi, hz0, hz1, hz2⟩ := info_parts Try.infoElem
  have hltI : (n : Int) < (nb : Int) := by omega
  rcases h.2 with ⟨rfl, rfl, rfl⟩ | ⟨b1, rfl, hl, hc⟩
  · clear h
    go_enter Try.func37, Try.ntmps37
    go_wp2_with (at_builtin; refine wpList_append_own_none _ rfl _ _ 37 rfl w.heap.size 49 i0 (.int .u8 0) 1 1 Try.underlying37 hi hz0 hz1 hz2 rfl (by decide) _ _ _ rfl (World.ownsRow_nil w _ _ _) ?_)
    go_ret2
    exact ⟨_, _, rfl, Els.nil _ _, Below.refl _ _⟩
  · have hne := h.news
    clear h hc
    go_enter Try.func37, Try.ntmps37
    go_wp2_with (at_builtin; refine wpList_append_own _ rfl _ _ 37 rfl w.heap.size 49 i0 (.int .u8 0) 1 1 Try.underlying37 hi hz0 hz1 hz2 rfl (by decide) (.slice none 0 0) 0 [] rfl (World.ownsRow_nil w _ _ _) ⟨b1, 0, none⟩ n cap ((eI f n).map (Value.int .u8)) rfl (by simp [eI_len]) hne one_cell (by unfold maxLen; omega) (by omega) (Nat.le_refl _) ?_; intro v' w1 hown hgrow hnil)
    rw [Nat.zero_add, List.nil_append] at hown
    have hb1 : Below w.heap.size w w1 := (Below.refl _ _).grown (show w.grownBy w1 none from hgrow) (Nat.le_refl _) (by simp)
    obtain ⟨ar, cr, rfl, he⟩ := els_of_owns hown
    clear hown hgrow hnil hne
    go_wp2
    go_ret2
    exact ⟨_, _, rfl, he, hb1⟩

set_option maxHeartbeats 400000 in
theorem divided_long (a : Option Addr) (n cap : Nat) (f : Nat → Nat) (b : Option Addr) (nb cb : Nat) (d : Nat → Nat) (w : World) (h : Els w a n cap f) (hd : Els w b nb cb d) (hle : nb ≤ n) (hnb : 0 < nb) (hn : n ≤ 1048576)
    (hf : ∀ i, f i < 256) (hdd : Gp.Pol d nb) :
    Calls Try.prog 37 #[.slice a n cap, .slice b nb cb] w fun e w' => ∃ gq gr cr, e = .returned (.tuple #[.slice (some ⟨gq, 0, none⟩) (n - nb + 1) (n - nb + 1), .slice (some ⟨gr, 0, none⟩) n cr]) ∧
      OwnU w' w.heap.size gq (n - nb + 1) (n - nb + 1) (Gp.dq f d (Gf.inv (d (nb - 1))) nb (n - nb + 1) (n - nb + 1)) ∧ OwnU w' w.heap.size gr n cr (Gp.dr f d (Gf.inv (d (nb - 1))) nb (n - nb + 1) (n - nb + 1)) ∧ Below w.heap.size w w' := by
  obtain ⟨i0, hi, hz0, hz1, hz2⟩ := info_parts Try.infoElem
  obtain ⟨b1, rfl, hc1⟩ := h.at (i := 0) (by omega)
  obtain ⟨b2, rfl, hc2⟩ := hd.at (i := nb - 1) (by omega)
  have hne := h.news
  have hinv := Gf.inv_lt (d (nb - 1))
  have hdl := hdd.1 (nb - 1)
  obtain ⟨T, hT⟩ : ∃ T, n - nb + 1 = T := ⟨_, rfl⟩
  have hTI : (n : Int) - (nb : Int) + 1 = (T : Int) := by omega
  have hT0 : (0 : Int) < (T : Int) := by omega
  have hnbI : (nb : Int) - 1 = ((nb - 1 : Nat) : Int) := by omega
  have hnb2 : ((nb - 1 : Nat) : Int) < (nb : Int) := by omega
  rw [hT]
  have HT : Hid (n - nb + 1 = T) := hT
  clear hc1 hT
  generalize hL : Gf.inv (d (nb - 1)) = lead at *
  have hdn := hdd.2
  go_enter Try.func37, Try.ntmps37
  go_wp2_with (first | (at_builtin; refine wpList_append_lies _ (by rfl) _ _ 37 (by rfl) w.heap.size 49 i0 (.int .u8 0) 1 1 Try.underlying37 hi hz0 hz1 hz2 rfl (by decide) (.slice none 0 0) 0 [] (by rfl) (World.ownsRow_nil w _ _ _) ⟨b1, 0, none⟩ n cap ((eI f n).map (Value.int .u8)) (by rfl) (by simp [eI_len]) hne one_cell (by omega) (by unfold maxLen; omega) (by omega) (Nat.le_refl _) w.heap.size rfl ?_; intro gr cr w1 hown1 hgrow1 hat hltg) | (at_make; refine wpList_make_full _ rfl _ _ 37 rfl w.heap.size 49 i0 (.int .u8 0) 1 Try.underlying37 hi hz0 hz1 .i64 .i64 _ _ T rfl rfl (by first | rfl | omega) (by first | rfl | omega) (by rw [hz2]; omega) (by unfold maxLen; omega) hgrow1.size ?_; intro w2 hown hgrow; have hc3 := hgrow.cell ((show w.grownBy w1 none from hgrow1).cell hc2 (by simp)) (by simp)) | (go_at_call 54; refine (inverse_any (d (nb - 1)) _ hdl).mono ?_; rintro e w3 ⟨rfl, hb3⟩))
  obtain rfl : gr = w.heap.size := by
    rcases hat with e | e
    · cases e
    · exact e
  have o1 : OwnU w1 w.heap.size w.heap.size n cr f := by
    unfold OwnU
    simpa using hown1
  have hb1 : Below w.heap.size w w1 := (Below.refl _ _).grown (show w.grownBy w1 none from hgrow1) (Nat.le_refl _) (by simp)
  have hs1 : w.heap.size < w1.heap.size := hltg
  clear hown1 hgrow1 hat hltg hne
  obtain ⟨gq0, hgq0⟩ : ∃ x, w1.heap.size = x := ⟨_, rfl⟩
  rw [hgq0] at hown ⊢
  have hb2 : Below w1.heap.size w1 w2 := (Below.refl _ _).grown hgrow (Nat.le_refl _) (by simp)
  have q2 : OwnU w2 w.heap.size gq0 T T (Gp.dq f d lead nb T 0) := by
    unfold OwnU
    rw [eI_const T 0 (fun i _ => by unfold Gp.dq; rw [if_neg (by omega)])]
    simpa [Value.cells, toList_madeCells_one] using hown
  have o2 : OwnU w2 w.heap.size w.heap.size n cr (Gp.dr f d lead nb T 0) := o1.below hb2
  have hb02 : Below w.heap.size w w2 := below2 hb1 hb2
  have q3 := q2.below hb3
  have o3 := o2.below hb3
  have hb03 := below2 hb02 hb3
  have hne : gq0 ≠ w.heap.size := by omega
  clear hown hgrow o1 hb1 hb2 q2 o2 hb02 hb3 hc3 hc2
  go_loopw [10] (fun i wr => ∃ k s : Nat, k + s = T ∧ i = .int .i64 ((k : Int) - 1) ∧ OwnU wr w.heap.size gq0 T T (Gp.dq f d lead nb T s) ∧ OwnU wr w.heap.size w.heap.size n cr (Gp.dr f d lead nb T s) ∧ Below w.heap.size w wr) (fun i _ => (intOf i + 1).toNat)
  case atStart => exact ⟨T, 0, rfl, rfl, q3, o3, hb03⟩
  case round =>
    obtain ⟨k, s, hks, rfl, hq, hr, hbel⟩ := hrel
    clear q3 o3 hb03
    by_cases hk0 : k = 0
    · subst hk0
      obtain rfl : s = T := by omega
      go_wp2
      go_ret2
      exact ⟨_, _, _, rfl, hq, hr, hbel⟩
    · obtain ⟨p, rfl⟩ : ∃ p, k = p + 1 := ⟨k - 1, by omega⟩
      rw [show ((p + 1 : Nat) : Int) - 1 = (p : Int) by omega]
      have hT := HT.out
      obtain ⟨j, hj⟩ : ∃ j, p + nb - 1 = j := ⟨_, rfl⟩
      have hjn : j < n := by omega
      have hfit : p + nb ≤ n := by omega
      have hpT : p < T := by omega
      have hps : p = T - 1 - s := by omega
      have hsT : s < T := by omega
      have hjI : (p : Int) + (nb : Int) - 1 = (j : Int) := by omega
      have hjnI : (j : Int) < (n : Int) := by omega
      have hpTI : (p : Int) < (T : Int) := by omega
      have hrl := Gp.dr_lt f d lead nb T hf s j
      obtain ⟨b', e', hcr⟩ := (OwnU.els hr).at (i := j) hjn
      cases e'
      have hml := Gf.mul_lt hrl hinv
      have HC : Hid (Gf.mul (Gp.dr f d lead nb T s j) lead = Gp.dc f d lead nb T s) := by
        show _ = _
        rw [Gp.m_nat hrl hinv, ← hj, hps]
        rfl
      have HQ : Hid (∀ i, (if i = p then Gp.dc f d lead nb T s else Gp.dq f d lead nb T s i) = Gp.dq f d lead nb T (s + 1) i) := fun i => by rw [Gp.dq_set f d lead nb T s hsT i, hps]
      have HR : Hid (∀ i, onTop (Gp.dr f d lead nb T s) d (Gp.dc f d lead nb T s) p nb i = Gp.dr f d lead nb T (s + 1) i) := fun i => by rw [onTop_sh hdd.2, Gp.dr_succ, ← hps]
      have hrf := fun i => Gp.dr_lt f d lead nb T hf s i
      have hd' := hd.below hbel
      have hag := hd.off (Nat.le_refl _)
      clear hT hj hps hsT HT
      generalize Gp.dr f d lead nb T s j = x at hcr hrl hml HC
      go_wp2_with fail
      refine (times_any x lead _ hrl hinv).mono ?_
      rintro e w4 ⟨rfl, hb4⟩
      have hq4 := hq.below hb4
      have hr4 := hr.below hb4
      have hd4 := hd'.below hb4
      have hbel4 := below2 hbel hb4
      obtain ⟨old, hold⟩ : ∃ v, w4.cell? ⟨gq0, p, none⟩ = some v := by
        obtain ⟨b', e', hcq⟩ := (OwnU.els hq4).at (i := p) hpT
        cases e'
        exact ⟨_, hcq⟩
      have hfr := World.ownsRow.frozenAt hq4 p
      have hst := hq4.set (k := p) (v := Gf.mul x lead) hpT
      have hq5 := OwnU.congr (h := Gp.dq f d lead nb T (s + 1)) hst.1 (fun i _ => by rw [HC.out]; exact HQ.out i)
      have hr5 := hr4.other hst.2 (Ne.symm hne)
      have hd5 := hd4.grown hst.2 (fun b e => by have := hd.lt b e; have := hq.lt; omega)
      have hb5 : Below w.heap.size w (w4.setCell ⟨gq0, p, none⟩ (.int .u8 ((Gf.mul x lead : Nat) : Int))) := hbel4.setCell (hq.lt).1 _
      have hcq : (w4.setCell ⟨gq0, p, none⟩ (.int .u8 ((Gf.mul x lead : Nat) : Int))).cell? ⟨gq0, p, none⟩ = some (.int .u8 ((Gf.mul x lead : Nat) : Int)) := by
        obtain ⟨b', e', hcq⟩ := (OwnU.els hst.1).at (i := p) hpT
        cases e'
        rw [hcq, if_pos rfl]
      have H5 : Hid (OwnU _ _ _ _ _ _ ∧ OwnU _ _ _ _ _ _ ∧ Els _ _ _ _ _ ∧ Below _ _ _) := ⟨hq5, hr5, hd5, hb5⟩
      clear hq hr hq4 hr4 hst hq5 hr5 hd5 hb5 hd' hd4 hb4 hbel4
      go_wp2_with fail
      refine (addScaled_any w.heap.size w.heap.size n cr (Gp.dr f d lead nb T s) _ nb cb d (Gf.mul x lead) p _ H5.out.2.1 H5.out.2.2.1 hag hrf hdd.1 hml hfit hn).mono ?_
      rintro e w6 ⟨rfl, ho6, hg6⟩
      rw [HC.out] at ho6
      have hq6 := H5.out.1.other hg6 hne
      have hb6 := H5.out.2.2.2.trans (below_of_grownBy hg6 (Nat.le_refl _) H5.out.2.2.2.size)
      have ho7 := OwnU.congr (h := Gp.dr f d lead nb T (s + 1)) ho6 (fun i _ => HR.out i)
      have H7 : Hid (OwnU _ _ _ _ _ _ ∧ OwnU _ _ _ _ _ _ ∧ Below _ _ _) := ⟨hq6, ho7, hb6⟩
      clear ho6 hg6 hq6 hb6 ho7 H5 hrf hag hcr hold hfr hcq HR HQ HC hml hrl hbel h hd hf hdd hdn
      go_wp2
      go_roundw
      case rel =>
        obtain ⟨r1, r2, r3⟩ := H7.out
        refine ⟨p, s + 1, by omega, by go_num, ?_, ?_, ?_⟩
        · exact r1
        · exact r2
        · exact r3
      case measure => simp [intOf] <;> omega
end Go.Proofs.Ytdnddimkgddooaa
