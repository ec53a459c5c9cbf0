import Derived.Test.YtodnodekheaacaaGreatDoorG16
set_option maxHeartbeats 8000000
set_option maxRecDepth 2000
open Go.ChangeShapes Go.WideShapes Go.ChangeAt Go.RowKit
namespace Go.Proofs.YtodnodekheaacaaGreatDoor
theorem next_any (Q : Nat → Prop) (B E G r cap W n Pb Wb Sb Mb : Nat) (A : Nat → Nat → Nat) (k : Nat) (g C : Nat → Nat) (w : World) (h : BS Q w B E G r cap W n Pb Wb Sb Mb A k g C) (hA : Gm.Byt A) (hk : k ≤ n) (hn : n ≤ W) (hW : W ≤ 1048576) (hr : r ≤ 1048576) (hBE : B ≤ E)
  (d1 : E ≤ Pb) (d2 : E ≤ Wb) (d3 : E ≤ Sb) (d4 : E ≤ Mb) (d5 : Pb ≠ Wb) (d6 : Pb ≠ Sb) (d7 : Pb ≠ Mb) (d8 : Wb ≠ Sb) (d9 : Wb ≠ Mb) (d10 : Sb ≠ Mb) :
  Calls Tryz.prog 161 #[.pointer (some ⟨Pb, 0, none⟩), .pointer (some ⟨Wb, 0, none⟩), .pointer (some ⟨Sb, 0, none⟩), .pointer (some ⟨Mb, 0, none⟩)] w fun e w' =>
   (∃ k' g' C', k < k' ∧ k' ≤ n ∧ e = .returned (.bool true) ∧ BS Q w' B E G r cap W n Pb Wb Sb Mb A k' g' C' ∧ Chg (fun b => B ≤ b ∧ ¬ Q b) w w') ∨ (e = .returned (.bool false) ∧ BS Q w' B E G r cap W n Pb Wb Sb Mb A n g C ∧ Chg (fun b => B ≤ b ∧ ¬ Q b) w w') := by
 have he := Gm.ech_rd hA r k
 have hsr := he.sr
 have hFb := he.byt
 obtain ⟨hM, hpl, hwd, hst, hmm, hnq⟩ := h
 have KNQ : Hid (¬ Q G ∧ ¬ Q Pb ∧ ¬ Q Sb ∧ ∀ i, i < r → ¬ Q (g i)) := hnq
 clear hnq
 obtain ⟨F, s, hFs⟩ : ∃ F s, Gm.rd A r k = (F, s) := ⟨_, _, rfl⟩
 rw [hFs] at hM hst hsr hFb
 replace hM : MatF w B E G r cap g C W F := hM
 replace hst : w.heap[Sb]? = some (.cells #[.int .i64 (s : Int)] 3 (0, 0)) := hst
 replace hsr : s ≤ r := hsr
 replace hFb : Gm.Byt F := hFb
 have KM : Hid (MatF w B E G r cap g C W F) := hM
 have KH : Hid (Gm.rd A r k = (F, s)) := hFs
 have KF : Hid (Gm.Byt F) := hFb
 clear hM hFs hFb he
 have KB1 : Hid (w.heap[Pb]? = some (.cells #[.int .i64 (k : Int)] 3 (0, 0))) := hpl
 have KB2 : Hid (w.heap[Wb]? = some (.cells #[.int .i64 (n : Int)] 3 (0, 0))) := hwd
 have KB3 : Hid (w.heap[Sb]? = some (.cells #[.int .i64 (s : Int)] 3 (0, 0))) := hst
 have KB4 : Hid (w.heap[Mb]? = some (.cells #[.slice (some ⟨G, 0, none⟩) r cap] 186 (0, 0))) := hmm
 clear hpl hwd hst hmm
 go_enter Tryz.func161, Tryz.ntmps161
 go_wp2
 go_step3
 go_wp2
 go_step3
 go_wp2
 go_loopg [5, 6] (n - k) (fun gk s5 _ wr => ∃ c : Nat, k ≤ c ∧ c + gk = n ∧ s5 = .int .i64 (-1) ∧ Hid (Gm.rd A r c = (F, s)) ∧ wr.heap[Pb]? = some (.cells #[.int .i64 (c : Int)] 3 (0, 0)) ∧ w.grownBy wr (some Pb))
 case atStart => exact ⟨k, Nat.le_refl _, by omega, rfl, KH, KB1.out, World.grownBy.refl _ _⟩
 case round =>
  obtain ⟨c, hkc, hcg, rfl, HC, hpl, hgr⟩ := hrel
  clear KH
  have KG : Hid (w.grownBy wr (some Pb)) := hgr
  have hwd := (Chg.grown (S := fun b => b = Pb) hgr rfl).at KB2.out (fun e => d5 e.symm)
  have hst := (Chg.grown (S := fun b => b = Pb) hgr rfl).at KB3.out (fun e => d6 e.symm)
  have hmm := (Chg.grown (S := fun b => b = Pb) hgr rfl).at KB4.out (fun e => d7 e.symm)
  have KM' : Hid (MatF wr B E G r cap g C W F) := KM.out.keptE hgr d1
  have cp := cell_of_one hpl
  have cw := cell_of_one hwd
  have cs := cell_of_one hst
  have cm := cell_of_one hmm
  have KP : Hid (wr.heap[Pb]? = some (.cells #[.int .i64 (c : Int)] 3 (0, 0))) := hpl
  have KW : Hid (wr.heap[Wb]? = some (.cells #[.int .i64 (n : Int)] 3 (0, 0))) := hwd
  have KS : Hid (wr.heap[Sb]? = some (.cells #[.int .i64 (s : Int)] 3 (0, 0))) := hst
  have KMm : Hid (wr.heap[Mb]? = some (.cells #[.slice (some ⟨G, 0, none⟩) r cap] 186 (0, 0))) := hmm
  clear hgr hpl hwd hst hmm
  cases gk with
  | zero =>
   obtain rfl : c = n := by omega
   have HB : Hid (BS Q wr B E G r cap W c Pb Wb Sb Mb A c g C) := ⟨by rw [HC.out]; exact KM'.out, KP.out, KW.out, by rw [HC.out]; exact KS.out, KMm.out, KNQ.out⟩
   have HBe : Hid (Chg (fun b => B ≤ b ∧ ¬ Q b) w wr) := (Chg.grown (S := fun b => b = Pb) KG.out rfl).imp (fun j e => by subst e; exact ⟨by omega, KNQ.out.2.1⟩)
   go_wp2
   rw [Exit.noGoto_ret]
   go_ret
   exact .inr ⟨rfl, HB.out, HBe.out⟩
  | succ g1 =>
   have hcn : (c : Int) < (n : Int) := by omega
   have hcW : c < W := by omega
   have hcWi : (c : Int) < (W : Int) := by omega
   go_wp2
   have KPP : Hid (wr.heap[Pb]? = some (.cells #[.int .i64 (c : Int)] 3 (0, 0))) := KP
   clear cp cw cs cm KM' KP KW KS KMm
   go_loopg [5, 6] (r - s) (fun gq s5 s6 wr => ∃ p : Nat, s ≤ p ∧ p + gq = r ∧ s5 = .int .i64 (-1) ∧ s6 = .int .i64 (p : Int) ∧ Hid (∀ t, s ≤ t → t < p → F t c = 0) ∧ wr.heap[Pb]? = some (.cells #[.int .i64 (c : Int)] 3 (0, 0)) ∧ w.grownBy wr (some Pb))
   case atStart => exact ⟨s, Nat.le_refl _, by omega, rfl, rfl, fun t h1 h2 => by omega, KPP.out, KG.out⟩
   case round =>
    obtain ⟨p, hsp, hpg, rfl, rfl, HZ, hpl, hgr⟩ := hrel
    have hwd := (Chg.grown (S := fun b => b = Pb) hgr rfl).at KB2.out (fun e => d5 e.symm)
    have hst := (Chg.grown (S := fun b => b = Pb) hgr rfl).at KB3.out (fun e => d6 e.symm)
    have hmm := (Chg.grown (S := fun b => b = Pb) hgr rfl).at KB4.out (fun e => d7 e.symm)
    have hM' : MatF wr B E G r cap g C W F := KM.out.keptE hgr d1
    have cp := cell_of_one hpl
    have fp := free_of_one hpl
    have cw := cell_of_one hwd
    have cs := cell_of_one hst
    have cm := cell_of_one hmm
    have KG2 : Hid (w.grownBy wr (some Pb)) := hgr
    have KP : Hid (wr.heap[Pb]? = some (.cells #[.int .i64 (c : Int)] 3 (0, 0))) := hpl
    have KW : Hid (wr.heap[Wb]? = some (.cells #[.int .i64 (n : Int)] 3 (0, 0))) := hwd
    have KS : Hid (wr.heap[Sb]? = some (.cells #[.int .i64 (s : Int)] 3 (0, 0))) := hst
    have KMm : Hid (wr.heap[Mb]? = some (.cells #[.slice (some ⟨G, 0, none⟩) r cap] 186 (0, 0))) := hmm
    have KM' : Hid (MatF wr B E G r cap g C W F) := hM'
    clear hgr hpl hwd hst hmm
    cases gk with
    | zero =>
     obtain rfl : p = r := by omega
     have HC2 : Hid (Gm.rd A p (c + 1) = (F, s)) := rd_none HC.out hsr HZ.out
     have HS : Hid ((wr.setCell ⟨Pb, 0, none⟩ (.int .i64 ((c + 1 : Nat) : Int))).heap[Pb]? = some (.cells #[.int .i64 ((c + 1 : Nat) : Int)] 3 (0, 0))) := one_setCell KP.out
     have HG : Hid (w.grownBy (wr.setCell ⟨Pb, 0, none⟩ (.int .i64 ((c + 1 : Nat) : Int))) (some Pb)) := grownBy_trans KG2.out (grown_set wr Pb 0 _)
     clear hM'
     obtain ⟨c1, hc1⟩ : ∃ c1, c + 1 = c1 := ⟨_, rfl⟩
     have hw1 : IntKind.i64.wrap ((c : Int) + 1) = (c1 : Int) := by rw [IntKind.wrap_i64]; omega
     rw [hc1] at HS HG HC2
     go_wp2
     go_roundg g1
     case measure => omega
     case rel => exact ⟨c1, by omega, by omega, rfl, HC2, HS.out, HG.out⟩
    | succ gq =>
     have hpr : p < r := by omega
     have hpi : (p : Int) < (r : Int) := by omega
     have hh := hM'.hdr hpr
     have he := hM'.elt (j := c) hpr rfl hcW
     have hGp : G < wr.heap.size := hM'.olt.2
     clear hM'
     by_cases hz : F p c = 0
     ·have HZ2 : Hid (∀ t, s ≤ t → t < p + 1 → F t c = 0) := fun t h1 h2 => by
       by_cases e : t = p
       ·subst e; exact hz
       ·exact HZ.out t h1 (by omega)
      rw [hz] at he
      go_wp2_with fail
      go_quiet (fail)
      go_wp2
      go_roundg gq
      case measure => omega
      case rel => exact ⟨p + 1, by omega, by omega, rfl, by go_num, HZ2, KP.out, grownBy_drewN KG2.out _⟩
     ·have hzi : (((F p c : Nat) : Int) != 0) = true := by simp; exact hz
      have HC2 : Hid (Gm.rd A r (c + 1) = (Gm.one F s p c, s + 1)) := rd_step HC.out hsp hpr HZ.out hz
      have hsrr : s < r := by omega
      have hsri : (s : Int) < (r : Int) := by omega
      have hp0 : ¬ ((p : Int) < 0) := by omega
      have hhs := KM'.out.hdr hsrr
      have fG := fun j => MatZ.ofree KM'.out j
      have fs := fG s
      have fp2 := fG p
      clear fG
      obtain ⟨X, hX⟩ : ∃ X, F p c = X := ⟨_, rfl⟩
      rw [hX] at he hzi
      clear hX hz
      obtain ⟨gp, hgp⟩ : ∃ gp, g p = gp := ⟨_, rfl⟩
      obtain ⟨Cp, hCp⟩ : ∃ Cp, C p = Cp := ⟨_, rfl⟩
      obtain ⟨gs, hgs⟩ : ∃ gs, g s = gs := ⟨_, rfl⟩
      obtain ⟨Cs, hCs⟩ : ∃ Cs, C s = Cs := ⟨_, rfl⟩
      have KN : Hid ((g p = gp ∧ C p = Cp) ∧ g s = gs ∧ C s = Cs) := ⟨⟨hgp, hCp⟩, hgs, hCs⟩
      rw [hgp] at hh he
      rw [hCp] at hh
      rw [hgs, hCs] at hhs
      clear hgp hCp hgs hCs
      go_wp2_with fail
      go_quiet (fail)
      go_wp2_with fail
      generalize hwq : wr.drewN _ = wq
      have hbq : Below wr.heap.size wr wq := by rw [← hwq]; exact below_drewN (Below.refl _ _) _
      have KQ : Hid (Below wr.heap.size wr wq) := hbq
      have cm' := (hbq.cell (p := ⟨Mb, 0, none⟩) (block_lt_of_cell cm)).trans cm
      have cs' := (hbq.cell (p := ⟨Sb, 0, none⟩) (block_lt_of_cell cs)).trans cs
      have hh' := (hbq.cell (p := ⟨G, p, none⟩) (block_lt_of_cell hh)).trans hh
      have hhs' := (hbq.cell (p := ⟨G, s, none⟩) (block_lt_of_cell hhs)).trans hhs
      have fs' := (World.frozen?_of_block (a := ⟨G, s, none⟩) (hbq.block _ hGp)).trans fs
      have fp' := (World.frozen?_of_block (a := ⟨G, p, none⟩) (hbq.block _ hGp)).trans fp2
      clear hwq hbq cm cs hh hhs fs fp2 he cp fp cw
      obtain ⟨v', hy'⟩ : ∃ v', (wq.setCell ⟨G, s, none⟩ (.slice (some ⟨gp, 0, none⟩) W Cp)).cell? ⟨G, p, none⟩ = some v' := by
       by_cases e : p = s
       ·subst e
        have h1 := ((KM'.out.below KQ.out).out.stored p (.slice (some ⟨gp, 0, none⟩) W Cp)).1
        rw [h1.cellAt p (by omega)]
        exact ⟨_, List.getElem?_eq_getElem (by rw [h1.1]; omega)⟩
       ·have h1 := ((KM'.out.below KQ.out).out.stored s (.slice (some ⟨gp, 0, none⟩) W Cp)).1
        rw [h1.cellAt p (by omega)]
        exact ⟨_, List.getElem?_eq_getElem (by rw [h1.1]; omega)⟩
      have fy' : (wq.setCell ⟨G, s, none⟩ (.slice (some ⟨gp, 0, none⟩) W Cp)).frozen? ⟨G, p, none⟩ = false :=
       ((KM'.out.below KQ.out).out.stored s (.slice (some ⟨gp, 0, none⟩) W Cp)).1.frozenAt p
      have hGM : Mb ≠ G := fun e => by
       have h1 := KM'.out.oE _ rfl
       simp at h1
       omega
      have cm2 : (wq.setCell ⟨G, s, none⟩ (.slice (some ⟨gp, 0, none⟩) W Cp)).cell? ⟨Mb, 0, none⟩ = some (.slice (some ⟨G, 0, none⟩) r cap) := (grown_set wq G s _).cell cm' (by simp; exact hGM)
      have KMID : Hid (Mid Q w wq B E G r cap W n Pb Wb Sb Mb c s g C F) := Mid.below ⟨KM'.out, KP.out, KW.out, KS.out, KMm.out, (Chg.grown (S := fun b => b = Pb) KG2.out rfl).imp (fun j e => by subst e; exact ⟨by omega, KNQ.out.2.1⟩), KNQ.out⟩ KQ.out
      have KDST : Hid (Dst B E Pb Wb Sb Mb) := ⟨hBE, d1, d2, d3, d4, d5, d6, d7, d8, d9, d10⟩
      have KNUM : Hid ((k < c + 1 ∧ c + 1 ≤ n) ∧ (B ≤ w.heap.size ∧ Gm.Byt F) ∧ (s < r ∧ c < W) ∧ (W ≤ 1048576 ∧ r ≤ 1048576) ∧ Gm.rd A r (c + 1) = (Gm.one F s p c, s + 1)) := ⟨⟨by omega, by omega⟩, ⟨by have := KM.out.olt; omega, KF.out⟩, ⟨hsrr, hcW⟩, ⟨hW, hr⟩, HC2.out⟩
      clear KM' KQ KP KW KS KMm KM KF HC2 hk hn hW hr hBE d1 d2 d3 d4 d5 d6 d7 d8 d9 d10 hkc hcg hcW hsrr hsr hA KB1 KB2 KB3 KB4 HC KG HZ KG2 hcn hcWi KPP hsp hpg hGp hzi hp0 hGM
      rename_i hKont
      go_region
      refine hKont _ _ ?_
      exact tail_at (by rfl) Q B E G r cap W n Pb Wb Sb Mb A k c s p gp Cp gs Cs g C F w wq (fun e w' => (∃ k' g' C', k < k' ∧ k' ≤ n ∧ e = .returned (.bool true) ∧ BS Q w' B E G r cap W n Pb Wb Sb Mb A k' g' C' ∧ Chg (fun b => B ≤ b ∧ ¬ Q b) w w') ∨ (e = .returned (.bool false) ∧ BS Q w' B E G r cap W n Pb Wb Sb Mb A n g C ∧ Chg (fun b => B ≤ b ∧ ¬ Q b) w w')) _ _ _ _ _ _ _ _ _ _ _ _ _ _ _ _ _ _ _ _ _ _ _ _ _ _ _ _ _ _ _ _ _ _ _ _ _ _ _ _ _ _ _ _ _ _ _ KMID KDST KN KNUM hpr (fun c1 g' C' w' h1 h2 h3 h4 => .inl ⟨c1, g', C', h1, h2, rfl, h3, h4⟩)
end Go.Proofs.YtodnodekheaacaaGreatDoor
