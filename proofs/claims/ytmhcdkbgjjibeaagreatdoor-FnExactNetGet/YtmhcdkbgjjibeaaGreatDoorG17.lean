import Derived.Test.YtmhcdkbgjjibeaaGreatDoorG11
import Derived.Test.YtmhcdkbgjjibeaaGreatDoorG13
import Derived.StillTailTactics
set_option maxHeartbeats 8000000
set_option maxRecDepth 2000
open Go.ChangeShapes Go.WideShapes Go.ChangeAt Go.RowKit
namespace Go.Proofs.YtmhcdkbgjjibeaaGreatDoor
theorem Tryz.mixedM : Tryz.prog.follows .mixedOrders = true := by kernel_rfl
abbrev MatG (w : World) (B E G r cap : Nat) (g C : Nat → Nat) (W : Nat) (F : Nat → Nat → Nat) : Prop := MatI w B E (some ⟨G, 0, none⟩) r cap (fun i => some ⟨g i, 0, none⟩) (fun _ => W) C (fun i j => ((F i j : Nat) : Int))
theorem MatG.set {w : World} {B E G r cap : Nat} {g C : Nat → Nat} {W : Nat} {F F' : Nat → Nat → Nat} {i j v : Nat} (h : MatG w B E G r cap g C W F) (hi : i < r) (hj : j < W) (e : ∀ p q, p < r → q < W → (if p = i ∧ q = j then v else F p q) = F' p q) :
  MatG (w.setCell ⟨g i, j, none⟩ (.int .i64 (v : Int))) B E G r cap g C W F' :=
 (h.setElt tiNe hi rfl hj (v : Int)).1.congr (fun p hp => ⟨rfl, rfl, rfl, fun q hq => by
  rw [← e p q hp hq]
  split <;> rfl⟩)
theorem MatG.swap {w : World} {B E G r cap : Nat} {g C : Nat → Nat} {W : Nat} {F : Nat → Nat → Nat} {s p : Nat} (h : MatG w B E G r cap g C W F) (hs : s < r) (hp : p < r) :
  MatG ((w.setCell ⟨G, p, none⟩ (.slice (some ⟨g s, 0, none⟩) W (C s))).setCell ⟨G, s, none⟩ (.slice (some ⟨g p, 0, none⟩) W (C p))) B E G r cap (fun i => g (Gm.sg s p i)) (fun i => C (Gm.sg s p i)) W (Gm.swp s p F) := by
 have o1 := (h.out.stored p (.slice (some ⟨g s, 0, none⟩) W (C s))).1
 have o2 := (o1.stored s (.slice (some ⟨g p, 0, none⟩) W (C p))).1
 rw [hds_set, hds_set] at o2
 refine ⟨?_, h.oE, fun i hi => ?_, fun i hi x ex => ?_, fun i j hi hj hij x y ex ey => ?_⟩
 ·rw [hds_congr (A' := fun i => if i = s then some ⟨g p, 0, none⟩ else if i = p then some ⟨g s, 0, none⟩ else some ⟨g i, 0, none⟩) (L' := fun i => if i = s then W else if i = p then W else W) (C' := fun i => if i = s then C p else if i = p then C s else C i) (fun i _ => by
   unfold Gm.sg
   by_cases e1 : i = s
   ·simp [e1]
   ·by_cases e2 : i = p
    ·simp [e2, show p ≠ s by omega]
    ·simp [e1, e2])]
  exact o2
 ·have hr := h.row (Gm.sg s p i) (Gm.sg_lt hs hp hi)
  have hne : ∀ x : Addr, some (⟨g (Gm.sg s p i), 0, none⟩ : Addr) = some x → x.block ≠ G := fun x ex => by
   cases ex
   exact h.off tiNe (Gm.sg_lt hs hp hi) rfl
  exact own_kept (own_kept hr (grown_set w G p _) hne) (grown_set _ G s _) hne
 ·exact h.rE (Gm.sg s p i) (Gm.sg_lt hs hp hi) x ex
 ·refine h.apart (Gm.sg s p i) (Gm.sg s p j) (Gm.sg_lt hs hp hi) (Gm.sg_lt hs hp hj) (fun e => hij ?_) x y ex ey
  have := congrArg (Gm.sg s p) e
  rw [Gm.sg_sg, Gm.sg_sg] at this
  exact this
theorem rd_full {A : Nat → Nat → Nat} {r k : Nat} {F : Nat → Nat → Nat} (h : Gm.rd A r k = (F, r)) (d : Nat) : Gm.rd A r (k + d) = (F, r) := by
 induction d with
 | zero => exact h
 | succ d ih => exact rd_none ih (Nat.le_refl _) (fun t h1 h2 => by omega)
theorem addK_step {s q t y : Nat} {M : Nat → Nat → Nat} (hM : Gm.Byt M) (hy : y < 256) (p j : Nat) : (if p = q ∧ j = t then M q t ^^^ Gf.mul y (M s t) else addK q s y t M p j) = addK q s y (t + 1) M p j := by
 unfold addK
 by_cases e : p = q ∧ j = t
 ·obtain ⟨rfl, rfl⟩ := e
  rw [if_pos ⟨rfl, rfl⟩, if_pos ⟨rfl, by omega⟩, Gp.m_nat hy (hM _ _), Gp.m_comm]
 ·rw [if_neg e]
  by_cases e2 : p = q ∧ j < t
  ·rw [if_pos e2, if_pos (by omega)]
  ·rw [if_neg e2, if_neg (by omega)]
theorem clrK_next {s c q W : Nat} {N : Nat → Nat → Nat} (hq : q ≠ s) {p j : Nat} (hj : j < W) : addK q s (N q c) W (clrK s c q N) p j = clrK s c (q + 1) N p j := by
 unfold addK clrK
 by_cases e : p = q
 ·subst e
  rw [if_pos ⟨rfl, hj⟩, if_neg (by omega), if_neg (by omega), if_pos ⟨by omega, hq⟩]
 ·rw [if_neg (by omega)]
  by_cases e2 : p < q ∧ p ≠ s
  ·rw [if_pos e2, if_pos (by omega)]
  ·rw [if_neg e2, if_neg (by omega)]
theorem clrK_skip {s c : Nat} {N : Nat → Nat → Nat} (p j : Nat) : clrK s c s N p j = clrK s c (s + 1) N p j := by
 unfold clrK
 by_cases e : p < s ∧ p ≠ s
 ·rw [if_pos e, if_pos (by omega)]
 ·rw [if_neg e, if_neg (by omega)]
theorem sclK_step {a x k : Nat} {F : Nat → Nat → Nat} (hF : Gm.Byt F) (hx : x < 256) (p q : Nat) : (if p = a ∧ q = k then Gf.mul (F a k) x else sclK a x k F p q) = sclK a x (k + 1) F p q := by
 unfold sclK
 by_cases e : p = a ∧ q = k
 ·obtain ⟨rfl, rfl⟩ := e
  rw [if_pos ⟨rfl, rfl⟩, if_pos ⟨rfl, by omega⟩, Gp.m_nat (hF _ _) hx]
 ·rw [if_neg e]
  by_cases e2 : p = a ∧ q < k
  ·rw [if_pos e2, if_pos (by omega)]
  ·rw [if_neg e2, if_neg (by omega)]
set_option maxRecDepth 100000 in
theorem sReduce_any (B E G r cap W n : Nat) (g C : Nat → Nat) (A : Nat → Nat → Nat) (w : World) (h : MatG w B E G r cap g C W A) (hA : Gm.Byt A) (hn : n ≤ W) (hW : W ≤ 1048576) (hr : r ≤ 1048576) :
  Calls Tryz.prog 130 #[.slice (some ⟨G, 0, none⟩) r cap, .int .i64 (n : Int)] w fun e w' => e = .returned (.int .i64 ((Gm.rd A r n).2 : Int)) ∧ (∃ g' C', MatG w' B E G r cap g' C' W (Gm.rd A r n).1) ∧ Below B w w' := by
 have K0 : Hid (MatG w B E G r cap g C W A) := h
 have KA : Hid (Gm.Byt A) := hA
 clear h hA
 go_enter Tryz.func130, Tryz.ntmps130
 go_wp2
 go_loopw [5, 6] (fun a5 a6 wr => ∃ c g C, c ≤ n ∧ a5 = .int .i64 ((Gm.rd A r c).2 : Int) ∧ a6 = .int .i64 ((c : Nat) : Int) ∧ MatG wr B E G r cap g C W (Gm.rd A r c).1 ∧ Below B w wr) (fun _ a6 _ => n - (intOf a6).toNat)
 case atStart => exact ⟨0, g, C, Nat.zero_le _, rfl, rfl, K0.out, Below.refl _ _⟩
 case round =>
  obtain ⟨c, g1, C1, hc, rfl, rfl, hM, hbel⟩ := hrel
  clear K0
  have hec := Gm.ech_rd KA.out r c
  have hsr := hec.sr
  have hFb := hec.byt
  obtain ⟨F, s, hFs⟩ : ∃ F s, Gm.rd A r c = (F, s) := ⟨_, _, rfl⟩
  rw [hFs] at hM hsr hFb ⊢
  replace hM : MatG wr B E G r cap g1 C1 W F := hM
  replace hsr : s ≤ r := hsr
  replace hFb : Gm.Byt F := hFb
  have KH : Hid (Gm.rd A r c = (F, s)) := hFs
  have KF : Hid (Gm.Byt F) := hFb
  have KM : Hid (MatG wr B E G r cap g1 C1 W F) := hM
  have KB : Hid (Below B w wr) := hbel
  clear hec hFs hFb hM hbel
  by_cases hcn : c < n
  case neg =>
   obtain rfl : c = n := by omega
   have hci : ¬ (c : Int) < (c : Int) := by omega
   go_wp2
   go_ret
   exact ⟨by rw [KH.out] <;> rfl, ⟨g1, C1, by rw [KH.out]; exact KM.out⟩, KB.out⟩
  have hci : (c : Int) < (n : Int) := by omega
  by_cases hsr2 : s < r
  case neg =>
   obtain rfl : s = r := by omega
   have hsi : ¬ (s : Int) < (s : Int) := by omega
   have KH2 : Hid (Gm.rd A s n = (F, s)) := by
    have := rd_full KH.out (n - c)
    rw [show c + (n - c) = n by omega] at this
    exact this
   go_wp2
   go_ret
   exact ⟨by rw [KH2.out] <;> rfl, ⟨g1, C1, by rw [KH2.out]; exact KM.out⟩, KB.out⟩
  have hsi : (s : Int) < (r : Int) := by omega
  have hcW : c < W := by omega
  have hcWi : (c : Int) < (W : Int) := by omega
  go_wp2
  go_loop [7] (fun a7 => ∃ p : Nat, s ≤ p ∧ p ≤ r ∧ a7 = .int .i64 (p : Int) ∧ Hid (∀ t, s ≤ t → t < p → F t c = 0)) (fun a7 => r - (intOf a7).toNat)
  case atStart => exact ⟨s, Nat.le_refl _, hsr, rfl, fun t h1 h2 => by omega⟩
  case round =>
   obtain ⟨p, hsp, hpr, rfl, HZ⟩ := hrel
   by_cases hp : p < r
   case neg =>
    obtain rfl : p = r := by omega
    have hpi : ¬ (p : Int) < (p : Int) := by omega
    have KH2 : Hid (Gm.rd A p (c + 1) = (F, s)) := rd_none KH.out hsr HZ.out
    go_wp2
    go_roundw
    case rel => exact ⟨c + 1, g1, C1, by omega, by rw [KH2.out], by go_num, by rw [KH2.out]; exact KM.out, KB.out⟩
    case measure => simp [intOf] <;> omega
   have hpi : (p : Int) < (r : Int) := by omega
   have hh := KM.out.hdr hp
   have he := KM.out.elt (j := c) hp rfl hcW
   by_cases hz : F p c = 0
   ·rw [hz] at he
    have HZ2 : Hid (∀ t, s ≤ t → t < p + 1 → F t c = 0) := fun t h1 h2 => by
     by_cases e : t = p
     ·subst e; exact hz
     ·exact HZ.out t h1 (by omega)
    go_wp2
    go_round
    case rel => exact ⟨p + 1, by omega, by omega, by go_num, HZ2⟩
    case measure => simp [intOf] <;> omega
   ·have hX0 := KF.out p c
    have KH2 : Hid (Gm.rd A r (c + 1) = (Gm.one F s p c, s + 1)) := rd_step KH.out hsp hp HZ.out hz
    have hSw := MatG.swap KM.out hsr2 hp
    have hhs := KM.out.hdr hsr2
    have fG := fun j => MatZ.ofree KM.out j
    have fp := fG p
    clear fG
    have hSh := hSw.hdr (i := s) hsr2
    have hSe := hSw.elt (i := s) (j := c) hsr2 rfl hcW
    have hsg : Gm.sg s p s = p := if_pos rfl
    simp only [hsg] at hSh hSe
    have hval : Gm.swp s p F s c = F p c := by unfold Gm.swp; rw [hsg]
    rw [hval] at hSe
    obtain ⟨v2, hv2⟩ : ∃ v2, (wr.setCell ⟨G, p, none⟩ (.slice (some ⟨g1 s, 0, none⟩) W (C1 s))).cell? ⟨G, s, none⟩ = some v2 := by
     have h1 := (KM.out.out.stored p (.slice (some ⟨g1 s, 0, none⟩) W (C1 s))).1
     rw [h1.cellAt s (by omega)]
     exact ⟨_, List.getElem?_eq_getElem (by rw [h1.1]; omega)⟩
    have fs : (wr.setCell ⟨G, p, none⟩ (.slice (some ⟨g1 s, 0, none⟩) W (C1 s))).frozen? ⟨G, s, none⟩ = false := (KM.out.out.stored p (.slice (some ⟨g1 s, 0, none⟩) W (C1 s))).1.frozenAt s
    have KSW : Hid _ := hSw
    have KC0 : Hid (Below B w ((wr.setCell ⟨G, p, none⟩ (.slice (some ⟨g1 s, 0, none⟩) W (C1 s))).setCell ⟨G, s, none⟩ (.slice (some ⟨g1 p, 0, none⟩) W (C1 p)))) := (KB.out.setCell KM.out.olt.1 _).setCell KM.out.olt.1 _
    have hS := fun w => sInv_any ((F p c : Nat) : Int) w
    rw [show invI ((F p c : Nat) : Int) = ((Gf.inv (F p c) : Nat) : Int) by unfold invI; rw [if_pos (by omega)]; simp] at hS
    have hxl := Gf.inv_lt (F p c)
    have hz1 : ¬ ((F p c : Nat) : Int) = 0 := by omega
    have hz1' : ((((F p c : Nat) : Int)) == 0) = false := by simp; exact hz
    have KONE : Hid (Gm.clr s (fun i => Gm.scl s (Gf.inv (F p c)) (Gm.swp s p F) i c) (Gm.scl s (Gf.inv (F p c)) (Gm.swp s p F)) = Gm.one F s p c) := rfl
    clear hSw hsg hval
    obtain ⟨X, hX⟩ : ∃ X, F p c = X := ⟨_, rfl⟩
    obtain ⟨gp, hgp⟩ : ∃ gp, g1 p = gp := ⟨_, rfl⟩
    obtain ⟨Cp, hCp⟩ : ∃ Cp, C1 p = Cp := ⟨_, rfl⟩
    obtain ⟨gs, hgs⟩ : ∃ gs, g1 s = gs := ⟨_, rfl⟩
    obtain ⟨Cs, hCs⟩ : ∃ Cs, C1 s = Cs := ⟨_, rfl⟩
    have KNM : Hid (g1 p = gp ∧ C1 p = Cp) := ⟨hgp, hCp⟩
    rw [hX] at he hSe hS hxl hz1 hz1' KONE
    rw [hgp] at he hh hSh hSe KSW KC0
    rw [hCp] at hh hSh hSe KSW KC0
    rw [hgs] at hhs hv2 fs KSW KC0 hSh hSe
    rw [hCs] at hhs hv2 fs KSW KC0 hSh hSe
    clear hX hgp hCp hgs hCs hz hX0
    have hN1b : Gm.Byt (Gm.swp s p F) := Gm.swp_byt KF.out
    have KN1 : Hid (Gm.Byt (Gm.swp s p F)) := hN1b
    clear hN1b
    obtain ⟨F1, hF1⟩ : ∃ F1, Gm.swp s p F = F1 := ⟨_, rfl⟩
    obtain ⟨x, hx⟩ : ∃ x, Gf.inv X = x := ⟨_, rfl⟩
    rw [hF1] at KSW KONE KN1
    rw [hx] at hS hxl KONE
    clear hF1 hx
    go_wp2_with fail
    refine (hS _).mono ?_
    rintro e w9 ⟨rfl, hw9⟩
    obtain rfl := hw9.symm
    clear hw9 hS
    generalize hw2 : (wr.setCell ⟨G, p, none⟩ (.slice (some ⟨gs, 0, none⟩) W Cs)).setCell ⟨G, s, none⟩ (.slice (some ⟨gp, 0, none⟩) W Cp) = w2 at *
    clear hw2 hv2 fs hSe hh hhs he fp hz1 hz1'
    have hSh' : w2.cell? ⟨G, s, none⟩ = some (.slice (some ⟨gp, 0, none⟩) W Cp) := hSh
    have KG2 : Hid (g1 (Gm.sg s p s) = gp ∧ C1 (Gm.sg s p s) = Cp) := by
     have e : Gm.sg s p s = p := if_pos rfl
     rw [e]
     exact KNM.out
    clear hSh KNM
    obtain ⟨g2, hg2⟩ : ∃ g2 : Nat → Nat, (fun i => g1 (Gm.sg s p i)) = g2 := ⟨_, rfl⟩
    obtain ⟨C2, hC2⟩ : ∃ C2 : Nat → Nat, (fun i => C1 (Gm.sg s p i)) = C2 := ⟨_, rfl⟩
    have KG3 : Hid (g2 s = gp ∧ C2 s = Cp) := by rw [← hg2, ← hC2]; exact KG2.out
    have KS2 : Hid (MatG w2 B E G r cap g2 C2 W F1) := by rw [← hg2, ← hC2]; exact KSW.out
    clear hg2 hC2 KG2 KSW
    go_wp2
    go_loopw [10] (fun a10 wr => ∃ q : Nat, q ≤ W ∧ a10 = .int .i64 (q : Int) ∧ MatG wr B E G r cap g2 C2 W (sclK s x q F1) ∧ Below B w wr) (fun a10 _ => W - (intOf a10).toNat)
    case atStart => exact ⟨0, Nat.zero_le _, rfl, KS2.out.congr (fun i _ => ⟨rfl, rfl, rfl, fun j _ => by unfold sclK; rw [if_neg (by omega)]⟩), KC0.out⟩
    case round =>
     obtain ⟨q, hq, rfl, hM3, hb3⟩ := hrel
     clear KS2 KC0 hSh'
     have hG3 := hM3.hdr hsr2
     rw [KG3.out.1, KG3.out.2] at hG3
     by_cases hqW : q < W
     ·have hqi : (q : Int) < (W : Int) := by omega
      have he3 := hM3.elt (j := q) hsr2 rfl hqW
      have hval : sclK s x q F1 s q = F1 s q := by unfold sclK; rw [if_neg (by omega)]
      rw [hval, KG3.out.1] at he3
      have hf3 := KN1.out s q
      have KE3 : Hid (∀ p' q', (if p' = s ∧ q' = q then Gf.mul (F1 s q) x else sclK s x q F1 p' q') = sclK s x (q + 1) F1 p' q') := fun p' q' => sclK_step KN1.out hxl p' q'
      have hfr3 := hM3.free hsr2 rfl q
      rw [KG3.out.1] at hfr3
      have hgB := (hM3.glt hsr2 rfl).1
      rw [KG3.out.1] at hgB
      have KM3 : Hid (MatG wr B E G r cap g2 C2 W (sclK s x q F1)) := hM3
      have hmu := sMul_nat (F1 s q) x wr.drew hf3 hxl
      obtain ⟨Y, hY⟩ : ∃ Y, F1 s q = Y := ⟨_, rfl⟩
      rw [hY] at he3 hf3 KE3 hmu
      clear hY hval hM3
      go_wp2_with fail
      go_still_tail 14, Tryz.mixedM
      still_call hmu
      refine wpStill_nil ?_
      obtain ⟨w4, hw4⟩ : ∃ w4, w4 = wr.drew := ⟨_, rfl⟩
      have hb4 : Below wr.heap.size wr w4 := by rw [hw4]; exact ⟨rfl, rfl, rfl, Nat.le_refl _, fun _ _ => rfl⟩
      have ew : ({ heap := wr.heap, tape := wr.tape, drawn := wr.drawn + 1, os := wr.os, output := wr.output } : World) = w4 := by rw [hw4]; rfl
      rw [ew]
      have he4 := (hb4.cell (p := ⟨gp, q, none⟩) (block_lt_of_cell he3)).trans he3
      have hfr4 := (World.frozen?_of_block (a := ⟨gp, q, none⟩) (hb4.block _ (block_lt_of_cell he3))).trans hfr3
      have HS : Hid (MatG (w4.setCell ⟨gp, q, none⟩ (.int .i64 ((Gf.mul Y x : Nat) : Int))) B E G r cap g2 C2 W (sclK s x (q + 1) F1)) := by
       have := MatG.set (KM3.out.below hb4) (i := s) (j := q) (v := Gf.mul Y x) hsr2 hqW (fun p' q' _ _ => KE3.out p' q')
       rw [KG3.out.1] at this
       exact this
      have HB : Hid (Below B w (w4.setCell ⟨gp, q, none⟩ (.int .i64 ((Gf.mul Y x : Nat) : Int)))) := (hb3.trans (hb4.mono (by have := KM3.out.olt; omega))).setCell hgB _
      clear hmu he3 hfr3 KM3 hb3 hw4 ew hG3
      go_wp2
      go_roundw
      case rel => exact ⟨q + 1, by omega, by go_num, HS.out, HB.out⟩
      case measure => simp [intOf] <;> omega
     ·obtain rfl : W = q := by omega
      have hqi : ¬ (W : Int) < (W : Int) := by omega
      have KS4 : Hid (MatG wr B E G r cap g2 C2 W (Gm.scl s x F1)) := hM3.congr (fun i _ => ⟨rfl, rfl, rfl, fun j hj => by unfold sclK Gm.scl; by_cases e : i = s; rw [if_pos ⟨e, hj⟩, if_pos e]; rw [if_neg (by omega), if_neg e]⟩)
      have KC4 : Hid (Below B w wr) := hb3
      have KN2 : Hid (Gm.Byt (Gm.scl s x F1)) := Gm.scl_byt KN1.out
      clear hM3 hb3
      obtain ⟨N, hN⟩ : ∃ N, Gm.scl s x F1 = N := ⟨_, rfl⟩
      rw [hN] at KS4 KN2 KONE
      clear hN KN1
      go_wp2
      clear hG3
      go_loopw [11] (fun a11 wr => ∃ q : Nat, q ≤ r ∧ a11 = .int .i64 (q : Int) ∧ MatG wr B E G r cap g2 C2 W (clrK s c q N) ∧ Below B w wr) (fun a11 _ => r - (intOf a11).toNat)
      case atStart => exact ⟨0, Nat.zero_le _, rfl, KS4.out.congr (fun i _ => ⟨rfl, rfl, rfl, fun j _ => by unfold clrK; rw [if_neg (by omega)]⟩), KC4.out⟩
      case round =>
       obtain ⟨i, hi, rfl, hM5, hb5⟩ := hrel
       clear KS4 KC4
       by_cases hir : i < r
       ·have hii : (i : Int) < (r : Int) := by omega
        have hh5 := hM5.hdr hir
        have he5 := hM5.elt (j := c) hir rfl hcW
        have hy5 := clrK_byt (s := s) (k := c) (q := i) KN2.out i c
        have KM5 : Hid (MatG wr B E G r cap g2 C2 W (clrK s c i N)) := hM5
        have KB5 : Hid (Below B w wr) := hb5
        obtain ⟨gi, hgi⟩ : ∃ gi, g2 i = gi := ⟨_, rfl⟩
        obtain ⟨Ci, hCi⟩ : ∃ Ci, C2 i = Ci := ⟨_, rfl⟩
        rw [hgi] at hh5 he5
        rw [hCi] at hh5
        have KGi : Hid (g2 i = gi ∧ C2 i = Ci) := ⟨hgi, hCi⟩
        clear hgi hCi hM5 hb5
        by_cases his : i = s
        ·subst his
         obtain ⟨y, hy⟩ : ∃ y, clrK i c i N i c = y := ⟨_, rfl⟩
         rw [hy] at he5
         clear hy hy5
         have hnn : ((i : Int) != (i : Int)) = false := by simp
         have hW0 : (0 : Int) < (W : Int) := by omega
         go_wp2
         go_loop [13] (fun a13 => a13 = .int .i64 0) (fun _ => 0)
         case atStart => rfl
         case round =>
          obtain rfl := hrel
          go_wp2
          go_roundw
          case rel => exact ⟨i + 1, by omega, by go_num, KM5.out.congr (fun p' _ => ⟨rfl, rfl, rfl, fun j _ => by rw [clrK_skip]⟩), KB5.out⟩
          case measure => simp [intOf] <;> omega
        ·have hne : ((i : Int) != (s : Int)) = true := by simp; omega
         have hMb : Gm.Byt (clrK s c i N) := clrK_byt KN2.out
         have hyv : clrK s c i N i c = N i c := by unfold clrK; rw [if_neg (by omega)]
         have KNX : Hid (∀ p' j, j < W → addK i s (clrK s c i N i c) W (clrK s c i N) p' j = clrK s c (i + 1) N p' j) := fun p' j hj => by rw [hyv]; exact clrK_next his hj
         obtain ⟨y, hy⟩ : ∃ y, clrK s c i N i c = y := ⟨_, rfl⟩
         obtain ⟨M, hMM⟩ : ∃ M, clrK s c i N = M := ⟨_, rfl⟩
         rw [hy] at he5 hy5 KNX
         rw [hMM] at KM5 hMb KNX
         have KMb : Hid (Gm.Byt M) := hMb
         clear hy hyv hMM hMb
         go_wp2
         go_loopw [13] (fun a13 wr => ∃ t : Nat, t ≤ W ∧ a13 = .int .i64 (t : Int) ∧ MatG wr B E G r cap g2 C2 W (addK i s y t M) ∧ Below B w wr) (fun a13 _ => W - (intOf a13).toNat)
         case atStart => exact ⟨0, Nat.zero_le _, rfl, KM5.out.congr (fun p' _ => ⟨rfl, rfl, rfl, fun j _ => by unfold addK; rw [if_neg (by omega)]⟩), KB5.out⟩
         case round =>
          obtain ⟨t, ht, rfl, hM6, hb6⟩ := hrel
          clear KM5 KB5 hh5 he5
          have hh6 := hM6.hdr hir
          rw [KGi.out.1, KGi.out.2] at hh6
          by_cases htW : t < W
          ·have hti : (t : Int) < (W : Int) := by omega
           have he6 := hM6.elt (j := t) hir rfl htW
           have hes := hM6.elt (j := t) hsr2 rfl htW
           have hhs6 := hM6.hdr hsr2
           have hv1 : addK i s y t M i t = M i t := by unfold addK; rw [if_neg (by omega)]
           have hv2 : addK i s y t M s t = M s t := by unfold addK; rw [if_neg (by omega)]
           rw [hv1, KGi.out.1] at he6
           rw [hv2, KG3.out.1] at hes
           rw [KG3.out.1, KG3.out.2] at hhs6
           have hf6 := KMb.out i t
           have hs6 := KMb.out s t
           have KE6 : Hid (∀ p' j, (if p' = i ∧ j = t then M i t ^^^ Gf.mul y (M s t) else addK i s y t M p' j) = addK i s y (t + 1) M p' j) := fun p' j => addK_step KMb.out hy5 p' j
           have hfr6 := hM6.free hir rfl t
           rw [KGi.out.1] at hfr6
           have hgB := (hM6.glt hir rfl).1
           rw [KGi.out.1] at hgB
           have KM6 : Hid (MatG wr B E G r cap g2 C2 W (addK i s y t M)) := hM6
           have hmu := sMul_nat y (M s t) wr.drew hy5 hs6
           have hml := Gf.mul_lt hy5 hs6
           have hxr := xor_i64 (M i t) (Gf.mul y (M s t)) (by omega) (by omega)
           obtain ⟨P, hP⟩ : ∃ P, M i t = P := ⟨_, rfl⟩
           obtain ⟨Q, hQ⟩ : ∃ Q, M s t = Q := ⟨_, rfl⟩
           rw [hP] at he6 hf6 KE6 hxr
           rw [hQ] at hes hs6 KE6 hmu hml hxr
           clear hP hQ hv1 hv2 hM6
           go_wp2_with fail
           go_still_tail 22, Tryz.mixedM
           still_call hmu
           repeat still_step
           refine wpStill_nil ?_
           obtain ⟨w4, hw4⟩ : ∃ w4, w4 = wr.drew := ⟨_, rfl⟩
           have hb4 : Below wr.heap.size wr w4 := by rw [hw4]; exact ⟨rfl, rfl, rfl, Nat.le_refl _, fun _ _ => rfl⟩
           have ew : ({ heap := wr.heap, tape := wr.tape, drawn := wr.drawn + 1, os := wr.os, output := wr.output } : World) = w4 := by rw [hw4]; rfl
           rw [ew]
           have he4 := (hb4.cell (p := ⟨gi, t, none⟩) (block_lt_of_cell he6)).trans he6
           have hfr4 := (World.frozen?_of_block (a := ⟨gi, t, none⟩) (hb4.block _ (block_lt_of_cell he6))).trans hfr6
           have HS : Hid (MatG (w4.setCell ⟨gi, t, none⟩ (.int .i64 ((P ^^^ Gf.mul y Q : Nat) : Int))) B E G r cap g2 C2 W (addK i s y (t + 1) M)) := by
            have := MatG.set (KM6.out.below hb4) (i := i) (j := t) (v := P ^^^ Gf.mul y Q) hir htW (fun p' q' _ _ => KE6.out p' q')
            rw [KGi.out.1] at this
            exact this
           have HB : Hid (Below B w (w4.setCell ⟨gi, t, none⟩ (.int .i64 ((P ^^^ Gf.mul y Q : Nat) : Int)))) := (hb6.trans (hb4.mono (by have := KM6.out.olt; omega))).setCell hgB _
           clear hmu he6 hes hhs6 hfr6 KM6 hb6 hw4 ew hh6
           go_wp2
           go_roundw
           case rel => exact ⟨t + 1, by omega, by go_num, HS.out, HB.out⟩
           case measure => simp [intOf] <;> omega
          ·obtain rfl : W = t := by omega
           have hti : ¬ (W : Int) < (W : Int) := by omega
           have KM7 : Hid (MatG wr B E G r cap g2 C2 W (clrK s c (i + 1) N)) := hM6.congr (fun p' _ => ⟨rfl, rfl, rfl, fun j hj => by rw [KNX.out p' j hj]⟩)
           clear hM6
           go_wp2
           go_roundw
           case rel => exact ⟨i + 1, by omega, by go_num, KM7.out, hb6⟩
           case measure => simp [intOf] <;> omega
       ·obtain rfl : r = i := by omega
        have hii : ¬ (r : Int) < (r : Int) := by omega
        have KM8 : Hid (MatG wr B E G r cap g2 C2 W (Gm.one F s p c)) := hM5.congr (fun p' hp' => ⟨rfl, rfl, rfl, fun j _ => by
         rw [← KONE.out]
         unfold clrK Gm.clr
         by_cases e : p' = s
         ·rw [if_neg (by omega), if_pos e]
         ·rw [if_pos ⟨hp', e⟩, if_neg e]⟩)
        clear hM5
        go_wp2
        go_roundw
        case rel => exact ⟨c + 1, g2, C2, by omega, by rw [KH2.out]; go_num, by go_num, by rw [KH2.out]; exact KM8.out, hb5⟩
        case measure => simp [intOf] <;> omega
end Go.Proofs.YtmhcdkbgjjibeaaGreatDoor
