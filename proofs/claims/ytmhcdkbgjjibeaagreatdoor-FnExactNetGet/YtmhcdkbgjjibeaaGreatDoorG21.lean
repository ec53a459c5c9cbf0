import Derived.Test.YtmhcdkbgjjibeaaGreatDoorG19
import Derived.Test.YtmhcdkbgjjibeaaGreatDoorG6
import Derived.Test.YtmhcdkbgjjibeaaGreatDoorG14
import Derived.Test.YtmhcdkbgjjibeaaGreatDoorG8
import Derived.Test.YtmhcdkbgjjibeaaGreatDoorG5
import Derived.Test.YtmhcdkbgjjibeaaGreatDoorRows
import Derived.Test.YtmhcdkbgjjibeaaGreatDoorTie
import Derived.Test.YtmhcdkbgjjibeaaGreatDoorCards
import Derived.Deep.Slices
import Derived.ChangeSame
import Derived.ChangeVars
import Derived.JoinedOf
import Derived.RowKitTokens
import Derived.LaidLaws
import Derived.LaidHandle
import Derived.LaidMore
import Derived.Stop.Joined
import Derived.SevenTiedAt
set_option maxHeartbeats 8000000
set_option maxRecDepth 2000
open Go.ChangeShapes Go.WideShapes Go.ChangeAt Go.RowKit
namespace Go.Proofs.YtmhcdkbgjjibeaaGreatDoor
theorem eqPs_same (a a' : Option Addr) (n ca ca' : Nat) (P : Nat → Pc) (w : World) (h : PiAt w a n P) (h' : PiAt w a' n P) (hn : n ≤ 1048576) (hm : ∀ i, i < n → (P i).m ≤ 1048576) :
  Calls Tryz.prog 11 #[.slice a n ca, .slice a' n ca'] w fun e w' => e = .returned (.bool true) ∧ Below w.heap.size w w' := by
 have KH : Hid (PiAt w a n P ∧ PiAt w a' n P) := ⟨h, h'⟩
 have HM : Hid (∀ i, i < n → (P i).m ≤ 1048576) := hm
 have hnn : ((n : Int) != (n : Int)) = false := by simp
 clear h h' hm
 go_enter Tryz.func11, Tryz.ntmps11
 go_wp2
 go_loopw [5] (fun vi wr => ∃ c : Nat, c ≤ n ∧ vi = .int .i64 (c : Int) ∧ Below w.heap.size w wr) (fun vi _ => n - (intOf vi).toNat)
 case atStart => exact ⟨0, Nat.zero_le _, rfl, Below.refl _ _⟩
 case round =>
  obtain ⟨c, hcn, rfl, hbel⟩ := hrel
  by_cases hlt : c < n
  ·have hki : (c : Int) < (n : Int) := by omega
   have hmc := HM.out c hlt
   obtain ⟨b1, f1, ap, cp, rfl, hc1, ht1⟩ := (KH.out.1.below hbel) c hlt
   obtain ⟨b2, f2, aq, cq, rfl, hc2, ht2⟩ := (KH.out.2.below hbel) c hlt
   generalize P c = p at hc1 hc2 ht1 ht2 hmc
   obtain ⟨rr, kk, nn, ii, bb, m, S⟩ := p
   have x0 := hc1 0 (by omega)
   have y0 := hc2 0 (by omega)
   have x1 := hc1 1 (by omega)
   have y1 := hc2 1 (by omega)
   have x2 := hc1 2 (by omega)
   have y2 := hc2 2 (by omega)
   have x3 := hc1 3 (by omega)
   have y3 := hc2 3 (by omega)
   have x4 := hc1 4 (by omega)
   have y4 := hc2 4 (by omega)
   have x5 := hc1 5 (by omega)
   have y5 := hc2 5 (by omega)
   simp only [cel, Nat.add_zero, ← Nat.add_assoc] at x0 y0 x1 y1 x2 y2 x3 y3 x4 y4 x5 y5
   have l1 := block_lt_of_cell x0
   have l2 := block_lt_of_cell y0
   have KT : Hid (∀ W, Below wr.heap.size wr W → Calls Tryz.prog 30 #[pcV rr kk nn ii bb (.slice ap m cp), pcV rr kk nn ii bb (.slice aq m cq)] W fun e w' => e = .returned (.bool true) ∧ Below W.heap.size W w') := fun W hW => eqPc_same rr kk nn ii bb ap aq m cp cq S W (ht1.below hW) (ht2.below hW) hmc
   have KB : Hid (Below w.heap.size w wr) := hbel
   clear hc1 hc2 ht1 ht2 hmc hbel
   go_wp2_with fail
   go_region_held3 (fun w' => w'.cell? ⟨b1, f1 + c * 6, none⟩ = some (.string rr) ∧ w'.cell? ⟨b1, f1 + c * 6 + 1, none⟩ = some (.int .i64 kk) ∧ w'.cell? ⟨b1, f1 + c * 6 + 2, none⟩ = some (.int .i64 nn) ∧ w'.cell? ⟨b1, f1 + c * 6 + 3, none⟩ = some (.int .i64 ii) ∧ w'.cell? ⟨b1, f1 + c * 6 + 4, none⟩ = some (.string bb) ∧ w'.cell? ⟨b1, f1 + c * 6 + 5, none⟩ = some (.slice ap m cp) ∧ w'.cell? ⟨b2, f2 + c * 6, none⟩ = some (.string rr) ∧ w'.cell? ⟨b2, f2 + c * 6 + 1, none⟩ = some (.int .i64 kk) ∧ w'.cell? ⟨b2, f2 + c * 6 + 2, none⟩ = some (.int .i64 nn) ∧ w'.cell? ⟨b2, f2 + c * 6 + 3, none⟩ = some (.int .i64 ii) ∧ w'.cell? ⟨b2, f2 + c * 6 + 4, none⟩ = some (.string bb) ∧ w'.cell? ⟨b2, f2 + c * 6 + 5, none⟩ = some (.slice aq m cq)) (go_keep) ((go_at_call 30; refine Calls.mono (KT.out _ ⟨rfl, rfl, rfl, Nat.le_refl _, fun _ _ => rfl⟩) ?_; rintro e w7 ⟨rfl, b7'⟩; have b7 := below_of_drew b7'; clear b7'; have p0 := (b7.cell (p := ⟨b1, f1 + c * 6, none⟩) l1).trans x0; have z0 := (b7.cell (p := ⟨b2, f2 + c * 6, none⟩) l2).trans y0; have p1 := (b7.cell (p := ⟨b1, f1 + c * 6 + 1, none⟩) l1).trans x1; have z1 := (b7.cell (p := ⟨b2, f2 + c * 6 + 1, none⟩) l2).trans y1; have p2 := (b7.cell (p := ⟨b1, f1 + c * 6 + 2, none⟩) l1).trans x2; have z2 := (b7.cell (p := ⟨b2, f2 + c * 6 + 2, none⟩) l2).trans y2; have p3 := (b7.cell (p := ⟨b1, f1 + c * 6 + 3, none⟩) l1).trans x3; have z3 := (b7.cell (p := ⟨b2, f2 + c * 6 + 3, none⟩) l2).trans y3; have p4 := (b7.cell (p := ⟨b1, f1 + c * 6 + 4, none⟩) l1).trans x4; have z4 := (b7.cell (p := ⟨b2, f2 + c * 6 + 4, none⟩) l2).trans y4; have p5 := (b7.cell (p := ⟨b1, f1 + c * 6 + 5, none⟩) l1).trans x5; have z5 := (b7.cell (p := ⟨b2, f2 + c * 6 + 5, none⟩) l2).trans y5))
   all_goals
    have HB7 : Hid (Below w.heap.size w w7) := below2 KB.out b7
    clear p0 z0 x0 y0 p1 z1 x1 y1 p2 z2 x2 y2 p3 z3 x3 y3 p4 z4 x4 y4 p5 z5 x5 y5 b7
    go_wp2
    go_roundw
    case rel => exact ⟨c + 1, by omega, by go_num, HB7.out⟩
    case measure => simp [intOf]; omega
  ·go_wp2
   go_ret
   exact ⟨rfl, hbel⟩
structure PcB (p : Pc) : Prop where
 r : p.r.size ≤ maxLen
 b : p.b.size ≤ maxLen
 m : p.m ≤ maxLen
 tx : ∀ i, i < p.m → (p.S i).size ≤ maxLen
def wtLp (n : Nat) (P : Nat → Pc) : Nat := n + tot (fun i => wtP (P i)) n
theorem szPs_any (a : Option Addr) (n cap : Nat) (P : Nat → Pc) (l : Nat) (w : World) (h : PiAt w a n P) (hl : l ≤ 1048576) (hn : n ≤ maxLen) (hL : ∀ i, i < n → PcB (P i)) :
  Calls Tryz.prog 5 #[.slice a n cap, .int .i64 (l : Int)] w fun e w' => e = .returned (.int .i64 (szN l (wtLp n P))) ∧ Below w.heap.size w w' := by
 unfold maxLen at hn
 by_cases h1 : n ≤ l
 ·obtain ⟨d, hd⟩ : ∃ d, l - n = d := ⟨_, rfl⟩
  have hw : IntKind.i64.wrap ((l : Int) - (n : Int)) = (d : Int) := by rw [IntKind.wrap_i64]; omega
  have h0 : ¬ ((d : Int) < 0) := by omega
  have KL : Hid (∀ i, i < n → PcB (P i)) := hL
  have KH : Hid (PiAt w a n P) := h
  clear hL h
  go_enter Tryz.func5, Tryz.ntmps5
  go_wp2
  go_loopw [1, 5] (fun p i wr => ∃ c q : Nat, c ≤ n ∧ q ≤ 1048576 ∧ Hid (tot (fun i => wtP (P i)) c + q = d) ∧ p = .int .i64 (q : Int) ∧ i = .int .i64 (c : Int) ∧ Below w.heap.size w wr) (fun _ i _ => n - (intOf i).toNat)
  case atStart => exact ⟨0, d, Nat.zero_le _, by omega, by show 0 + d = d; omega, rfl, rfl, Below.refl _ _⟩
  case round =>
   obtain ⟨c, q, hc, hq, HT, rfl, rfl, hbel⟩ := hrel
   clear hw h0
   by_cases hlt : c < n
   ·obtain ⟨b1, f1, ap, cp, rfl, hc1, ht1⟩ := (KH.out.below hbel) c hlt
    have hti := tot_le (fun i => wtP (P i)) hlt
    have hlti : (c : Int) < (n : Int) := by omega
    have HT' := HT.out
    obtain ⟨lc, HLC⟩ : ∃ x, Hid (wtP (P c) = x) := ⟨_, rfl⟩
    have KTS : Hid (tot (fun i => wtP (P i)) (c + 1) = tot (fun i => wtP (P i)) c + lc) := by rw [← HLC.out]; rfl
    have hti' : tot (fun i => wtP (P i)) c + lc ≤ tot (fun i => wtP (P i)) n := by rw [← HLC.out]; exact hti
    have hb := KL.out c hlt
    have KZ : Hid (Calls Tryz.prog 15 #[pcV (P c).r (P c).k (P c).n (P c).i (P c).b (.slice ap (P c).m cp), .int .i64 (q : Int)] wr fun e w' => e = .returned (.int .i64 (szN q lc)) ∧ Below wr.heap.size wr w') := by
     rw [← HLC.out, ← szPc_eq]
     exact szPc_any _ _ _ _ _ ap _ cp _ q wr ht1 hq hb.m hb.tx hb.r hb.b
    have x0 := hc1 0 (by omega)
    have x1 := hc1 1 (by omega)
    have x2 := hc1 2 (by omega)
    have x3 := hc1 3 (by omega)
    have x4 := hc1 4 (by omega)
    have x5 := hc1 5 (by omega)
    simp only [cel, Nat.add_zero, ← Nat.add_assoc] at x0 x1 x2 x3 x4 x5
    have KB : Hid (Below w.heap.size w wr) := hbel
    clear hti hc1 ht1 hbel hb
    by_cases h2 : lc ≤ q
    ·obtain ⟨q', hq'⟩ : ∃ q', q - lc = q' := ⟨_, rfl⟩
     have h3 : ¬ ((q' : Int) < 0) := by omega
     have HT2 : Hid (tot (fun i => wtP (P i)) (c + 1) + q' = d) := by show _ = _; rw [KTS.out]; omega
     have hq2 : q' ≤ 1048576 := by omega
     rw [szN_yes h2, hq'] at KZ
     clear HT HT' hti' KTS
     go_wp2_with fail
     refine Calls.mono KZ.out ?_
     rintro e w1 ⟨rfl, bb⟩
     have KB1 : Hid (Below w.heap.size w w1) := below2 KB.out bb
     clear bb KZ x0 x1 x2 x3 x4 x5
     go_wp2
     go_roundw
     case rel => exact ⟨c + 1, q', by omega, hq2, HT2, rfl, by go_num, KB1.out⟩
     case measure => simp [intOf] <;> omega
    ·have HR : Hid (szN l (wtLp n P) = -1) := szN_no (by unfold wtLp; omega)
     rw [szN_no h2] at KZ
     clear HT HT' hti' KTS
     go_wp2_with fail
     refine Calls.mono KZ.out ?_
     rintro e w1 ⟨rfl, bb⟩
     have KB1 : Hid (Below w.heap.size w w1) := below2 KB.out bb
     clear bb KZ x0 x1 x2 x3 x4 x5
     go_wp2
     go_ret
     exact ⟨ret_int HR.out.symm, KB1.out⟩
   ·obtain rfl : c = n := by omega
    have HR : Hid (szN l (wtLp c P) = (q : Int)) := by
     have := HT.out
     have e : l - (c + tot (fun i => wtP (P i)) c) = q := by omega
     exact (szN_yes (by unfold wtLp; omega)).trans (by unfold wtLp; rw [e])
    clear KH
    go_wp2
    go_ret
    exact ⟨ret_int HR.out.symm, hbel⟩
 ·have h0 : (l : Int) - (n : Int) < 0 := by omega
  have hw : IntKind.i64.wrap ((l : Int) - (n : Int)) = (l : Int) - (n : Int) := by rw [IntKind.wrap_i64]; omega
  have HR : Hid (szN l (wtLp n P) = -1) := szN_no (by unfold wtLp; omega)
  clear h hL
  go_enter Tryz.func5, Tryz.ntmps5
  go_wp2
  go_ret
  exact ⟨ret_int HR.out.symm, Below.refl _ _⟩
def cpc (P : Nat → Pc) (ga : Nat → Nat) (k i : Nat) : Nat → Value := if i < k then cel (P i) (.slice (some ⟨ga i, 0, none⟩) (P i).m (P i).m) else zc
theorem toPs_any (a : Option Addr) (n cap : Nat) (P : Nat → Pc) (w : World) (h : PiAt w a n P) (hn : n ≤ 1048576) (hm : ∀ i, i < n → (P i).m ≤ 1048576) :
  Calls Tryz.prog 8 #[.slice a n cap] w fun e w' => ∃ (G : Nat) (A : Nat → Option Addr) (C : Nat → Nat), e = .returned (.slice (some ⟨G, 0, none⟩) n n) ∧ OwnP w' w.heap.size (some ⟨G, 0, none⟩) n n A C P ∧ Below w.heap.size w w' := by
 obtain ⟨i0, hi, hz0, hz1, hz2⟩ := info_parts Tryz.infoPc3
 have KH : Hid (PiAt w a n P) := h
 have HM : Hid (∀ i, i < n → (P i).m ≤ 1048576) := hm
 clear h hm
 go_enter Tryz.func8, Tryz.ntmps8
 go_wp2_with (at_make; refine wpList_make_full _ rfl _ _ 37 rfl w.heap.size 49 i0 _ 6 Tryz.underlying37 hi hz0 hz1 .i64 .i64 _ _ n rfl rfl rfl rfl (by rw [hz2]; omega) (by unfold maxLen; omega) (Nat.le_refl _) ?_; intro w1 hown hgrow)
 have hb1 : Below w.heap.size w w1 := (Below.refl _ _).grown hgrow (Nat.le_refl _) (by simp)
 obtain ⟨G, HG⟩ : ∃ x, Hid (x = w.heap.size) := ⟨_, rfl⟩
 have ho1 : OwnC w1 w.heap.size (some ⟨G, 0, none⟩) n n (cpc P (fun _ => 0) 0) := by
  unfold OwnC
  rw [gL_congr (c' := fun _ => zc) (fun i q _ _ => by simp [cpc]), ← made_gL, HG.out]
  exact hown
 have HGw : Hid (w.heap.size ≤ G) := by show _ ≤ _; rw [HG.out]; exact Nat.le_refl _
 rw [← HG.out]
 clear hown hgrow
 go_loopw [4] (fun vi wr => ∃ (k : Nat) (ga : Nat → Nat), k ≤ n ∧ vi = .int .i64 (k : Int) ∧ OwnC wr w.heap.size (some ⟨G, 0, none⟩) n n (cpc P ga k) ∧ Hid (∀ i, i < k → OwnT wr w.heap.size (some ⟨ga i, 0, none⟩) (P i).m (P i).m (P i).S ∧ G < ga i ∧ ga i < wr.heap.size ∧ ∀ j, i < j → j < k → ga i < ga j) ∧ Below w.heap.size w wr) (fun vi _ => n - (intOf vi).toNat)
 case atStart => exact ⟨0, fun _ => 0, Nat.zero_le _, rfl, ho1, fun i hi => absurd hi (Nat.not_lt_zero _), hb1⟩
 case round =>
  obtain ⟨c, ga, hcn, rfl, hown, HT, hbel⟩ := hrel
  clear ho1 hb1
  by_cases hlt : c < n
  ·have hci : (c : Int) < (n : Int) := by omega
   obtain ⟨b1, f1, ap, cp, rfl, hc1, ht1⟩ := (KH.out.below hbel) c hlt
   have KT : Hid _ := toPc_any (P c).r (P c).k (P c).n (P c).i (P c).b ap (P c).m cp (P c).S wr ht1 (HM.out c hlt)
   have x0 := hc1 0 (by omega)
   have x1 := hc1 1 (by omega)
   have x2 := hc1 2 (by omega)
   have x3 := hc1 3 (by omega)
   have x4 := hc1 4 (by omega)
   have x5 := hc1 5 (by omega)
   simp only [cel, Nat.add_zero, ← Nat.add_assoc] at x0 x1 x2 x3 x4 x5
   have lG := (World.ownsRow.lt hown G rfl).2
   have KO : Hid (OwnC wr w.heap.size (some ⟨G, 0, none⟩) n n (cpc P ga c)) := hown
   have KB : Hid (Below w.heap.size w wr) := hbel
   clear hc1 ht1 hown hbel
   go_wp2_with fail
   refine Calls.mono KT.out ?_
   rintro e w2 ⟨g2, rfl, O2, b2⟩
   have o2 := OwnC.below KO.out b2
   have l2 := World.ownsRow.lt O2 g2 rfl
   have hsz := b2.size
   have hszw := KB.out.size
   have TH : Hid (w2.there G (c * 6) 6) := fun q hq => ⟨by rw [OwnC.cell o2 hlt hq]; rfl, World.ownsRow.frozenAt o2 _⟩
   obtain ⟨w3, HW3⟩ : ∃ x, Hid (x = w2.setCells G (c * 6) (pcC (P c).r (P c).k (P c).n (P c).i (P c).b (.slice (some ⟨g2, 0, none⟩) (P c).m (P c).m)).toList) := ⟨_, rfl⟩
   have hs3 : w3.heap.size = w2.heap.size := by rw [HW3.out]; exact size_setCells _ _ _ _
   have KO3 : Hid (OwnC w3 w.heap.size (some ⟨G, 0, none⟩) n n (cpc P (fun i => if i = c then g2 else ga i) (c + 1))) := by
    have h1 := own_setCells (t := 49) (sz := 6) hlt (pcC (P c).r (P c).k (P c).n (P c).i (P c).b (.slice (some ⟨g2, 0, none⟩) (P c).m (P c).m)).toList 0 w2 (cpc P ga c) rfl o2
    rw [Nat.add_zero, ← HW3.out] at h1
    have h2 : OwnC w3 w.heap.size (some ⟨G, 0, none⟩) n n (fun i' q' => if i' = c ∧ 0 ≤ q' then (pcC (P c).r (P c).k (P c).n (P c).i (P c).b (.slice (some ⟨g2, 0, none⟩) (P c).m (P c).m)).toList.getD (q' - 0) undef else cpc P ga c i' q') := h1
    refine OwnC.congr h2 fun i q hi hq => ?_
    by_cases ei : i = c
    ·subst ei
     simp only [true_and, Nat.zero_le, if_true, Nat.sub_zero, cpc, show i < i + 1 by omega]
     match q, hq with
     | 0, _ | 1, _ | 2, _ | 3, _ | 4, _ | 5, _ => rfl
    ·by_cases e2 : i < c
     ·simp [ei, cpc, e2, show i < c + 1 by omega]
     ·simp [ei, cpc, e2, show ¬ i < c + 1 by omega]
   have HT3 : Hid (∀ i, i < c + 1 → OwnT w3 w.heap.size (some ⟨(fun i => if i = c then g2 else ga i) i, 0, none⟩) (P i).m (P i).m (P i).S ∧ G < (fun i => if i = c then g2 else ga i) i ∧ (fun i => if i = c then g2 else ga i) i < w3.heap.size ∧ ∀ j, i < j → j < c + 1 → (fun i => if i = c then g2 else ga i) i < (fun i => if i = c then g2 else ga i) j) := fun i hi => by
    have keep : ∀ {B : Nat} {x m cc : Nat} {S : Nat → ByteArray}, OwnT w2 B (some ⟨x, 0, none⟩) m cc S → x ≠ G → OwnT w3 B (some ⟨x, 0, none⟩) m cc S := fun {B x m cc S} ho hx => by
     rw [HW3.out]
     refine ⟨ho.1, ?_⟩
     rcases ho.2 with h' | ⟨gg, cap', cur, e1, e2, e3, e4⟩
     ·exact .inl h'
     ·refine .inr ⟨gg, cap', cur, e1, e2, ?_, e4⟩
      cases e1
      rw [heap_setCells_other G _ _ w2 _ hx]
      exact e3
    by_cases ei : i = c
    ·subst ei
     simp only [if_true]
     exact ⟨keep (OwnT.base O2 hszw) (by omega), by omega, by omega, fun j h1 h2 => by omega⟩
    ·obtain ⟨h1, h2, h3, h4⟩ := HT.out i (by omega)
     simp only [ei, if_false]
     refine ⟨keep (OwnT.below h1 b2) (by omega), h2, by omega, fun j hj1 hj2 => ?_⟩
     by_cases ej : j = c
     ·simp only [ej, if_true]; omega
     ·simp only [ej, if_false]; exact h4 j hj1 (by omega)
   have KB3 : Hid (Below w.heap.size w w3) := by show Below _ _ _; rw [HW3.out]; exact below_setCells (below2 KB.out b2) HGw.out _ _
   clear o2 O2 b2 KT KO x0 x1 x2 x3 x4 x5 HT l2 hsz hs3
   go_wp2_with (refine wpList_store_mid (by rfl) 49 _ _ (by rfl) G (c * 6) (pcC (P c).r (P c).k (P c).n (P c).i (P c).b (.slice (some ⟨g2, 0, none⟩) (P c).m (P c).m)) (by rfl) (by rfl) ?_ Tryz.infoPc (by simp [Value.oneCell']) ?_; exact TH.out; rw [← HW3.out])
   go_roundw
   case rel => exact ⟨c + 1, _, by omega, by go_num, KO3.out, HT3, KB3.out⟩
   case measure => simp [intOf]; omega
  ·obtain rfl : c = n := by omega
   have KF : Hid (OwnP wr w.heap.size (some ⟨G, 0, none⟩) c c (fun i => some ⟨ga i, 0, none⟩) (fun i => (P i).m) P) := by
    refine ⟨OwnC.congr hown (fun i q hi _ => by simp [cpc, hi]), fun i hi => (HT.out i hi).1, fun i j x y h1 h2 e1 e2 => ?_, fun i x y h1 e1 e2 => ?_⟩
    ·cases e1
     cases e2
     have := (HT.out i (by omega)).2.2.2 j h1 h2
     show ga i ≠ ga j
     omega
    ·cases e1
     cases e2
     have := (HT.out i h1).2.1
     show ga i ≠ G
     omega
   clear hown
   go_wp2
   go_ret
   exact ⟨G, _, _, rfl, KF.out, hbel⟩
def MineP (root : ByteArray) (id f : Int) (r : ByteArray) (k n i : Int) : Prop := r = root ∧ k = f + 1 ∧ n = 3 * f + 1 ∧ i = id
instance (root : ByteArray) (id f : Int) (r : ByteArray) (k n i : Int) : Decidable (MineP root id f r k n i) := by unfold MineP; infer_instance
theorem open_pieces {H : Type} {enc : TypeId × Value → H} {w : World} {base : Nat} {spare : Nat → Bool} {held : Bool} {fuel : Nat} {a : Option Addr} {n c : Nat} {x : DataW H × List MemPlace} (h : DataW.trod enc Tryz.prog w base spare held fuel 27 [.slice a n c] = some x) :
  ∃ P : Nat → Pc, PiAt w a n P ∧ n ≤ maxLen ∧ ∀ i, i < n → PcB (P i) := by
 have c6 : Tryz.prog.cellsOf 48 = 6 := by kernel_rfl
 rcases Go.Deep.open_slice Tryz.underlying27 h with ⟨hcs, _⟩ | ⟨ad, len, cap, m, n', D, Pl, hcs, hb, hl, hm, hmm, _, hx⟩
 ·simp at hcs
  obtain ⟨rfl, rfl, rfl⟩ := hcs
  exact ⟨fun _ => ⟨ByteArray.empty, 0, 0, 0, ByteArray.empty, 0, fun _ => ByteArray.empty⟩, fun i hi => absurd hi (Nat.not_lt_zero _), Nat.zero_le _, fun i hi => absurd hi (Nat.not_lt_zero _)⟩
 ·simp at hcs
  obtain ⟨rfl, rfl, rfl⟩ := hcs
  rw [c6] at hx
  have hnm : n ≤ m := by rw [hmm]; split <;> omega
  obtain ⟨b, off, spot⟩ := ad
  have each : ∀ i, ∃ p : Pc, i < n → spot = none ∧ (∃ ap cp, (∀ q, q < 6 → w.cell? ⟨b, off + (i * 6 + q), none⟩ = some (cel p (.slice ap p.m cp) q)) ∧ TxtAt w ap p.m p.S) ∧ PcB p := fun i => by
   by_cases hi : i < n
   ·obtain ⟨cs', h1, h2⟩ := hx i (by omega)
    obtain ⟨r, k, nn, ii, bb, ap, mm, cp, S, rfl, _, hr, hbz, ht⟩ := open_piece h2
    obtain ⟨_, hlen, hcell⟩ := World.cells?_some h1
    have hspot : spot = none := by
     obtain ⟨cs0, g1, g2⟩ := hx 0 (by omega)
     obtain ⟨_, hlen0, hcell0⟩ := World.cells?_some g1
     have h0 := hcell0 0 (by omega)
     obtain ⟨v0, hv0⟩ : ∃ v, cs0[0]? = some v := ⟨cs0[0], List.getElem?_eq_getElem (by omega)⟩
     rw [hv0] at h0
     simpa [Addr.add] using World.cell?_spot h0
    subst hspot
    have ea : ∀ (b off i : Nat), (⟨b, off, none⟩ : Addr).add i = ⟨b, off + i, none⟩ := fun b off i => by unfold Addr.add; split <;> simp_all
    refine ⟨⟨r, k, nn, ii, bb, mm, S⟩, fun _ => ⟨rfl, ⟨ap, cp, fun q hq => ?_, ht.1⟩, ⟨hr, hbz, ht.2.1, ht.2.2⟩⟩⟩
    have h3 := hcell q (by simpa using hq)
    rw [ea, ea] at h3
    rw [← Nat.add_assoc, h3]
    match q, hq with
    | 0, _ | 1, _ | 2, _ | 3, _ | 4, _ | 5, _ => rfl
   ·exact ⟨⟨ByteArray.empty, 0, 0, 0, ByteArray.empty, 0, fun _ => ByteArray.empty⟩, fun h => absurd h hi⟩
  obtain ⟨P, hP⟩ := Classical.axiomOfChoice each
  refine ⟨P, fun i hi => ?_, by omega, fun i hi => (hP i hi).2.2⟩
  obtain ⟨hs, ⟨ap, cp, h1, h2⟩, _⟩ := hP i hi
  subst hs
  exact ⟨b, off, ap, cp, rfl, h1, h2⟩
def laidE : List (String × DataW Unit) := [("errors.errorType", Rows.laid_errors_errorType)]
theorem Tryz.et : Tryz.prog.globalNamed "errors.errorType" = some 0 := by kernel_rfl
theorem Tryz.rt0 : (Tryz.prog.cutTypes.find? (·.1 == "internal/reflectlite.rtype")).map (·.2) = some 191 := by kernel_rfl
theorem Tryz.oneRow : ((List.range 304).filter fun t => Tryz.prog.rowNamed t [101, 114, 114, 111, 114]) = [117] := by kernel_rfl
theorem Tryz.tsize : Tryz.prog.types.size = 304 := by kernel_rfl
theorem errT_of_laid {W : World} (h : laidMetH Tryz.prog laidE W) : ErrT W := by
 have h' : laidMet Tryz.prog [] W ∧ handlesMet Tryz.prog laidE W := h
 obtain ⟨name, u, ty, e1, e2, e3, e4, e5⟩ := h'.2 _ (List.mem_singleton.2 rfl)
 have en : name = [101, 114, 114, 111, 114] := (Option.some.inj e1).symm
 subst en
 obtain rfl := Option.some.inj (Tryz.rt0.symm.trans e2)
 have hm : ty ∈ (List.range 304).filter fun t => Tryz.prog.rowNamed t [101, 114, 114, 111, 114] := List.mem_filter.2 ⟨List.mem_range.2 (by rw [← Tryz.tsize]; exact e3), e4⟩
 rw [Tryz.oneRow] at hm
 obtain rfl := List.mem_singleton.1 hm
 have hh : typeHandle Tryz.prog 117 = .pointer (some ⟨1, 117, none⟩) := by kernel_rfl
 rw [hh] at e5
 have := World.var?_cell Tryz.et e5 0
 show World.cell? _ _ = _
 simpa using this
noncomputable def laidWorld (os : Os) : World :=
 let w0 := World.holding Tryz.prog os ⟨#[], #[], []⟩
 { w0 with heap := w0.heap.modify 0 fun
   | .cells _ t frozen => .cells #[.iface 191 (.agg #[.pointer (some ⟨1, 117, none⟩)])] t frozen
   | o => o }
theorem laidWorld_met (os : Os) (args : Array Value) : laidMetH Tryz.prog laidE ((laidWorld os).forCall (fun _ _ => 0) ⟨#[], args, []⟩).memory :=
 laidMetH_of_parts (laidMet_nil _ _) (by kernel_rfl)
theorem ag13_list {y : Nat → Value} {c0 c1 c2 c3 c4 c5 c6 c7 c8 c9 c10 c11 c12 : Value} (h : ag13 y = .agg #[c0, c1, c2, c3, c4, c5, c6, c7, c8, c9, c10, c11, c12]) : [y 0, y 1, y 2, y 3, y 4, y 5, y 6, y 7, y 8, y 9, y 10, y 11, y 12] = [c0, c1, c2, c3, c4, c5, c6, c7, c8, c9, c10, c11, c12] := by
 have h' := congrArg (fun v => match v with | Value.agg a => a.toList | _ => []) h
 exact h'
abbrev slL (s : Sl) (v6 v11 v12 : Value) : List Value := [.string s.r, .string s.p.r, .int .i64 s.p.k, .int .i64 s.p.n, .int .i64 s.p.i, .string s.p.b, v6, .bool s.h, .bool s.e, .bool s.d, .bool s.o, v11, v12]
theorem slot_at {w : World} {n : Nat} {S : Nat → Sl} {a : Option Addr} {cap : Nat} (h : Rd w (slsD n S) (.slice a n cap)) {i : Nat} (hi : i < n) :
  ∃ (b off : Nat) (a6 a11 a12 : Option Addr) (c6 c11 c12 : Nat), a = some ⟨b, off, none⟩ ∧ w.rangeAt b (off + i * 13) (slL (S i) (.slice a6 (S i).p.m c6) (.slice a11 (S i).ze.length c11) (.slice a12 (S i).zr.length c12)) ∧ TxtAt w a6 (S i).p.m (S i).p.S ∧ IntsAt w a11 (S i).ze.length (S i).ze ∧ IntsAt w a12 (S i).zr.length (S i).zr := by
 obtain ⟨b, off, y, a6, a11, a12, c6, c11, c12, ea, hc, e, t6, t11, t12⟩ := slot_row h hi
 obtain ⟨_, x⟩ := one_row (sz := 12) w (Below.refl _ _) hc
 have R := range13 x
 rw [ag13_list e] at R
 exact ⟨b, off, a6, a11, a12, c6, c11, c12, ea, R, t6, t11, t12⟩
end Go.Proofs.YtmhcdkbgjjibeaaGreatDoor
