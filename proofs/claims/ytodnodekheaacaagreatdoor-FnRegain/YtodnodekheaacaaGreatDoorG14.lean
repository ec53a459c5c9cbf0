import Derived.Test.YtodnodekheaacaaGreatDoorG10
set_option maxHeartbeats 8000000
set_option maxRecDepth 2000
open Go.ChangeShapes Go.WideShapes Go.ChangeAt Go.RowKit
namespace Go.Proofs.YtodnodekheaacaaGreatDoor
theorem mul1_any (pa pb r n c i j : Nat) (F H : Nat → Nat → Nat) (w : World) (ha : RdU w pa r n F) (hb : RdU w pb n c H) (hF : Gm.Byt F) (hH : Gm.Byt H) (hi : i < r) (hj : j < c) (hn : n ≤ 1048576) :
  Calls Tryz.prog 138 #[.int .i64 (i : Int), .int .i64 (j : Int), .pointer (some ⟨pa, 0, none⟩), .pointer (some ⟨pb, 0, none⟩)] w fun e w' => e = .returned (.int .u8 ((Gm.mp n F H i j : Nat) : Int)) ∧ Below w.heap.size w w' := by
 obtain ⟨Ga, ca, hpa, hra⟩ := ha
 obtain ⟨ga, cca, hca, hea⟩ := hra i hi
 have hi' : (i : Int) < (r : Int) := by omega
 have hj' : (j : Int) < (c : Int) := by omega
 have KB : Hid (RdU w pb n c H) := hb
 have KE : Hid _ := hea
 clear hra hea hb
 go_enter Tryz.func138, Tryz.ntmps138
 go_wp2
 go_loopw [7, 15] (fun s p wr => ∃ k V : Nat, k ≤ n ∧ V < 256 ∧ s = .int .u8 (V : Int) ∧ p = .int .i64 (k : Int) ∧ Hid (V = Gm.sm (fun t => Gp.m (F i t) (H t j)) k) ∧ Below w.heap.size w wr) (fun _ p _ => n - (intOf p).toNat)
 case atStart => exact ⟨0, 0, Nat.zero_le _, by omega, rfl, rfl, rfl, Below.refl _ _⟩
 case round =>
  obtain ⟨k, V, hk, hV, rfl, rfl, HV, hbel⟩ := hrel
  by_cases hlt : k < n
  ·have hki : (k : Int) < (n : Int) := by omega
   have hx0 := KE.out k hlt
   have hx := (hbel.cell (p := ⟨ga, k, none⟩) (block_lt_of_cell hx0)).trans hx0
   obtain ⟨Gb, cb, hpb, hrb⟩ := KB.out.below hbel
   obtain ⟨gb, ccb, hcb, heb⟩ := hrb k hlt
   have hy := heb j hj
   clear hx0 heb hrb hca hpa
   have hf := hF i k
   have hh := hH k j
   have HV2 : Hid (V ^^^ Gf.mul (F i k) (H k j) = Gm.sm (fun t => Gp.m (F i t) (H t j)) (k + 1)) := by
    show _ = _
    rw [Gm.sm_s, HV.out, Gp.m_nat hf hh]
   have hml := Gf.mul_lt hf hh
   have hxl : Hid (V ^^^ Gf.mul (F i k) (H k j) < 256) := Gf.xor_lt hV hml
   generalize F i k = x at hx hf HV2 hml hxl
   generalize H k j = y at hy hh HV2 hml hxl
   go_wp2_with (first | (go_at_call 70; refine (times_any x y _ hf hh).mono ?_; rintro e w5 ⟨rfl, hb5⟩) | (go_at_call 68; refine (plus_any V (Gf.mul x y) _ hV hml).mono ?_; rintro e w6 ⟨rfl, hw6⟩; obtain rfl := hw6.symm))
   go_roundw
   case rel => exact ⟨k + 1, _, by omega, hxl.out, rfl, by go_num, HV2.out, below2 hbel hb5⟩
   case measure => simp [intOf] <;> omega
  ·obtain rfl : k = n := by omega
   go_wp2
   go_ret
   exact ⟨by rw [HV.out] <;> rfl, hbel⟩
theorem mulEnter : ∀ args w, (callFunc 138 args).run Tryz.prog w = .ok (.enter 138 args) w := enters_of Tryz.func138 (by kernel_rfl) rfl
theorem mulFill {pa pb r n c : Nat} {F H : Nat → Nat → Nat} {w : World} (ha : RdU w pa r n F) (hb : RdU w pb n c H) (hF : Gm.Byt F) (hH : Gm.Byt H) (hn : n ≤ 1048576) :
  FillBy 138 #[.pointer (some ⟨pa, 0, none⟩), .pointer (some ⟨pb, 0, none⟩)] r c (Gm.mp n F H) w := fun W i j hW hi hj => mul1_any pa pb r n c i j F H W (ha.below hW) (hb.below hW) hF hH hi hj hn
def MulOk (n : Nat) (L : Nat → Nat) (Z : Nat → Nat → Int) (n' : Nat) (L' : Nat → Nat) (Z' : Nat → Nat → Int) : Prop := OkM n L Z ∧ OkM n' L' Z' ∧ L 0 = n'
noncomputable def muOk (n : Nat) (L : Nat → Nat) (Z : Nat → Nat → Int) (n' : Nat) (L' : Nat → Nat) (Z' : Nat → Nat → Int) : Bool := @decide (MulOk n L Z n' L' Z') (Classical.propDecidable _)
theorem muOk_yes {n : Nat} {L : Nat → Nat} {Z : Nat → Nat → Int} {n' : Nat} {L' : Nat → Nat} {Z' : Nat → Nat → Int} (h : MulOk n L Z n' L' Z') : muOk n L Z n' L' Z' = true := by unfold muOk; exact @decide_eq_true _ (Classical.propDecidable _) h
theorem muOk_no {n : Nat} {L : Nat → Nat} {Z : Nat → Nat → Int} {n' : Nat} {L' : Nat → Nat} {Z' : Nat → Nat → Int} (h : ¬ MulOk n L Z n' L' Z') : muOk n L Z n' L' Z' = false := by unfold muOk; exact @decide_eq_false _ (Classical.propDecidable _) h
noncomputable def muR (n : Nat) (L : Nat → Nat) (Z : Nat → Nat → Int) (n' : Nat) (L' : Nat → Nat) (Z' : Nat → Nat → Int) : Nat := if muOk n L Z n' L' Z' = true then n else 0
theorem mulM_any (a : Option Addr) (n cap : Nat) (L : Nat → Nat) (Z : Nat → Nat → Int) (a' : Option Addr) (n' cap' : Nat) (L' : Nat → Nat) (Z' : Nat → Nat → Int) (w : World) (h : MatAt w a n L Z) (h' : MatAt w a' n' L' Z') (hL : ∀ i, i < n → L i ≤ 1048576) (hL' : ∀ i, i < n' → L' i ≤ 1048576) :
  Calls Tryz.prog 96 #[.slice a n cap, .slice a' n' cap'] w fun e w' => ∃ v, e = .returned (.tuple #[v, .bool (muOk n L Z n' L' Z')]) ∧ ResM w w' v (muR n L Z n' L' Z') (L' 0) (Gm.mp n' (bZ n L Z) (bZ n' L' Z')) ∧ Below w.heap.size w w' := by
 by_cases ok : OkM n L Z
 ·have KR : Hid _ := readM_b a n cap L Z w h ok
  have hn : 1 ≤ n ∧ n ≤ 16 ∧ 1 ≤ L 0 ∧ L 0 ≤ 16 := ⟨ok.1, ok.2.1, ok.2.2.1, ok.2.2.2.1⟩
  have hn0' : 0 < n := by omega
  by_cases ok' : OkM n' L' Z'
  ·have hn' : 1 ≤ n' ∧ n' ≤ 16 ∧ 1 ≤ L' 0 ∧ L' 0 ≤ 16 := ⟨ok'.1, ok'.2.1, ok'.2.2.1, ok'.2.2.2.1⟩
   have hn1' : 0 < n' := by omega
   have KR' : Hid (∀ W, Below w.heap.size w W → _) := fun W hW => readM_b a' n' cap' L' Z' W (h'.below hW) ok'
   have hbt := bZ_byt n L Z
   have hbt' := bZ_byt n' L' Z'
   have hmo : MulOk n L Z n' L' Z' ↔ L 0 = n' := ⟨fun hh => hh.2.2, fun hh => ⟨ok, ok', hh⟩⟩
   have hR1 : L 0 = n' → muR n L Z n' L' Z' = n := fun e => by unfold muR; rw [if_pos (muOk_yes (hmo.2 e))]
   have hR2 : L 0 ≠ n' → muR n L Z n' L' Z' = 0 := fun e => by unfold muR; rw [if_neg (by rw [muOk_no (fun hh => e (hmo.1 hh))]; simp)]
   have hO1 : L 0 = n' → muOk n L Z n' L' Z' = true := fun e => muOk_yes (hmo.2 e)
   have hO2 : L 0 ≠ n' → muOk n L Z n' L' Z' = false := fun e => muOk_no (fun hh => e (hmo.1 hh))
   generalize muOk n L Z n' L' Z' = okf at hO1 hO2
   generalize muR n L Z n' L' Z' = R at hR1 hR2
   generalize bZ n L Z = F at KR hbt
   generalize bZ n' L' Z' = H at KR' hbt'
   clear hmo ok ok' h h' hL hL'
   generalize L 0 = l at hn KR hR1 hR2 hO1 hO2
   generalize L' 0 = l' at hn' KR'
   have KT : Hid (Gm.Byt F) := hbt
   have KT' : Hid (Gm.Byt H) := hbt'
   clear hbt hbt'
   by_cases e : l = n'
   ·obtain rfl := hO1 e
    have hRn := (hR1 e).symm
    subst hRn
    subst e
    clear hO1 hO2 hR1 hR2
    go_enter Tryz.func96, Tryz.ntmps96
    go_wp2_with fail
    refine Calls.mono KR.out ?_
    rintro e w2 ⟨rfl, ⟨g, hM⟩, hb2⟩
    have hp := boxed w2 (.slice (some ⟨w.heap.size, 0, none⟩) n n) 186
    have hb3 : Below w2.heap.size w2 (w2.alloc (.cells #[.slice (some ⟨w.heap.size, 0, none⟩) n n] 186)) := (Below.refl _ _).alloc (Nat.le_refl _) _
    have hRd := MatU.rd hM hb3 hp
    have hd0 := (hM.below hb3).hdr (i := 0) (by omega)
    obtain ⟨W, hW⟩ : ∃ W, w2.alloc (.cells #[.slice (some ⟨w.heap.size, 0, none⟩) n n] 186) = W := ⟨_, rfl⟩
    have KW2 : Hid (w2.alloc (.cells #[.slice (some ⟨w.heap.size, 0, none⟩) n n] 186) = W) := hW
    rw [hW] at hp hb3 hRd hd0
    generalize g 0 = g0 at hd0
    have KRd : Hid (RdU W w2.heap.size n l F) := hRd
    have KB : Hid (Below w.heap.size w W) := below2 hb2 hb3
    have hpl := block_lt_of_cell hp
    have hdl := block_lt_of_cell hd0
    have hKR' := KR'.out W KB.out
    clear hM hRd hW hb2 hb3 KR KR'
    go_wp2_with fail
    rw [KW2.out]
    refine Calls.mono hKR' ?_
    rintro e w4 ⟨rfl, ⟨g', hM'⟩, hb4⟩
    have hp' := boxed w4 (.slice (some ⟨W.heap.size, 0, none⟩) l l) 186
    have hb5 : Below w4.heap.size w4 (w4.alloc (.cells #[.slice (some ⟨W.heap.size, 0, none⟩) l l] 186)) := (Below.refl _ _).alloc (Nat.le_refl _) _
    have hRd' := MatU.rd hM' hb5 hp'
    have hd0' := (hM'.below hb5).hdr (i := 0) (by omega)
    have hp2 := ((below2 hb4 hb5).cell (p := ⟨w2.heap.size, 0, none⟩) hpl).trans hp
    have hd2 := ((below2 hb4 hb5).cell (p := ⟨w.heap.size, 0, none⟩) hdl).trans hd0
    generalize g' 0 = g0' at hd0'
    have KRa := KRd.out.below (below2 hb4 hb5)
    have KB5 := below2 KB.out (below2 hb4 hb5)
    clear hM' hb4 hb5 hp hd0 hpl hdl KRd KB KW2 hKR'
    go_wp2_with fail
    generalize w4.alloc (.cells #[.slice (some ⟨W.heap.size, 0, none⟩) l l] 186) = X at *
    go_quiet (fail)
    go_wp2_with fail
    generalize hX2 : X.drewN _ = X2
    have hbX : Below X.heap.size X X2 := by rw [← hX2]; exact below_drewN (Below.refl _ _) _
    have hp3 := (hbX.cell (p := ⟨w2.heap.size, 0, none⟩) (block_lt_of_cell hp2)).trans hp2
    have hd3 := (hbX.cell (p := ⟨w.heap.size, 0, none⟩) (block_lt_of_cell hd2)).trans hd2
    have hp3' := (hbX.cell (p := ⟨w4.heap.size, 0, none⟩) (block_lt_of_cell hp')).trans hp'
    have hd3' := (hbX.cell (p := ⟨W.heap.size, 0, none⟩) (block_lt_of_cell hd0')).trans hd0'
    have KB6 := below2 KB5 hbX
    have hsz6 := KB6.size
    have KF : Hid _ := filled_any 138 #[.pointer (some ⟨w2.heap.size, 0, none⟩), .pointer (some ⟨w4.heap.size, 0, none⟩)] mulEnter n l' (Gm.mp l F H) X2.drew (mulFill ((KRa.below hbX).below ⟨rfl, rfl, rfl, Nat.le_refl _, fun _ _ => rfl⟩) ((hRd'.below hbX).below ⟨rfl, rfl, rfl, Nat.le_refl _, fun _ _ => rfl⟩) KT.out KT'.out (by omega)) (Gm.mp_byt _ _ _) (by omega) (by omega)
    have hq1 := block_lt_of_cell hp3
    have hq2 := block_lt_of_cell hp3'
    have hq3 := block_lt_of_cell hd3'
    clear hX2 hp2 hd2 hp' hd0' KRa hRd' KB5
    go_region_held3 (fun w' => w'.cell? ⟨w2.heap.size, 0, none⟩ = some (.slice (some ⟨w.heap.size, 0, none⟩) n n) ∧ w'.cell? ⟨w4.heap.size, 0, none⟩ = some (.slice (some ⟨W.heap.size, 0, none⟩) l l) ∧ w'.cell? ⟨W.heap.size, 0, none⟩ = some (.slice (some ⟨g0', 0, none⟩) l' l')) (go_keep) ((go_at_call 65; refine Calls.mono KF.out ?_; rintro e w5 ⟨rfl, ⟨A5, hM5⟩, hb5'⟩; have hb5 := below_of_drew hb5'; have KM : Hid _ := hM5; clear hb5' hM5; have hp5 := (hb5.cell (p := ⟨w2.heap.size, 0, none⟩) hq1).trans hp3; have hd5 := (hb5.cell (p := ⟨w4.heap.size, 0, none⟩) hq2).trans hp3'; have hr5 := (hb5.cell (p := ⟨W.heap.size, 0, none⟩) hq3).trans hd3'))
    all_goals
     go_wp2
     go_ret2
     exact ⟨_, rfl, ResM.mk KM.out hsz6, below2 KB6 hb5⟩
   ·obtain rfl := hO2 e
    obtain rfl := hR2 e
    have hne : ((l : Int) != (n' : Int)) = true := by simp; omega
    clear hO1 hO2 hR1 hR2
    go_enter Tryz.func96, Tryz.ntmps96
    go_wp2_with fail
    refine Calls.mono KR.out ?_
    rintro e w2 ⟨rfl, ⟨g, hM⟩, hb2⟩
    have hp := boxed w2 (.slice (some ⟨w.heap.size, 0, none⟩) n n) 186
    have hb3 : Below w2.heap.size w2 (w2.alloc (.cells #[.slice (some ⟨w.heap.size, 0, none⟩) n n] 186)) := (Below.refl _ _).alloc (Nat.le_refl _) _
    have hRd := MatU.rd hM hb3 hp
    have hd0 := (hM.below hb3).hdr (i := 0) (by omega)
    obtain ⟨W, hW⟩ : ∃ W, w2.alloc (.cells #[.slice (some ⟨w.heap.size, 0, none⟩) n n] 186) = W := ⟨_, rfl⟩
    have KW2 : Hid (w2.alloc (.cells #[.slice (some ⟨w.heap.size, 0, none⟩) n n] 186) = W) := hW
    rw [hW] at hp hb3 hRd hd0
    generalize g 0 = g0 at hd0
    have KRd : Hid (RdU W w2.heap.size n l F) := hRd
    have KB : Hid (Below w.heap.size w W) := below2 hb2 hb3
    have hpl := block_lt_of_cell hp
    have hdl := block_lt_of_cell hd0
    have hKR' := KR'.out W KB.out
    clear hM hRd hW hb2 hb3 KR KR'
    go_wp2_with fail
    rw [KW2.out]
    refine Calls.mono hKR' ?_
    rintro e w4 ⟨rfl, ⟨g', hM'⟩, hb4⟩
    have hp' := boxed w4 (.slice (some ⟨W.heap.size, 0, none⟩) n' n') 186
    have hb5 : Below w4.heap.size w4 (w4.alloc (.cells #[.slice (some ⟨W.heap.size, 0, none⟩) n' n'] 186)) := (Below.refl _ _).alloc (Nat.le_refl _) _
    have hRd' := MatU.rd hM' hb5 hp'
    have hd0' := (hM'.below hb5).hdr (i := 0) (by omega)
    have hp2 := ((below2 hb4 hb5).cell (p := ⟨w2.heap.size, 0, none⟩) hpl).trans hp
    have hd2 := ((below2 hb4 hb5).cell (p := ⟨w.heap.size, 0, none⟩) hdl).trans hd0
    generalize g' 0 = g0' at hd0'
    have KRa := KRd.out.below (below2 hb4 hb5)
    have KB5 := below2 KB.out (below2 hb4 hb5)
    clear hM' hb4 hb5 hp hd0 hpl hdl KRd KB KW2 hKR'
    go_wp2_with fail
    generalize w4.alloc (.cells #[.slice (some ⟨W.heap.size, 0, none⟩) n' n'] 186) = X at *
    go_quiet (fail)
    go_wp2
    go_ret2
    exact ⟨_, rfl, ResM.none _ _ _ _, below_drewN KB5 _⟩
  ·have KR' : Hid (∀ W, Below w.heap.size w W → _) := fun W hW => readM_no a' n' cap' L' Z' W (h'.below hW) hL' ok'
   have hO : muOk n L Z n' L' Z' = false := muOk_no (fun hh => ok' hh.2.1)
   have hR : muR n L Z n' L' Z' = 0 := by unfold muR; rw [if_neg (by rw [hO]; simp)]
   rw [hO, hR]
   generalize bZ n L Z = F at KR
   generalize bZ n' L' Z' = H
   clear hO hR ok ok' h h' hL hL'
   generalize L 0 = l at hn KR
   generalize L' 0 = l'
   go_enter Tryz.func96, Tryz.ntmps96
   go_wp2_with fail
   refine Calls.mono KR.out ?_
   rintro e w2 ⟨rfl, _, hb2⟩
   have hb3 : Below w2.heap.size w2 (w2.alloc (.cells #[.slice (some ⟨w.heap.size, 0, none⟩) n n] 186)) := (Below.refl _ _).alloc (Nat.le_refl _) _
   have hKR' := KR'.out _ (below2 hb2 hb3)
   go_wp2_with fail
   refine Calls.mono hKR' ?_
   rintro e w4 ⟨rfl, hb4⟩
   have KB := below2 (below2 (below2 hb2 hb3) hb4) ((Below.refl w4.heap.size w4).alloc (Nat.le_refl _) (.cells #[.slice none 0 0] 186))
   clear hKR' KR KR' hb2 hb3 hb4
   go_wp2_with fail
   generalize w4.alloc (.cells #[.slice none 0 0] 186) = X at *
   go_quiet (fail)
   go_wp2
   go_ret2
   exact ⟨_, rfl, ResM.none _ _ _ _, below_drewN KB _⟩
 ·have KR : Hid _ := readM_no a n cap L Z w h hL ok
  have hO : muOk n L Z n' L' Z' = false := muOk_no (fun hh => ok hh.1)
  have hR : muR n L Z n' L' Z' = 0 := by unfold muR; rw [if_neg (by rw [hO]; simp)]
  rw [hO, hR]
  have KR' : Hid (∀ W, Below w.heap.size w W → Calls Tryz.prog 137 #[.slice a' n' cap'] W fun e w' => ∃ v b, e = .returned (.tuple #[.slice v n' n', .bool b]) ∧ Below W.heap.size W w' ∨ e = .returned (.tuple #[.slice none 0 0, .bool false]) ∧ Below W.heap.size W w') := fun W hW => by
   by_cases ok' : OkM n' L' Z'
   ·refine Calls.mono (readM_b a' n' cap' L' Z' W (h'.below hW) ok') ?_
    rintro e w' ⟨rfl, _, hb⟩
    exact ⟨_, _, .inl ⟨rfl, hb⟩⟩
   ·refine Calls.mono (readM_no a' n' cap' L' Z' W (h'.below hW) hL' ok') ?_
    rintro e w' ⟨rfl, hb⟩
    exact ⟨none, true, .inr ⟨rfl, hb⟩⟩
  clear hO hR ok h h' hL hL'
  generalize bZ n L Z = F
  generalize bZ n' L' Z' = H
  generalize L' 0 = l'
  go_enter Tryz.func96, Tryz.ntmps96
  go_wp2_with fail
  refine Calls.mono KR.out ?_
  rintro e w2 ⟨rfl, hb2⟩
  have hb3 : Below w2.heap.size w2 (w2.alloc (.cells #[.slice none 0 0] 186)) := (Below.refl _ _).alloc (Nat.le_refl _) _
  have hKR' := KR'.out _ (below2 hb2 hb3)
  go_wp2_with fail
  refine Calls.mono hKR' ?_
  rintro e w4 ⟨v, b, ⟨rfl, hb4⟩ | ⟨rfl, hb4⟩⟩
  ·have KB := below2 (below2 (below2 hb2 hb3) hb4) ((Below.refl w4.heap.size w4).alloc (Nat.le_refl _) (.cells #[.slice v n' n'] 186))
   clear hKR' KR KR' hb2 hb3 hb4
   go_wp2_with fail
   generalize w4.alloc (.cells #[.slice v n' n'] 186) = X at *
   go_quiet (fail)
   go_wp2
   go_ret2
   exact ⟨_, rfl, ResM.none _ _ _ _, below_drewN KB _⟩
  ·have KB := below2 (below2 (below2 hb2 hb3) hb4) ((Below.refl w4.heap.size w4).alloc (Nat.le_refl _) (.cells #[.slice none 0 0] 186))
   clear hKR' KR KR' hb2 hb3 hb4
   go_wp2_with fail
   generalize w4.alloc (.cells #[.slice none 0 0] 186) = X at *
   go_quiet (fail)
   go_wp2
   go_ret2
   exact ⟨_, rfl, ResM.none _ _ _ _, below_drewN KB _⟩
end Go.Proofs.YtodnodekheaacaaGreatDoor
