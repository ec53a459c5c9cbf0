import Derived.Test.YtodnodekheaacaaGreatDoorI7
set_option maxHeartbeats 8000000
set_option maxRecDepth 2000
open Go.ChangeShapes Go.WideShapes Go.ChangeAt Go.RowKit
namespace Go.Proofs.YtodnodekheaacaaGreatDoor
def ResM (w w' : World) (v : Value) (r c : Nat) (F : Nat → Nat → Nat) : Prop := ∃ a cap A C, v = .slice a r cap ∧ MatI w' w.heap.size w'.heap.size a r cap A (fun _ => c) C (fun i j => ((F i j : Nat) : Int))
theorem ResM.none (w w' : World) (c : Nat) (F : Nat → Nat → Nat) : ResM w w' (.slice none 0 0) 0 c F := ⟨_, _, fun _ => .none, fun _ => 0, rfl, MatZ.nil _ _ _ _ _ _ _ _ _ _⟩
theorem ResM.mk {w w' : World} {a : Option Addr} {r cap c : Nat} {A : Nat → Option Addr} {C : Nat → Nat} {F : Nat → Nat → Nat} {B : Nat} (h : MatI w' B w'.heap.size a r cap A (fun _ => c) C (fun i j => ((F i j : Nat) : Int))) (hB : w.heap.size ≤ B) : ResM w w' (.slice a r cap) r c F :=
 ⟨a, cap, A, C, rfl, ⟨own_base h.out hB, h.oE, fun i hi => own_base (h.row i hi) hB, h.rE, h.apart⟩⟩
theorem spread1_any (kb k i j : Nat) (w : World) (hk : w.cell? ⟨kb, 0, none⟩ = some (.int .i64 (k : Int))) (hi : i < 256) (hj : j < 256) :
  Calls Tryz.prog 66 #[.int .i64 (i : Int), .int .i64 (j : Int), .pointer (some ⟨kb, 0, none⟩)] w fun e w' => e = .returned (.int .u8 ((Gm.sprd k i j : Nat) : Int)) ∧ Below w.heap.size w w' := by
 by_cases h : i < k
 ·have h' : (i : Int) < (k : Int) := by omega
  have HS : Hid (Gm.sprd k i j = Gm.dl i j) := by show _ = _; unfold Gm.sprd; rw [if_pos h]
  go_enter Tryz.func66, Tryz.ntmps66
  go_wp2_with (go_at_call 67; refine (unitAt_any i j _).mono ?_; rintro e w' ⟨rfl, hw⟩; obtain rfl := hw.symm)
  go_ret
  exact ⟨by rw [HS.out] <;> rfl, Below.refl _ _⟩
 ·have h' : ¬ (i : Int) < (k : Int) := by omega
  have HS : Hid (Gm.sprd k i j = Gf.inv (i ^^^ j)) := by show _ = _; unfold Gm.sprd; rw [if_neg h]
  have hx := Gf.xor_lt hi hj
  go_enter Tryz.func66, Tryz.ntmps66
  go_wp2_with (first | (go_at_call 68; refine (plus_any i j _ hi hj).mono ?_; rintro e w' ⟨rfl, hw⟩; obtain rfl := hw.symm) | (go_at_call 69; refine (inverse_any (i ^^^ j) _ hx).mono ?_; rintro e w2 ⟨rfl, hb2⟩))
  go_ret
  exact ⟨by rw [HS.out] <;> rfl, hb2⟩
theorem spreadEnter : ∀ args w, (callFunc 66 args).run Tryz.prog w = .ok (.enter 66 args) w := enters_of Tryz.func66 (by kernel_rfl) rfl
theorem spreadFill (kb k r c : Nat) (w : World) (hk : w.cell? ⟨kb, 0, none⟩ = some (.int .i64 (k : Int))) (hr : r ≤ 256) (hc : c ≤ 256) : FillBy 66 #[.pointer (some ⟨kb, 0, none⟩)] r c (Gm.sprd k) w := fun W i j hb hi hj =>
 spread1_any kb k i j W ((hb.cell (p := ⟨kb, 0, none⟩) (block_lt_of_cell hk)).trans hk) (by omega) (by omega)
theorem boxed (w : World) (v : Value) (t : TypeId) : (w.alloc (.cells #[v] t)).cell? ⟨w.heap.size, 0, none⟩ = some v := cell_of_one (heap_alloc_new w _)
def sprOk (k n : Int) : Bool := side n && decide (1 ≤ k ∧ k ≤ n)
def sprR (k n : Int) : Nat := if sprOk k n = true then n.toNat else 0
theorem spread_any (k n : Int) (w : World) : Calls Tryz.prog 34 #[.int .i64 k, .int .i64 n] w fun e w' => ∃ v, e = .returned (.tuple #[v, .bool (sprOk k n)]) ∧ ResM w w' v (sprR k n) k.toNat (Gm.sprd k.toNat) ∧ Below w.heap.size w w' := by
 have hbx := boxed w (.int .i64 k) 3
 have hb1 : Below w.heap.size w (w.alloc (.cells #[.int .i64 k] 3)) := (Below.refl _ _).alloc (Nat.le_refl _) _
 have hsz : (w.alloc (.cells #[.int .i64 k] 3)).heap.size = w.heap.size + 1 := by simp
 by_cases h1 : side n = true
 ·by_cases h2 : 1 ≤ k
  ·by_cases h3 : k ≤ n
   ·have hr : 1 ≤ n ∧ n ≤ 16 := by simpa [side] using h1
    have hok : sprOk k n = true := by unfold sprOk; rw [h1]; simp; omega
    obtain ⟨N, rfl⟩ : ∃ N : Nat, n = (N : Int) := ⟨n.toNat, by omega⟩
    obtain ⟨K, rfl⟩ : ∃ K : Nat, k = (K : Int) := ⟨k.toNat, by omega⟩
    have hN : sprR (K : Int) (N : Int) = N := by unfold sprR; rw [if_pos hok]; simp
    rw [hN, hok, Int.toNat_natCast]
    have KF : Hid _ := filled_any 66 #[.pointer (some ⟨w.heap.size, 0, none⟩)] spreadEnter N K (Gm.sprd K) _ (spreadFill w.heap.size K N K _ hbx (by omega) (by omega)) (Gm.sprd_byt K) (by omega) (by omega)
    have h2' : ¬ (K : Int) < 1 := by omega
    have h3' : ¬ (K : Int) > (N : Int) := by omega
    obtain ⟨w1, hw1⟩ : ∃ w1, w.alloc (.cells #[.int .i64 (K : Int)] 3) = w1 := ⟨_, rfl⟩
    have KW : Hid (w.alloc (.cells #[.int .i64 (K : Int)] 3) = w1) := hw1
    rw [hw1] at KF hb1 hbx
    clear hw1 hN hok hsz
    go_enter Tryz.func34, Tryz.ntmps34
    go_wp2_with fail
    rw [KW.out]
    refine (isSide_any _ _).mono ?_
    rintro e w' ⟨rfl, hw⟩
    obtain rfl := hw.symm
    go_wp2_with fail
    refine Calls.mono KF.out ?_
    rintro e w2 ⟨rfl, ⟨A, hM⟩, hb2⟩
    have KM : Hid _ := hM
    clear hM
    go_wp2
    go_ret2
    exact ⟨_, rfl, ResM.mk KM.out hb1.size, below2 hb1 hb2⟩
   ·have hok : sprOk k n = false := by unfold sprOk; simp [h3]
    have hN : sprR k n = 0 := by unfold sprR; rw [if_neg (by rw [hok]; simp)]
    rw [hN, hok]
    have h2' : ¬ k < 1 := by omega
    have h3' : k > n := by omega
    clear hok hN
    go_enter Tryz.func34, Tryz.ntmps34
    go_wp2_with fail
    refine (isSide_any _ _).mono ?_
    rintro e w' ⟨rfl, hw⟩
    obtain rfl := hw.symm
    go_wp2
    go_ret2
    exact ⟨_, rfl, ResM.none _ _ _ _, hb1⟩
  ·have hok : sprOk k n = false := by unfold sprOk; simp [h2]
   have hN : sprR k n = 0 := by unfold sprR; rw [if_neg (by rw [hok]; simp)]
   rw [hN, hok]
   have h2' : k < 1 := by omega
   clear hok hN
   go_enter Tryz.func34, Tryz.ntmps34
   go_wp2_with fail
   refine (isSide_any _ _).mono ?_
   rintro e w' ⟨rfl, hw⟩
   obtain rfl := hw.symm
   go_wp2
   go_ret2
   exact ⟨_, rfl, ResM.none _ _ _ _, hb1⟩
 ·have h1' : side n = false := by simpa using h1
  have hok : sprOk k n = false := by unfold sprOk; simp [h1']
  have hN : sprR k n = 0 := by unfold sprR; rw [if_neg (by rw [hok]; simp)]
  rw [hN, hok]
  clear hok hN
  go_enter Tryz.func34, Tryz.ntmps34
  go_wp2_with fail
  refine (isSide_any _ _).mono ?_
  rintro e w' ⟨rfl, hw⟩
  obtain rfl := hw.symm
  go_wp2
  go_ret2
  exact ⟨_, rfl, ResM.none _ _ _ _, hb1⟩
def RdU (w : World) (pb r c : Nat) (F : Nat → Nat → Nat) : Prop :=
 ∃ G cap, w.cell? ⟨pb, 0, none⟩ = some (.slice (some ⟨G, 0, none⟩) r cap) ∧ ∀ i, i < r → ∃ g cc, w.cell? ⟨G, i, none⟩ = some (.slice (some ⟨g, 0, none⟩) c cc) ∧ ∀ j, j < c → w.cell? ⟨g, j, none⟩ = some (.int .u8 ((F i j : Nat) : Int))
theorem RdU.below {w w' : World} {pb r c : Nat} {F : Nat → Nat → Nat} (h : RdU w pb r c F) (hb : Below w.heap.size w w') : RdU w' pb r c F := by
 obtain ⟨G, cap, hp, hr⟩ := h
 refine ⟨G, cap, (hb.cell (p := ⟨pb, 0, none⟩) (block_lt_of_cell hp)).trans hp, fun i hi => ?_⟩
 obtain ⟨g, cc, hc, he⟩ := hr i hi
 exact ⟨g, cc, (hb.cell (p := ⟨G, i, none⟩) (block_lt_of_cell hc)).trans hc, fun j hj => (hb.cell (p := ⟨g, j, none⟩) (block_lt_of_cell (he j hj))).trans (he j hj)⟩
theorem MatU.rd {w w' : World} {B E G r cap c pb : Nat} {g : Nat → Nat} {C : Nat → Nat} {F : Nat → Nat → Nat} (h : MatU w B E (some ⟨G, 0, none⟩) r cap (fun i => some ⟨g i, 0, none⟩) (fun _ => c) C (fun i j => ((F i j : Nat) : Int))) (hb : Below w.heap.size w w') (hp : w'.cell? ⟨pb, 0, none⟩ = some (.slice (some ⟨G, 0, none⟩) r cap)) : RdU w' pb r c F := by
 have h' := h.below hb
 exact ⟨G, cap, hp, fun i hi => ⟨g i, C i, h'.hdr hi, fun j hj => h'.elt hi rfl hj⟩⟩
theorem cZ_byt {n : Nat} {L : Nat → Nat} {Z : Nat → Nat → Int} (ok : OkM n L Z) : ∀ i j, i < n → j < L 0 → cZ Z i j < 256 := fun i j hi hj => by
 obtain ⟨X, hX, e⟩ := isB_nat ((ok.2.2.2.2 i hi).2 j hj)
 unfold cZ
 rw [e]
 simpa using hX
def bZ (n : Nat) (L : Nat → Nat) (Z : Nat → Nat → Int) (i j : Nat) : Nat := if i < n ∧ j < L 0 then cZ Z i j % 256 else 0
theorem bZ_byt (n : Nat) (L : Nat → Nat) (Z : Nat → Nat → Int) : Gm.Byt (bZ n L Z) := fun i j => by unfold bZ; split <;> omega
theorem bZ_eq {n : Nat} {L : Nat → Nat} {Z : Nat → Nat → Int} (ok : OkM n L Z) {i j : Nat} (hi : i < n) (hj : j < L 0) : bZ n L Z i j = cZ Z i j := by
 unfold bZ
 rw [if_pos ⟨hi, hj⟩, Nat.mod_eq_of_lt (cZ_byt ok i j hi hj)]
theorem readM_b (a : Option Addr) (n cap : Nat) (L : Nat → Nat) (Z : Nat → Nat → Int) (w : World) (h : MatAt w a n L Z) (ok : OkM n L Z) :
  Calls Tryz.prog 137 #[.slice a n cap] w fun e w' => e = .returned (.tuple #[.slice (some ⟨w.heap.size, 0, none⟩) n n, .bool true]) ∧ (∃ g : Nat → Nat, MatU w' w.heap.size w'.heap.size (some ⟨w.heap.size, 0, none⟩) n n (fun i => some ⟨g i, 0, none⟩) (fun _ => L 0) (fun _ => L 0) (fun i j => ((bZ n L Z i j : Nat) : Int))) ∧ Below w.heap.size w w' := by
 refine Calls.mono (readM_yes a n cap L Z w h ok) ?_
 rintro e w' ⟨rfl, ⟨g, hM⟩, hb⟩
 exact ⟨rfl, ⟨g, hM.congr (fun i hi => ⟨rfl, rfl, rfl, fun j hj => by rw [bZ_eq ok hi hj]⟩)⟩, hb⟩
theorem mul1_any (pa pb r n c i j : Nat) (F H : Nat → Nat → Nat) (w : World) (ha : RdU w pa r n F) (hb : RdU w pb n c H) (hF : Gm.Byt F) (hH : Gm.Byt H) (hi : i < r) (hj : j < c) (hn : n ≤ 1048576) :
  Calls Tryz.prog 138 #[.int .i64 (i : Int), .int .i64 (j : Int), .pointer (some ⟨pa, 0, none⟩), .pointer (some ⟨pb, 0, none⟩)] w fun e w' => e = .returned (.int .u8 ((Gm.mp n F H i j : Nat) : Int)) ∧ Below w.heap.size w w' := by
 obtain ⟨Ga, ca, hpa, hra⟩ := ha
 obtain ⟨ga, cca, hca, hea⟩ := hra i hi
 have hi' : (i : Int) < (r : Int) := by omega
 have hj' : (j : Int) < (c : Int) := by omega
 have KB : Hid (RdU w pb n c H) := hb
 have KE : Hid _ := hea
 clear hra hea hb
 go_enter Tryz.func138, Tryz.ntmps138
 go_wp2
 go_loopw [7, 15] (fun s p wr => ∃ k V : Nat, k ≤ n ∧ V < 256 ∧ s = .int .u8 (V : Int) ∧ p = .int .i64 (k : Int) ∧ Hid (V = Gm.sm (fun t => Gp.m (F i t) (H t j)) k) ∧ Below w.heap.size w wr) (fun _ p _ => n - (intOf p).toNat)
 case atStart => exact ⟨0, 0, Nat.zero_le _, by omega, rfl, rfl, rfl, Below.refl _ _⟩
 case round =>
  obtain ⟨k, V, hk, hV, rfl, rfl, HV, hbel⟩ := hrel
  by_cases hlt : k < n
  ·have hki : (k : Int) < (n : Int) := by omega
   have hx0 := KE.out k hlt
   have hx := (hbel.cell (p := ⟨ga, k, none⟩) (block_lt_of_cell hx0)).trans hx0
   obtain ⟨Gb, cb, hpb, hrb⟩ := KB.out.below hbel
   obtain ⟨gb, ccb, hcb, heb⟩ := hrb k hlt
   have hy := heb j hj
   clear hx0 heb hrb hca hpa
   have hf := hF i k
   have hh := hH k j
   have HV2 : Hid (V ^^^ Gf.mul (F i k) (H k j) = Gm.sm (fun t => Gp.m (F i t) (H t j)) (k + 1)) := by
    show _ = _
    rw [Gm.sm_s, HV.out, Gp.m_nat hf hh]
   have hml := Gf.mul_lt hf hh
   have hxl : Hid (V ^^^ Gf.mul (F i k) (H k j) < 256) := Gf.xor_lt hV hml
   generalize F i k = x at hx hf HV2 hml hxl
   generalize H k j = y at hy hh HV2 hml hxl
   go_wp2_with (first | (go_at_call 70; refine (times_any x y _ hf hh).mono ?_; rintro e w5 ⟨rfl, hb5⟩) | (go_at_call 68; refine (plus_any V (Gf.mul x y) _ hV hml).mono ?_; rintro e w6 ⟨rfl, hw6⟩; obtain rfl := hw6.symm))
   go_roundw
   case rel => exact ⟨k + 1, _, by omega, hxl.out, rfl, by go_num, HV2.out, below2 hbel hb5⟩
   case measure => simp [intOf] <;> omega
  ·obtain rfl : k = n := by omega
   go_wp2
   go_ret
   exact ⟨by rw [HV.out] <;> rfl, hbel⟩
theorem mulEnter : ∀ args w, (callFunc 138 args).run Tryz.prog w = .ok (.enter 138 args) w := enters_of Tryz.func138 (by kernel_rfl) rfl
theorem mulFill {pa pb r n c : Nat} {F H : Nat → Nat → Nat} {w : World} (ha : RdU w pa r n F) (hb : RdU w pb n c H) (hF : Gm.Byt F) (hH : Gm.Byt H) (hn : n ≤ 1048576) :
  FillBy 138 #[.pointer (some ⟨pa, 0, none⟩), .pointer (some ⟨pb, 0, none⟩)] r c (Gm.mp n F H) w := fun W i j hW hi hj => mul1_any pa pb r n c i j F H W (ha.below hW) (hb.below hW) hF hH hi hj hn
def MulOk (n : Nat) (L : Nat → Nat) (Z : Nat → Nat → Int) (n' : Nat) (L' : Nat → Nat) (Z' : Nat → Nat → Int) : Prop := OkM n L Z ∧ OkM n' L' Z' ∧ L 0 = n'
noncomputable def muOk (n : Nat) (L : Nat → Nat) (Z : Nat → Nat → Int) (n' : Nat) (L' : Nat → Nat) (Z' : Nat → Nat → Int) : Bool := @decide (MulOk n L Z n' L' Z') (Classical.propDecidable _)
theorem muOk_yes {n : Nat} {L : Nat → Nat} {Z : Nat → Nat → Int} {n' : Nat} {L' : Nat → Nat} {Z' : Nat → Nat → Int} (h : MulOk n L Z n' L' Z') : muOk n L Z n' L' Z' = true := by unfold muOk; exact @decide_eq_true _ (Classical.propDecidable _) h
theorem muOk_no {n : Nat} {L : Nat → Nat} {Z : Nat → Nat → Int} {n' : Nat} {L' : Nat → Nat} {Z' : Nat → Nat → Int} (h : ¬ MulOk n L Z n' L' Z') : muOk n L Z n' L' Z' = false := by unfold muOk; exact @decide_eq_false _ (Classical.propDecidable _) h
noncomputable def muR (n : Nat) (L : Nat → Nat) (Z : Nat → Nat → Int) (n' : Nat) (L' : Nat → Nat) (Z' : Nat → Nat → Int) : Nat := if muOk n L Z n' L' Z' = true then n else 0
theorem mulM_any (a : Option Addr) (n cap : Nat) (L : Nat → Nat) (Z : Nat → Nat → Int) (a' : Option Addr) (n' cap' : Nat) (L' : Nat → Nat) (Z' : Nat → Nat → Int) (w : World) (h : MatAt w a n L Z) (h' : MatAt w a' n' L' Z') (hL : ∀ i, i < n → L i ≤ 1048576) (hL' : ∀ i, i < n' → L' i ≤ 1048576) :
  Calls Tryz.prog 96 #[.slice a n cap, .slice a' n' cap'] w fun e w' => ∃ v, e = .returned (.tuple #[v, .bool (muOk n L Z n' L' Z')]) ∧ ResM w w' v (muR n L Z n' L' Z') (L' 0) (Gm.mp n' (bZ n L Z) (bZ n' L' Z')) ∧ Below w.heap.size w w' := by
 by_cases ok : OkM n L Z
 ·have KR : Hid _ := readM_b a n cap L Z w h ok
  have hn : 1 ≤ n ∧ n ≤ 16 ∧ 1 ≤ L 0 ∧ L 0 ≤ 16 := ⟨ok.1, ok.2.1, ok.2.2.1, ok.2.2.2.1⟩
  have hn0' : 0 < n := by omega
  by_cases ok' : OkM n' L' Z'
  ·have hn' : 1 ≤ n' ∧ n' ≤ 16 ∧ 1 ≤ L' 0 ∧ L' 0 ≤ 16 := ⟨ok'.1, ok'.2.1, ok'.2.2.1, ok'.2.2.2.1⟩
   have hn1' : 0 < n' := by omega
   have KR' : Hid (∀ W, Below w.heap.size w W → _) := fun W hW => readM_b a' n' cap' L' Z' W (h'.below hW) ok'
   have hbt := bZ_byt n L Z
   have hbt' := bZ_byt n' L' Z'
   have hmo : MulOk n L Z n' L' Z' ↔ L 0 = n' := ⟨fun hh => hh.2.2, fun hh => ⟨ok, ok', hh⟩⟩
   have hR1 : L 0 = n' → muR n L Z n' L' Z' = n := fun e => by unfold muR; rw [if_pos (muOk_yes (hmo.2 e))]
   have hR2 : L 0 ≠ n' → muR n L Z n' L' Z' = 0 := fun e => by unfold muR; rw [if_neg (by rw [muOk_no (fun hh => e (hmo.1 hh))]; simp)]
   have hO1 : L 0 = n' → muOk n L Z n' L' Z' = true := fun e => muOk_yes (hmo.2 e)
   have hO2 : L 0 ≠ n' → muOk n L Z n' L' Z' = false := fun e => muOk_no (fun hh => e (hmo.1 hh))
   generalize muOk n L Z n' L' Z' = okf at hO1 hO2
   generalize muR n L Z n' L' Z' = R at hR1 hR2
   generalize bZ n L Z = F at KR hbt
   generalize bZ n' L' Z' = H at KR' hbt'
   clear hmo ok ok' h h' hL hL'
   generalize L 0 = l at hn KR hR1 hR2 hO1 hO2
   generalize L' 0 = l' at hn' KR'
   have KT : Hid (Gm.Byt F) := hbt
   have KT' : Hid (Gm.Byt H) := hbt'
   clear hbt hbt'
   by_cases e : l = n'
   ·obtain rfl := hO1 e
    have hRn := (hR1 e).symm
    subst hRn
    subst e
    clear hO1 hO2 hR1 hR2
    go_enter Tryz.func96, Tryz.ntmps96
    go_wp2_with fail
    refine Calls.mono KR.out ?_
    rintro e w2 ⟨rfl, ⟨g, hM⟩, hb2⟩
    have hp := boxed w2 (.slice (some ⟨w.heap.size, 0, none⟩) n n) 186
    have hb3 : Below w2.heap.size w2 (w2.alloc (.cells #[.slice (some ⟨w.heap.size, 0, none⟩) n n] 186)) := (Below.refl _ _).alloc (Nat.le_refl _) _
    have hRd := MatU.rd hM hb3 hp
    have hd0 := (hM.below hb3).hdr (i := 0) (by omega)
    obtain ⟨W, hW⟩ : ∃ W, w2.alloc (.cells #[.slice (some ⟨w.heap.size, 0, none⟩) n n] 186) = W := ⟨_, rfl⟩
    have KW2 : Hid (w2.alloc (.cells #[.slice (some ⟨w.heap.size, 0, none⟩) n n] 186) = W) := hW
    rw [hW] at hp hb3 hRd hd0
    generalize g 0 = g0 at hd0
    have KRd : Hid (RdU W w2.heap.size n l F) := hRd
    have KB : Hid (Below w.heap.size w W) := below2 hb2 hb3
    have hpl := block_lt_of_cell hp
    have hdl := block_lt_of_cell hd0
    have hKR' := KR'.out W KB.out
    clear hM hRd hW hb2 hb3 KR KR'
    go_wp2_with fail
    rw [KW2.out]
    refine Calls.mono hKR' ?_
    rintro e w4 ⟨rfl, ⟨g', hM'⟩, hb4⟩
    have hp' := boxed w4 (.slice (some ⟨W.heap.size, 0, none⟩) l l) 186
    have hb5 : Below w4.heap.size w4 (w4.alloc (.cells #[.slice (some ⟨W.heap.size, 0, none⟩) l l] 186)) := (Below.refl _ _).alloc (Nat.le_refl _) _
    have hRd' := MatU.rd hM' hb5 hp'
    have hd0' := (hM'.below hb5).hdr (i := 0) (by omega)
    have hp2 := ((below2 hb4 hb5).cell (p := ⟨w2.heap.size, 0, none⟩) hpl).trans hp
    have hd2 := ((below2 hb4 hb5).cell (p := ⟨w.heap.size, 0, none⟩) hdl).trans hd0
    generalize g' 0 = g0' at hd0'
    have KRa := KRd.out.below (below2 hb4 hb5)
    have KB5 := below2 KB.out (below2 hb4 hb5)
    clear hM' hb4 hb5 hp hd0 hpl hdl KRd KB KW2 hKR'
    go_wp2_with fail
    generalize w4.alloc (.cells #[.slice (some ⟨W.heap.size, 0, none⟩) l l] 186) = X at *
    go_quiet (fail)
    go_wp2_with fail
    generalize hX2 : X.drewN _ = X2
    have hbX : Below X.heap.size X X2 := by rw [← hX2]; exact below_drewN (Below.refl _ _) _
    have hp3 := (hbX.cell (p := ⟨w2.heap.size, 0, none⟩) (block_lt_of_cell hp2)).trans hp2
    have hd3 := (hbX.cell (p := ⟨w.heap.size, 0, none⟩) (block_lt_of_cell hd2)).trans hd2
    have hp3' := (hbX.cell (p := ⟨w4.heap.size, 0, none⟩) (block_lt_of_cell hp')).trans hp'
    have hd3' := (hbX.cell (p := ⟨W.heap.size, 0, none⟩) (block_lt_of_cell hd0')).trans hd0'
    have KB6 := below2 KB5 hbX
    have hsz6 := KB6.size
    have KF : Hid _ := filled_any 138 #[.pointer (some ⟨w2.heap.size, 0, none⟩), .pointer (some ⟨w4.heap.size, 0, none⟩)] mulEnter n l' (Gm.mp l F H) X2.drew (mulFill ((KRa.below hbX).below ⟨rfl, rfl, rfl, Nat.le_refl _, fun _ _ => rfl⟩) ((hRd'.below hbX).below ⟨rfl, rfl, rfl, Nat.le_refl _, fun _ _ => rfl⟩) KT.out KT'.out (by omega)) (Gm.mp_byt _ _ _) (by omega) (by omega)
    have hq1 := block_lt_of_cell hp3
    have hq2 := block_lt_of_cell hp3'
    have hq3 := block_lt_of_cell hd3'
    clear hX2 hp2 hd2 hp' hd0' KRa hRd' KB5
    go_region_held3 (fun w' => w'.cell? ⟨w2.heap.size, 0, none⟩ = some (.slice (some ⟨w.heap.size, 0, none⟩) n n) ∧ w'.cell? ⟨w4.heap.size, 0, none⟩ = some (.slice (some ⟨W.heap.size, 0, none⟩) l l) ∧ w'.cell? ⟨W.heap.size, 0, none⟩ = some (.slice (some ⟨g0', 0, none⟩) l' l')) (go_keep) ((go_at_call 65; refine Calls.mono KF.out ?_; rintro e w5 ⟨rfl, ⟨A5, hM5⟩, hb5'⟩; have hb5 := below_of_drew hb5'; have KM : Hid _ := hM5; clear hb5' hM5; have hp5 := (hb5.cell (p := ⟨w2.heap.size, 0, none⟩) hq1).trans hp3; have hd5 := (hb5.cell (p := ⟨w4.heap.size, 0, none⟩) hq2).trans hp3'; have hr5 := (hb5.cell (p := ⟨W.heap.size, 0, none⟩) hq3).trans hd3'))
    all_goals
     go_wp2
     go_ret2
     exact ⟨_, rfl, ResM.mk KM.out hsz6, below2 KB6 hb5⟩
   ·obtain rfl := hO2 e
    obtain rfl := hR2 e
    have hne : ((l : Int) != (n' : Int)) = true := by simp; omega
    clear hO1 hO2 hR1 hR2
    go_enter Tryz.func96, Tryz.ntmps96
    go_wp2_with fail
    refine Calls.mono KR.out ?_
    rintro e w2 ⟨rfl, ⟨g, hM⟩, hb2⟩
    have hp := boxed w2 (.slice (some ⟨w.heap.size, 0, none⟩) n n) 186
    have hb3 : Below w2.heap.size w2 (w2.alloc (.cells #[.slice (some ⟨w.heap.size, 0, none⟩) n n] 186)) := (Below.refl _ _).alloc (Nat.le_refl _) _
    have hRd := MatU.rd hM hb3 hp
    have hd0 := (hM.below hb3).hdr (i := 0) (by omega)
    obtain ⟨W, hW⟩ : ∃ W, w2.alloc (.cells #[.slice (some ⟨w.heap.size, 0, none⟩) n n] 186) = W := ⟨_, rfl⟩
    have KW2 : Hid (w2.alloc (.cells #[.slice (some ⟨w.heap.size, 0, none⟩) n n] 186) = W) := hW
    rw [hW] at hp hb3 hRd hd0
    generalize g 0 = g0 at hd0
    have KRd : Hid (RdU W w2.heap.size n l F) := hRd
    have KB : Hid (Below w.heap.size w W) := below2 hb2 hb3
    have hpl := block_lt_of_cell hp
    have hdl := block_lt_of_cell hd0
    have hKR' := KR'.out W KB.out
    clear hM hRd hW hb2 hb3 KR KR'
    go_wp2_with fail
    rw [KW2.out]
    refine Calls.mono hKR' ?_
    rintro e w4 ⟨rfl, ⟨g', hM'⟩, hb4⟩
    have hp' := boxed w4 (.slice (some ⟨W.heap.size, 0, none⟩) n' n') 186
    have hb5 : Below w4.heap.size w4 (w4.alloc (.cells #[.slice (some ⟨W.heap.size, 0, none⟩) n' n'] 186)) := (Below.refl _ _).alloc (Nat.le_refl _) _
    have hRd' := MatU.rd hM' hb5 hp'
    have hd0' := (hM'.below hb5).hdr (i := 0) (by omega)
    have hp2 := ((below2 hb4 hb5).cell (p := ⟨w2.heap.size, 0, none⟩) hpl).trans hp
    have hd2 := ((below2 hb4 hb5).cell (p := ⟨w.heap.size, 0, none⟩) hdl).trans hd0
    generalize g' 0 = g0' at hd0'
    have KRa := KRd.out.below (below2 hb4 hb5)
    have KB5 := below2 KB.out (below2 hb4 hb5)
    clear hM' hb4 hb5 hp hd0 hpl hdl KRd KB KW2 hKR'
    go_wp2_with fail
    generalize w4.alloc (.cells #[.slice (some ⟨W.heap.size, 0, none⟩) n' n'] 186) = X at *
    go_quiet (fail)
    go_wp2
    go_ret2
    exact ⟨_, rfl, ResM.none _ _ _ _, below_drewN KB5 _⟩
  ·have KR' : Hid (∀ W, Below w.heap.size w W → _) := fun W hW => readM_no a' n' cap' L' Z' W (h'.below hW) hL' ok'
   have hO : muOk n L Z n' L' Z' = false := muOk_no (fun hh => ok' hh.2.1)
   have hR : muR n L Z n' L' Z' = 0 := by unfold muR; rw [if_neg (by rw [hO]; simp)]
   rw [hO, hR]
   generalize bZ n L Z = F at KR
   generalize bZ n' L' Z' = H
   clear hO hR ok ok' h h' hL hL'
   generalize L 0 = l at hn KR
   generalize L' 0 = l'
   go_enter Tryz.func96, Tryz.ntmps96
   go_wp2_with fail
   refine Calls.mono KR.out ?_
   rintro e w2 ⟨rfl, _, hb2⟩
   have hb3 : Below w2.heap.size w2 (w2.alloc (.cells #[.slice (some ⟨w.heap.size, 0, none⟩) n n] 186)) := (Below.refl _ _).alloc (Nat.le_refl _) _
   have hKR' := KR'.out _ (below2 hb2 hb3)
   go_wp2_with fail
   refine Calls.mono hKR' ?_
   rintro e w4 ⟨rfl, hb4⟩
   have KB := below2 (below2 (below2 hb2 hb3) hb4) ((Below.refl w4.heap.size w4).alloc (Nat.le_refl _) (.cells #[.slice none 0 0] 186))
   clear hKR' KR KR' hb2 hb3 hb4
   go_wp2_with fail
   generalize w4.alloc (.cells #[.slice none 0 0] 186) = X at *
   go_quiet (fail)
   go_wp2
   go_ret2
   exact ⟨_, rfl, ResM.none _ _ _ _, below_drewN KB _⟩
 ·have KR : Hid _ := readM_no a n cap L Z w h hL ok
  have hO : muOk n L Z n' L' Z' = false := muOk_no (fun hh => ok hh.1)
  have hR : muR n L Z n' L' Z' = 0 := by unfold muR; rw [if_neg (by rw [hO]; simp)]
  rw [hO, hR]
  have KR' : Hid (∀ W, Below w.heap.size w W → Calls Tryz.prog 137 #[.slice a' n' cap'] W fun e w' => ∃ v b, e = .returned (.tuple #[.slice v n' n', .bool b]) ∧ Below W.heap.size W w' ∨ e = .returned (.tuple #[.slice none 0 0, .bool false]) ∧ Below W.heap.size W w') := fun W hW => by
   by_cases ok' : OkM n' L' Z'
   ·refine Calls.mono (readM_b a' n' cap' L' Z' W (h'.below hW) ok') ?_
    rintro e w' ⟨rfl, _, hb⟩
    exact ⟨_, _, .inl ⟨rfl, hb⟩⟩
   ·refine Calls.mono (readM_no a' n' cap' L' Z' W (h'.below hW) hL' ok') ?_
    rintro e w' ⟨rfl, hb⟩
    exact ⟨none, true, .inr ⟨rfl, hb⟩⟩
  clear hO hR ok h h' hL hL'
  generalize bZ n L Z = F
  generalize bZ n' L' Z' = H
  generalize L' 0 = l'
  go_enter Tryz.func96, Tryz.ntmps96
  go_wp2_with fail
  refine Calls.mono KR.out ?_
  rintro e w2 ⟨rfl, hb2⟩
  have hb3 : Below w2.heap.size w2 (w2.alloc (.cells #[.slice none 0 0] 186)) := (Below.refl _ _).alloc (Nat.le_refl _) _
  have hKR' := KR'.out _ (below2 hb2 hb3)
  go_wp2_with fail
  refine Calls.mono hKR' ?_
  rintro e w4 ⟨v, b, ⟨rfl, hb4⟩ | ⟨rfl, hb4⟩⟩
  ·have KB := below2 (below2 (below2 hb2 hb3) hb4) ((Below.refl w4.heap.size w4).alloc (Nat.le_refl _) (.cells #[.slice v n' n'] 186))
   clear hKR' KR KR' hb2 hb3 hb4
   go_wp2_with fail
   generalize w4.alloc (.cells #[.slice v n' n'] 186) = X at *
   go_quiet (fail)
   go_wp2
   go_ret2
   exact ⟨_, rfl, ResM.none _ _ _ _, below_drewN KB _⟩
  ·have KB := below2 (below2 (below2 hb2 hb3) hb4) ((Below.refl w4.heap.size w4).alloc (Nat.le_refl _) (.cells #[.slice none 0 0] 186))
   clear hKR' KR KR' hb2 hb3 hb4
   go_wp2_with fail
   generalize w4.alloc (.cells #[.slice none 0 0] 186) = X at *
   go_quiet (fail)
   go_wp2
   go_ret2
   exact ⟨_, rfl, ResM.none _ _ _ _, below_drewN KB _⟩
theorem pick1_any (pb rb r c i j p : Nat) (F : Nat → Nat → Nat) (ra : Option Addr) (nr rc : Nat) (zs : List Int) (w : World) (h : RdU w pb r c F) (hv : w.cell? ⟨rb, 0, none⟩ = some (.slice ra nr rc)) (hz : IntsAt w ra nr zs) (hi : i < nr) (hp : zs.getD i 0 = (p : Int)) (hpr : p < r) (hj : j < c) :
  Calls Tryz.prog 139 #[.int .i64 (i : Int), .int .i64 (j : Int), .pointer (some ⟨pb, 0, none⟩), .pointer (some ⟨rb, 0, none⟩)] w fun e w' => e = .returned (.int .u8 ((F p j : Nat) : Int)) ∧ Below w.heap.size w w' := by
 obtain ⟨G, cap, hpp, hr⟩ := h
 obtain ⟨g, cc, hc, he⟩ := hr p hpr
 have hel := he j hj
 obtain ⟨b, off, rfl, hcz⟩ := hz.2 i hi
 rw [hp] at hcz
 have hi' : (i : Int) < (nr : Int) := by omega
 have hj' : (j : Int) < (c : Int) := by omega
 have hp' : (p : Int) < (r : Int) := by omega
 clear he hr hz hp
 generalize F p j = X at hel
 go_enter Tryz.func139, Tryz.ntmps139
 go_wp2
 go_quiet (fail)
 go_wp2
 go_ret
 exact ⟨rfl, below_drewN (Below.refl _ _) _⟩
theorem pickEnter : ∀ args w, (callFunc 139 args).run Tryz.prog w = .ok (.enter 139 args) w := enters_of Tryz.func139 (by kernel_rfl) rfl
def Places (n : Nat) (zs : List Int) : Prop := 1 ≤ zs.length ∧ zs.length ≤ 16 ∧ ∀ i, i < zs.length → 0 ≤ zs.getD i 0 ∧ zs.getD i 0 < (n : Int)
def pkF (F : Nat → Nat → Nat) (zs : List Int) (i j : Nat) : Nat := F (zs.getD i 0).toNat j
theorem pickFill {pb rb r c : Nat} {F : Nat → Nat → Nat} {ra : Option Addr} {nr rc : Nat} {zs : List Int} {w : World} (h : RdU w pb r c F) (hv : w.cell? ⟨rb, 0, none⟩ = some (.slice ra nr rc)) (hz : IntsAt w ra nr zs) (hp : Places r zs) :
  FillBy 139 #[.pointer (some ⟨pb, 0, none⟩), .pointer (some ⟨rb, 0, none⟩)] nr c (pkF F zs) w := fun W i j hb hi hj => by
 have hl := hz.1
 obtain ⟨h1, h2⟩ := hp.2.2 i (by omega)
 have h3 := pick1_any pb rb r c i j (zs.getD i 0).toNat F ra nr rc zs W (h.below hb) ((hb.cell (p := ⟨rb, 0, none⟩) (block_lt_of_cell hv)).trans hv) (hz.below hb) hi (by omega) (by omega) hj
 exact h3
noncomputable def pkOk (n : Nat) (L : Nat → Nat) (Z : Nat → Nat → Int) (zs : List Int) : Bool := @decide (OkM n L Z ∧ Places n zs) (Classical.propDecidable _)
theorem pkOk_yes {n : Nat} {L : Nat → Nat} {Z : Nat → Nat → Int} {zs : List Int} (h : OkM n L Z ∧ Places n zs) : pkOk n L Z zs = true := by unfold pkOk; exact @decide_eq_true _ (Classical.propDecidable _) h
theorem pkOk_no {n : Nat} {L : Nat → Nat} {Z : Nat → Nat → Int} {zs : List Int} (h : ¬ (OkM n L Z ∧ Places n zs)) : pkOk n L Z zs = false := by unfold pkOk; exact @decide_eq_false _ (Classical.propDecidable _) h
noncomputable def pkR (n : Nat) (L : Nat → Nat) (Z : Nat → Nat → Int) (zs : List Int) : Nat := if pkOk n L Z zs = true then zs.length else 0
theorem placesNot {n : Nat} {zs : List Int} (h : ¬ Places n zs) (h1 : 1 ≤ zs.length) (h2 : zs.length ≤ 16) : ∃ q, q < zs.length ∧ ¬ (0 ≤ zs.getD q 0 ∧ zs.getD q 0 < (n : Int)) := by
 refine Classical.byContradiction fun hno => h ⟨h1, h2, fun i hi => ?_⟩
 exact Classical.byContradiction fun hc => hno ⟨i, hi, hc⟩
theorem pickM_any (a : Option Addr) (n cap : Nat) (L : Nat → Nat) (Z : Nat → Nat → Int) (ra : Option Addr) (nr rc : Nat) (zs : List Int) (w : World) (h : MatAt w a n L Z) (hz : IntsAt w ra nr zs) (hL : ∀ i, i < n → L i ≤ 1048576) (hnr : nr ≤ 1048576) :
  Calls Tryz.prog 98 #[.slice a n cap, .slice ra nr rc] w fun e w' => ∃ v, e = .returned (.tuple #[v, .bool (pkOk n L Z zs)]) ∧ ResM w w' v (pkR n L Z zs) (L 0) (pkF (bZ n L Z) zs) ∧ Below w.heap.size w w' := by
 have hlen := hz.1
 have hrb := boxed w (.slice ra nr rc) 25
 have hb1 : Below w.heap.size w (w.alloc (.cells #[.slice ra nr rc] 25)) := (Below.refl _ _).alloc (Nat.le_refl _) _
 obtain ⟨w1, hw1⟩ : ∃ w1, w.alloc (.cells #[.slice ra nr rc] 25) = w1 := ⟨_, rfl⟩
 have KW : Hid (w.alloc (.cells #[.slice ra nr rc] 25) = w1) := hw1
 rw [hw1] at hrb hb1
 clear hw1
 have h1 := h.below hb1
 have hz1 := hz.below hb1
 clear h hz
 have hrl := block_lt_of_cell hrb
 by_cases ok : OkM n L Z
 ·have KR : Hid _ := readM_b a n cap L Z w1 h1 ok
  have hn : 1 ≤ n ∧ n ≤ 16 ∧ 1 ≤ L 0 ∧ L 0 ≤ 16 := ⟨ok.1, ok.2.1, ok.2.2.1, ok.2.2.2.1⟩
  have hbt := bZ_byt n L Z
  by_cases hs : 1 ≤ nr ∧ nr ≤ 16
  ·have hsd : side (nr : Int) = true := by rw [side_nat]; simp; omega
   by_cases hpl : Places n zs
   ·have hok := pkOk_yes ⟨ok, hpl⟩
    have hR : pkR n L Z zs = nr := by unfold pkR; rw [if_pos hok]; exact hlen
    rw [hok, hR]
    generalize bZ n L Z = F at KR hbt
    clear h1 hL ok hR hok
    generalize L 0 = l at hn KR
    obtain ⟨hn1, hn2, hl1, hl2⟩ := hn
    have hn0' : 0 < n := by omega
    have KT : Hid (Gm.Byt F) := hbt
    have KP : Hid (Places n zs) := hpl
    have KZ : Hid (IntsAt w1 ra nr zs) := hz1
    clear hbt hpl hz1
    go_enter Tryz.func98, Tryz.ntmps98
    go_wp2_with fail
    rw [KW.out]
    refine Calls.mono KR.out ?_
    rintro e w2 ⟨rfl, ⟨g, hM⟩, hb2⟩
    have hp := boxed w2 (.slice (some ⟨w1.heap.size, 0, none⟩) n n) 186
    have hb3 : Below w2.heap.size w2 (w2.alloc (.cells #[.slice (some ⟨w1.heap.size, 0, none⟩) n n] 186)) := (Below.refl _ _).alloc (Nat.le_refl _) _
    have hRd := MatU.rd hM hb3 hp
    have hd0 := (hM.below hb3).hdr (i := 0) (by omega)
    have hrb3 := ((below2 hb2 hb3).cell (p := ⟨w.heap.size, 0, none⟩) hrl).trans hrb
    have hrb3e := hrb3
    obtain ⟨W, hW⟩ : ∃ W, w2.alloc (.cells #[.slice (some ⟨w1.heap.size, 0, none⟩) n n] 186) = W := ⟨_, rfl⟩
    have KW2 : Hid (w2.alloc (.cells #[.slice (some ⟨w1.heap.size, 0, none⟩) n n] 186) = W) := hW
    rw [hW] at hp hb3 hRd hd0 hrb3
    have KZ3 : Hid (IntsAt W ra nr zs) := KZ.out.below (below2 hb2 hb3)
    have KRd : Hid (RdU W w2.heap.size n l F) := hRd
    have KB : Hid (Below w.heap.size w W) := below2 hb1 (below2 hb2 hb3)
    have hsz3 : w.heap.size ≤ W.heap.size := KB.out.size
    clear hM hRd hW KZ KR hrb hrl hb1 hb2 hb3
    generalize g 0 = g0 at hd0
    go_wp2_with fail
    rw [KW2.out]
    refine (isSide_any _ _).mono ?_
    rintro e w' ⟨rfl, hw⟩
    obtain rfl := hw.symm
    clear KW2 KW hrb3e
    go_wp2
    go_loop [25] (fun q => ∃ k : Nat, k ≤ nr ∧ q = .int .i64 (k : Int)) (fun q => nr - (intOf q).toNat)
    case atStart => exact ⟨0, Nat.zero_le _, rfl⟩
    case round =>
     obtain ⟨k, hk, rfl⟩ := hrel
     by_cases hlt : k < nr
     ·obtain ⟨b, off, rfl, hcz⟩ := KZ3.out.2 k hlt
      have hpk := KP.out.2.2 k (by omega)
      generalize zs.getD k 0 = x at hcz hpk
      obtain ⟨hx1, hx2⟩ := hpk
      have hx1' : ¬ x < 0 := by omega
      have hx2' : ¬ x ≥ (n : Int) := by omega
      have hki : (k : Int) < (nr : Int) := by omega
      go_wp2
      go_round
      case rel => exact ⟨k + 1, by omega, by go_num⟩
      case measure => simp [intOf] <;> omega
     ·have hki : ¬ (k : Int) < (nr : Int) := by omega
      have hpl2 := block_lt_of_cell hp
      have hdl := block_lt_of_cell hd0
      have hrl3 := block_lt_of_cell hrb3
      have KF : Hid _ := filled_any 139 #[.pointer (some ⟨w2.heap.size, 0, none⟩), .pointer (some ⟨w.heap.size, 0, none⟩)] pickEnter nr l (pkF F zs) W.drew (pickFill (KRd.out.below ⟨rfl, rfl, rfl, Nat.le_refl _, fun _ _ => rfl⟩) hrb3 (KZ3.out.below ⟨rfl, rfl, rfl, Nat.le_refl _, fun _ _ => rfl⟩) KP.out) (fun i j => KT.out _ j) (by omega) (by omega)
      go_wp2_with fail
      go_region_held3 (fun w' => w'.cell? ⟨w2.heap.size, 0, none⟩ = some (.slice (some ⟨w1.heap.size, 0, none⟩) n n) ∧ w'.cell? ⟨w1.heap.size, 0, none⟩ = some (.slice (some ⟨g0, 0, none⟩) l l) ∧ w'.cell? ⟨w.heap.size, 0, none⟩ = some (.slice ra nr rc)) (go_keep) ((go_at_call 65; refine Calls.mono KF.out ?_; rintro e w5 ⟨rfl, ⟨A5, hM5⟩, hb5'⟩; have hb5 := below_of_drew hb5'; have KM : Hid _ := hM5; clear hb5' hM5; have hp5 := (hb5.cell (p := ⟨w2.heap.size, 0, none⟩) hpl2).trans hp; have hd5 := (hb5.cell (p := ⟨w1.heap.size, 0, none⟩) hdl).trans hd0; have hr5 := (hb5.cell (p := ⟨w.heap.size, 0, none⟩) hrl3).trans hrb3))
      all_goals
       go_wp2
       go_ret2
       exact ⟨_, rfl, ResM.mk KM.out hsz3, below2 KB.out hb5⟩
   ·have hok := pkOk_no (Z := Z) (L := L) (n := n) (zs := zs) (fun hh => hpl hh.2)
    have hR : pkR n L Z zs = 0 := by unfold pkR; rw [if_neg (by rw [hok]; simp)]
    have hbad := placesNot hpl (by omega) (by omega)
    rw [hok, hR]
    generalize bZ n L Z = F at KR hbt
    clear h1 hL ok hR hok
    generalize L 0 = l at hn KR
    obtain ⟨hn1, hn2, hl1, hl2⟩ := hn
    have hn0' : 0 < n := by omega
    have KT : Hid (Gm.Byt F) := hbt
    have KP : Hid _ := hbad
    have KZ : Hid (IntsAt w1 ra nr zs) := hz1
    clear hbt hpl hz1 hbad
    go_enter Tryz.func98, Tryz.ntmps98
    go_wp2_with fail
    rw [KW.out]
    refine Calls.mono KR.out ?_
    rintro e w2 ⟨rfl, ⟨g, hM⟩, hb2⟩
    have hp := boxed w2 (.slice (some ⟨w1.heap.size, 0, none⟩) n n) 186
    have hb3 : Below w2.heap.size w2 (w2.alloc (.cells #[.slice (some ⟨w1.heap.size, 0, none⟩) n n] 186)) := (Below.refl _ _).alloc (Nat.le_refl _) _
    have hRd := MatU.rd hM hb3 hp
    have hd0 := (hM.below hb3).hdr (i := 0) (by omega)
    have hrb3 := ((below2 hb2 hb3).cell (p := ⟨w.heap.size, 0, none⟩) hrl).trans hrb
    have hrb3e := hrb3
    obtain ⟨W, hW⟩ : ∃ W, w2.alloc (.cells #[.slice (some ⟨w1.heap.size, 0, none⟩) n n] 186) = W := ⟨_, rfl⟩
    have KW2 : Hid (w2.alloc (.cells #[.slice (some ⟨w1.heap.size, 0, none⟩) n n] 186) = W) := hW
    rw [hW] at hp hb3 hRd hd0 hrb3
    have KZ3 : Hid (IntsAt W ra nr zs) := KZ.out.below (below2 hb2 hb3)
    have KRd : Hid (RdU W w2.heap.size n l F) := hRd
    have KB : Hid (Below w.heap.size w W) := below2 hb1 (below2 hb2 hb3)
    have hsz3 : w.heap.size ≤ W.heap.size := KB.out.size
    clear hM hRd hW KZ KR hrb hrl hb1 hb2 hb3
    generalize g 0 = g0 at hd0
    go_wp2_with fail
    rw [KW2.out]
    refine (isSide_any _ _).mono ?_
    rintro e w' ⟨rfl, hw⟩
    obtain rfl := hw.symm
    clear KW2 KW hrb3e
    go_wp2
    obtain ⟨q, hq, hbad⟩ := KP.out
    have KQ : Hid (¬ (0 ≤ zs.getD q 0 ∧ zs.getD q 0 < (n : Int))) := hbad
    clear KP hbad
    go_loop [25] (fun q' => ∃ k : Nat, k ≤ q ∧ q' = .int .i64 (k : Int)) (fun q => nr - (intOf q).toNat)
    case atStart => exact ⟨0, Nat.zero_le _, rfl⟩
    case round =>
     obtain ⟨k, hk, rfl⟩ := hrel
     have hlt : k < nr := by omega
     obtain ⟨b, off, rfl, hcz⟩ := KZ3.out.2 k hlt
     have hki : (k : Int) < (nr : Int) := by omega
     by_cases hx1 : zs.getD k 0 < 0
     ·generalize zs.getD k 0 = x at hcz hx1
      go_wp2
      go_ret2
      exact ⟨_, rfl, ResM.none _ _ _ _, KB.out⟩
     ·by_cases hx2 : zs.getD k 0 ≥ (n : Int)
      ·generalize zs.getD k 0 = x at hcz hx1 hx2
       go_wp2
       go_ret2
       exact ⟨_, rfl, ResM.none _ _ _ _, KB.out⟩
      ·have hkq : k ≠ q := fun e => KQ.out (by rw [← e]; omega)
       generalize zs.getD k 0 = x at hcz hx1 hx2
       go_wp2
       go_round
       case rel => exact ⟨k + 1, by omega, by go_num⟩
       case measure => simp [intOf] <;> omega
  ·have hsd : side (nr : Int) = false := by rw [side_nat]; simp; omega
   have hok := pkOk_no (Z := Z) (L := L) (n := n) (zs := zs) (fun hh => hs ⟨by have := hh.2.1; omega, by have := hh.2.2.1; omega⟩)
   have hR : pkR n L Z zs = 0 := by unfold pkR; rw [if_neg (by rw [hok]; simp)]
   rw [hok, hR]
   generalize bZ n L Z = F at KR hbt
   clear h1 hL ok hR hok hbt hz1
   generalize L 0 = l at hn KR
   go_enter Tryz.func98, Tryz.ntmps98
   go_wp2_with fail
   rw [KW.out]
   refine Calls.mono KR.out ?_
   rintro e w2 ⟨rfl, ⟨g, hM⟩, hb2⟩
   have hb3 : Below w2.heap.size w2 (w2.alloc (.cells #[.slice (some ⟨w1.heap.size, 0, none⟩) n n] 186)) := (Below.refl _ _).alloc (Nat.le_refl _) _
   have hrb3 := ((below2 hb2 hb3).cell (p := ⟨w.heap.size, 0, none⟩) hrl).trans hrb
   have KB : Hid (Below w.heap.size w _) := below2 hb1 (below2 hb2 hb3)
   clear hM KR hrb hrl hb1 hb2 hb3
   go_wp2_with fail
   refine (isSide_any _ _).mono ?_
   rintro e w' ⟨rfl, hw⟩
   obtain rfl := hw.symm
   clear KW
   go_wp2
   go_ret2
   exact ⟨_, rfl, ResM.none _ _ _ _, KB.out⟩
 ·have KR : Hid _ := readM_no a n cap L Z w1 h1 hL ok
  have hok := pkOk_no (Z := Z) (L := L) (n := n) (zs := zs) (fun hh => ok hh.1)
  have hR : pkR n L Z zs = 0 := by unfold pkR; rw [if_neg (by rw [hok]; simp)]
  rw [hok, hR]
  clear h1 hL ok hz1 hR hok
  go_enter Tryz.func98, Tryz.ntmps98
  go_wp2_with fail
  rw [KW.out]
  refine Calls.mono KR.out ?_
  rintro e w2 ⟨rfl, hb2⟩
  go_wp2
  go_ret2
  exact ⟨_, rfl, ResM.none _ _ _ _, below2 hb1 (below2 hb2 ((Below.refl _ _).alloc (Nat.le_refl _) _))⟩
theorem all_zI (z : Nat → Int) (n : Nat) : (zI z n).all isB = true ↔ ∀ j, j < n → isB (z j) = true := by
 simp [zI, List.all_eq_true]
theorem MatI.pushed {wr w2 : World} {B b0 G k cap g2 cap3 gr W capr : Nat} {A : Nat → Option Addr} {C : Nat → Nat} {F : Nat → Nat → Nat} (o : Obj) (hM : MatI wr B b0 (some ⟨G, 0, none⟩) k cap A (fun _ => W) C (fun i j => ((F i j : Nat) : Int)))
  (hb : B ≤ b0) (hr : OwnR wr b0 gr W capr (F k)) (hgrow : (wr.alloc o).grownBy w2 (some G))
  (hout : w2.ownsRow B 25 1 (.slice (some ⟨g2, 0, none⟩) (k + 1) cap3) (k + 1) (hds A (fun _ => W) C k ++ [.slice (some ⟨gr, 0, none⟩) W capr])) :
  ∃ A' C', MatI w2 B w2.heap.size (some ⟨g2, 0, none⟩) (k + 1) cap3 A' (fun _ => W) C' (fun i j => ((F i j : Nat) : Int)) := by
 have hbo : Below wr.heap.size wr (wr.alloc o) := (Below.refl _ _).alloc (Nat.le_refl _) _
 have hM1 := hM.below hbo
 have hr1 : (wr.alloc o).ownsRow B 3 1 (.slice (some ⟨gr, 0, none⟩) W capr) W ((zI (fun j => ((F k j : Nat) : Int)) W).map (Value.int .i64)) := own_base (ownsRow_below hr hbo) hb
 have hgr := hr.lt.1
 refine ⟨_, _, (MatZ.push tiNe hM1 hgrow hout (Nat.le_refl _) ?_ hr1 (fun j hj y u ey eu => ?_)).congr (fun i _ => ⟨rfl, by split <;> rfl, rfl, fun j _ => by by_cases e : i = k; subst e; simp; simp [e]⟩)⟩
 ·by_cases h0 : G < b0
  ·exact Nat.le_trans (Nat.le_of_lt (Nat.lt_of_le_of_lt hgr hr.lt.2)) (Nat.le_trans hbo.size hgrow.size)
  ·exact Nat.le_trans (Nat.le_of_lt (Nat.lt_of_le_of_lt hgr hr.lt.2)) (Nat.le_trans hbo.size hgrow.size)
 ·cases eu
  have := hM.rE j hj y ey
  exact Nat.ne_of_lt (Nat.lt_of_lt_of_le this hgr)
theorem MatI.rowed {wr w2 : World} {B b0 gr : Nat} {a : Option Addr} {k cap W : Nat} {A : Nat → Option Addr} {C : Nat → Nat} {F : Nat → Nat → Nat} (o : Obj) (hM : MatI wr B b0 a k cap A (fun _ => W) C (fun i j => ((F i j : Nat) : Int))) (hgr : b0 ≤ gr) (hgrow : (wr.alloc o).grownBy w2 (some gr)) :
  MatI w2 B b0 a k cap A (fun _ => W) C (fun i j => ((F i j : Nat) : Int)) := (hM.below ((Below.refl _ _).alloc (Nat.le_refl _) o)).keptE hgrow hgr
theorem litM (w : World) (A : Nat → Option Addr) (L C : Nat → Nat) (Z : Nat → Nat → Int) : MatI (w.alloc (.cells #[] 25)) w.heap.size (w.alloc (.cells #[] 25)).heap.size (some ⟨w.heap.size, 0, none⟩) 0 0 A L C Z :=
 MatZ.zero _ _ _ _ _ _ _ _ _ _ (World.ownsRow_lit w #[] 0 (Nat.le_refl _) (by unfold maxLen; omega) rfl) (by simp)
theorem resLit0 (w w1 : World) (h : w.heap.size ≤ w1.heap.size) (c : Nat) (F : Nat → Nat → Nat) : ResM w (w1.alloc (.cells #[] 25)) (.slice (some ⟨w1.heap.size, 0, none⟩) 0 0) 0 c F :=
 ResM.mk (litM w1 (fun _ => none) (fun _ => c) (fun _ => 0) _) h
theorem sMatOk_any (a : Option Addr) (n cap : Nat) (L : Nat → Nat) (Z : Nat → Nat → Int) (w : World) (h : MatAt w a n L Z) (hL : ∀ i, i < n → L i ≤ 1048576) :
  Calls Tryz.prog 142 #[.slice a n cap] w fun e w' => e = .returned (.bool (okM n L Z)) ∧ Below w.heap.size w w' := by
 by_cases hn : 1 ≤ n ∧ n ≤ 16
 ·have hs1 : inB (n : Int) 1 16 = true := by unfold inB; simp; omega
  have hn0' : 0 < n := by omega
  have hn0i : (0 : Int) < (n : Int) := by omega
  obtain ⟨b0, off0, ai0, ci0, e0, hc0, _⟩ := h 0 (by omega)
  subst e0
  rw [Nat.add_zero] at hc0
  by_cases hl : 1 ≤ L 0 ∧ L 0 ≤ 16
  ·have hs2 : inB (L 0 : Int) 1 16 = true := by unfold inB; simp; omega
   have KO : Hid (∀ q, q ≤ n → (∀ i, i < q → L i = L 0 ∧ ∀ j, j < L 0 → isB (Z i j) = true) → q < n → ¬ (L q = L 0 ∧ ∀ j, j < L 0 → isB (Z q j) = true) → okM n L Z = false) := fun q _ _ h2 h3 => okM_no (fun hh => h3 (hh.2.2.2.2 q h2))
   have KY : Hid ((∀ i, i < n → L i = L 0 ∧ ∀ j, j < L 0 → isB (Z i j) = true) → okM n L Z = true) := fun h1 => okM_yes ⟨hn.1, hn.2, hl.1, hl.2, h1⟩
   generalize okM n L Z = okf at KO KY
   have KH : Hid (MatAt w (some ⟨b0, off0, none⟩) n L Z) := h
   obtain ⟨l, hl0⟩ : ∃ l, L 0 = l := ⟨_, rfl⟩
   rw [hl0] at hc0 hl hs2 KO KY
   have KL : Hid _ := hL
   clear h hL hl0
   go_enter Tryz.func142, Tryz.ntmps142
   go_wp2_with (go_at_call 41; refine (sIn_any _ _ _ _).mono ?_; rintro e w' ⟨rfl, hw⟩; obtain rfl := hw.symm)
   go_loopw [3] (fun p wr => ∃ k : Nat, k ≤ n ∧ p = .int .i64 (k : Int) ∧ Hid (∀ i, i < k → L i = l ∧ ∀ j, j < l → isB (Z i j) = true) ∧ Below w.heap.size w wr) (fun p _ => n - (intOf p).toNat)
   case atStart => exact ⟨0, Nat.zero_le _, rfl, fun i hi => by omega, Below.refl _ _⟩
   case round =>
    obtain ⟨k, hk, rfl, HB, hbel⟩ := hrel
    by_cases hlt : k < n
    ·have hki : (k : Int) < (n : Int) := by omega
     obtain ⟨b, off, ai, ci, eb, hc, hr⟩ := KH.out.below hbel k hlt
     cases eb
     have hc0' := (hbel.cell (p := ⟨b0, off0, none⟩) (block_lt_of_cell hc0)).trans hc0
     have hLk := KL.out k hlt
     clear hc0
     by_cases hkl : L k = l
     ·rw [hkl] at hc hr
      have hS := fun w h => sBytes_any ai l ci (zI (Z k) l) w h (by omega)
      have hall := all_zI (Z k) l
      obtain ⟨ba, hba⟩ : ∃ ba, (zI (Z k) l).all isB = ba := ⟨_, rfl⟩
      rw [hba] at hS hall
      clear hba
      cases ba with
      | true =>
       have HB2 : Hid (∀ i, i < k + 1 → L i = l ∧ ∀ j, j < l → isB (Z i j) = true) := fun i hi => by
        by_cases e : i = k
        ·subst e; exact ⟨hkl, hall.1 rfl⟩
        ·exact HB.out i (by omega)
       clear hall
       generalize zI (Z k) l = zs at hr hS
       go_wp2_with fail
       go_quiet ((go_at_call 163; exact Calls.quiet_of_same (hS _ (hr.below ⟨rfl, rfl, rfl, Nat.le_refl _, fun _ _ => rfl⟩))))
       go_wp2
       go_roundw
       case rel => exact ⟨k + 1, by omega, by go_num, HB2, below_drewN hbel _⟩
       case measure => simp [intOf] <;> omega
      | false =>
       have HN : Hid (okf = false) := KO.out k (by omega) HB.out hlt (fun hh => by have := hall.2 hh.2; cases this)
       clear hall
       generalize zI (Z k) l = zs at hr hS
       go_wp2_with fail
       go_quiet ((go_at_call 163; exact Calls.quiet_of_same (hS _ (hr.below ⟨rfl, rfl, rfl, Nat.le_refl _, fun _ _ => rfl⟩))))
       go_wp2
       go_ret
       exact ⟨ret_bool HN.out.symm, below_drewN hbel _⟩
     ·have HN : Hid (okf = false) := KO.out k (by omega) HB.out hlt (fun hh => hkl hh.1)
      have hne : ((L k : Int) != (l : Int)) = true := by simp; omega
      clear hr
      generalize L k = lk at hc hne
      go_wp2_with fail
      go_quiet (fail)
      go_wp2
      go_ret
      exact ⟨ret_bool HN.out.symm, below_drewN hbel _⟩
    ·obtain rfl : k = n := by omega
     have HN : Hid (okf = true) := KY.out HB.out
     go_wp2
     go_ret
     exact ⟨ret_bool HN.out.symm, hbel⟩
  ·have hs2 : inB (L 0 : Int) 1 16 = false := by unfold inB; simp; omega
   have HN : Hid (okM n L Z = false) := okM_no (fun hh => hl ⟨hh.2.2.1, hh.2.2.2.1⟩)
   generalize okM n L Z = okf at HN
   clear h hL hl
   generalize L 0 = l at hc0 hs2
   go_enter Tryz.func142, Tryz.ntmps142
   go_wp2_with (go_at_call 41; refine (sIn_any _ _ _ _).mono ?_; rintro e w' ⟨rfl, hw⟩; obtain rfl := hw.symm)
   go_ret
   exact ⟨ret_bool HN.out.symm, Below.refl _ _⟩
 ·have hs1 : inB (n : Int) 1 16 = false := by unfold inB; simp; omega
  have HN : Hid (okM n L Z = false) := okM_no (fun hh => hn ⟨hh.1, hh.2.1⟩)
  generalize okM n L Z = okf at HN
  clear h hL
  go_enter Tryz.func142, Tryz.ntmps142
  go_wp2_with (go_at_call 41; refine (sIn_any _ _ _ _).mono ?_; rintro e w' ⟨rfl, hw⟩; obtain rfl := hw.symm)
  go_ret
  exact ⟨ret_bool HN.out.symm, Below.refl _ _⟩
abbrev MatF (w : World) (B E G r cap : Nat) (g C : Nat → Nat) (W : Nat) (F : Nat → Nat → Nat) : Prop := MatU w B E (some ⟨G, 0, none⟩) r cap (fun i => some ⟨g i, 0, none⟩) (fun _ => W) C (fun i j => ((F i j : Nat) : Int))
theorem MatF.set {w : World} {B E G r cap : Nat} {g C : Nat → Nat} {W : Nat} {F F' : Nat → Nat → Nat} {i j v : Nat} (h : MatF w B E G r cap g C W F) (hi : i < r) (hj : j < W) (e : ∀ p q, p < r → q < W → (if p = i ∧ q = j then v else F p q) = F' p q) :
  MatF (w.setCell ⟨g i, j, none⟩ (.int .u8 (v : Int))) B E G r cap g C W F' :=
 (h.setElt teNe hi rfl hj (v : Int)).1.congr (fun p hp => ⟨rfl, rfl, rfl, fun q hq => by
  rw [← e p q hp hq]
  split <;> rfl⟩)
theorem grown_belowM {w w1 w2 : World} {g : Nat} (h0 : w.grownBy w1 (some g)) (hb : Below w1.heap.size w1 w2) : w.grownBy w2 (some g) :=
 ⟨hb.os.trans h0.os, hb.tape.trans h0.tape, hb.output.trans h0.output, Nat.le_trans h0.size hb.size, fun j hj hn => (hb.block j (Nat.lt_of_lt_of_le hj h0.size)).trans (h0.block j hj hn)⟩
def sclK (a x k : Nat) (F : Nat → Nat → Nat) (i j : Nat) : Nat := if i = a ∧ j < k then Gp.m (F i j) x else F i j
theorem scaleRow_any (B E G r cap : Nat) (g C : Nat → Nat) (W : Nat) (F : Nat → Nat → Nat) (a x : Nat) (w : World) (h : MatF w B E G r cap g C W F) (hF : Gm.Byt F) (ha : a < r) (hx : x < 256) (hW : W ≤ 1048576) :
  Calls Tryz.prog 170 #[.slice (some ⟨G, 0, none⟩) r cap, .int .i64 (a : Int), .int .u8 (x : Int)] w fun e w' => e = .returned (.tuple #[]) ∧ MatF w' B E G r cap g C W (Gm.scl a x F) ∧ w.grownBy w' (some (g a)) := by
 have hai : (a : Int) < (r : Int) := by omega
 have hh0 := h.hdr ha
 have K0 : Hid (MatF w B E G r cap g C W F) := h
 have KF : Hid (Gm.Byt F) := hF
 clear h hF
 obtain ⟨ga, hga⟩ : ∃ ga, g a = ga := ⟨_, rfl⟩
 obtain ⟨Ca, hCa⟩ : ∃ Ca, C a = Ca := ⟨_, rfl⟩
 have KG : Hid (g a = ga) := hga
 have KC : Hid (C a = Ca) := hCa
 rw [hga, hCa] at hh0
 rw [hga]
 clear hga hCa
 go_enter Tryz.func170, Tryz.ntmps170
 go_wp2
 go_loopw [13] (fun i wr => ∃ k : Nat, k ≤ W ∧ i = .int .i64 k ∧ MatF wr B E G r cap g C W (sclK a x k F) ∧ w.grownBy wr (some ga)) (fun i _ => W - (intOf i).toNat)
 case atStart => exact ⟨0, Nat.zero_le _, rfl, K0.out.congr (fun i _ => ⟨rfl, rfl, rfl, fun j _ => by unfold sclK; rw [if_neg (by omega)]⟩), World.grownBy.refl _ _⟩
 case round =>
  obtain ⟨k, hk, rfl, hM, hgr⟩ := hrel
  clear K0
  by_cases hlt : k < W
  ·have hki : (k : Int) < (W : Int) := by omega
   have hh := hM.hdr ha
   have he := hM.elt (j := k) ha rfl hlt
   have hval : sclK a x k F a k = F a k := by unfold sclK; rw [if_neg (by omega)]
   rw [hval] at he
   have hf := KF.out a k
   have hfr := hM.free ha rfl k
   have hG := hM.olt.2
   have hg := (hM.glt ha rfl).2
   have hml := Gf.mul_lt hf hx
   have KE : Hid (∀ p q, (if p = a ∧ q = k then Gf.mul (F a k) x else sclK a x k F p q) = sclK a x (k + 1) F p q) := fun p q => by
    unfold sclK
    by_cases e : p = a ∧ q = k
    ·obtain ⟨rfl, rfl⟩ := e
     rw [if_pos ⟨rfl, rfl⟩, if_pos ⟨rfl, by omega⟩, Gp.m_nat hf hx]
    ·rw [if_neg e]
     by_cases e2 : p = a ∧ q < k
     ·rw [if_pos e2, if_pos (by omega)]
     ·rw [if_neg e2, if_neg (by omega)]
   have KM : Hid (MatF wr B E G r cap g C W (sclK a x k F)) := hM
   have hGg : G ≠ ga := by
    have := MatZ.off teNe hM ha rfl
    rw [KG.out] at this
    exact this.symm
   have hk2 : ∀ (u : World) (v : Value), u.cell? ⟨G, a, none⟩ = some (.slice (some ⟨ga, 0, none⟩) W Ca) → (u.setCell ⟨ga, k, none⟩ v).cell? ⟨G, a, none⟩ = some (.slice (some ⟨ga, 0, none⟩) W Ca) := fun u v hu => (grown_set u ga k v).cell hu (by simp; exact hGg)
   clear hM hval hh0
   obtain ⟨X, hX⟩ : ∃ X, F a k = X := ⟨_, rfl⟩
   rw [hX] at he hf hml KE
   clear hX
   rw [KG.out] at hh he hfr hg
   rw [KC.out] at hh
   go_wp2_with fail
   go_region_held3 (fun w' => w'.cell? ⟨G, a, none⟩ = some (.slice (some ⟨ga, 0, none⟩) W Ca)) (first | go_keep | exact hk2 _ _ (by assumption)) ((go_at_call 70; refine (times_any X x _ hf hx).mono ?_; rintro e w1 ⟨rfl, hb1'⟩; have hb1 := below_of_drew hb1'; clear hb1'; have hh1 := (hb1.cell (p := ⟨G, a, none⟩) hG).trans hh; have he1 := (hb1.cell (p := ⟨ga, k, none⟩) hg).trans he; have hfr1 := (World.frozen?_of_block (a := ⟨ga, k, none⟩) (hb1.block _ hg)).trans hfr))
   all_goals
    have HS : Hid (MatF (w1.setCell ⟨ga, k, none⟩ (.int .u8 ((Gf.mul X x : Nat) : Int))) B E G r cap g C W (sclK a x (k + 1) F)) := by
     have := MatF.set (KM.out.below hb1) (i := a) (j := k) (v := Gf.mul X x) ha hlt (fun p q _ _ => KE.out p q)
     rw [KG.out] at this
     exact this
    have HG : Hid (w.grownBy (w1.setCell ⟨ga, k, none⟩ (.int .u8 ((Gf.mul X x : Nat) : Int))) (some ga)) := grownBy_trans (grown_belowM hgr hb1) (grown_set _ _ _ _)
    clear KM
    go_wp2
    go_roundw
    case rel => exact ⟨k + 1, by omega, by go_num, HS.out, HG.out⟩
    case measure => simp [intOf] <;> omega
  ·obtain rfl : k = W := by omega
   have KM : Hid (MatF wr B E G r cap g C k (sclK a x k F)) := hM
   clear hM
   go_wp2
   go_end0
   exact ⟨rfl, KM.out.congr (fun i _ => ⟨rfl, rfl, rfl, fun j hj => by unfold sclK Gm.scl; by_cases e : i = a; rw [if_pos ⟨e, hj⟩, if_pos e]; rw [if_neg (by omega), if_neg e]⟩), hgr⟩
def addK (a b y k : Nat) (F : Nat → Nat → Nat) (i j : Nat) : Nat := if i = a ∧ j < k then F i j ^^^ Gp.m (F b j) y else F i j
theorem sUnit0_any (n : Nat) (w : World) (hn : n ≤ 1000) :
  Calls Tryz.prog 118 #[.int .i64 (n : Int)] w fun e w' => ∃ G cap A C, e = .returned (.slice (some ⟨G, 0, none⟩) n cap) ∧ MatI w' w.heap.size w'.heap.size (some ⟨G, 0, none⟩) n cap A (fun _ => n) C (fun i j => ((Gm.dl i j : Nat) : Int)) ∧ Below w.heap.size w w' := by
 obtain ⟨i0, hi, hz0, hz1, hz2⟩ := info_parts Tryz.infoInt
 obtain ⟨i1, hj, hy0, hy1, hy2⟩ := info_parts Tryz.infoInts
 have H0 : Hid (MatI (w.alloc (.cells #[] 25)) w.heap.size (w.alloc (.cells #[] 25)).heap.size (some ⟨w.heap.size, 0, none⟩) 0 0 (fun _ => none) (fun _ => n) (fun _ => 0) (fun i j => ((Gm.dl i j : Nat) : Int))) := litM w _ _ _ _
 go_enter Tryz.func118, Tryz.ntmps118
 go_wp2
 go_loopw [3, 4] (fun v i wr => ∃ k G cap A C, k ≤ n ∧ i = .int .i64 ((k : Nat) : Int) ∧ v = .slice (some ⟨G, 0, none⟩) k cap ∧ MatI wr w.heap.size wr.heap.size (some ⟨G, 0, none⟩) k cap A (fun _ => n) C (fun i j => ((Gm.dl i j : Nat) : Int)) ∧ Below w.heap.size w wr) (fun _ i _ => n - (intOf i).toNat)
 case atStart => exact ⟨0, _, _, _, _, Nat.zero_le _, rfl, rfl, H0.out, (Below.refl _ _).alloc (Nat.le_refl _) _⟩
 case round =>
  obtain ⟨k, G, cap, A, C, hk, rfl, rfl, hM, hbel⟩ := hrel
  clear H0
  by_cases hlt : k < n
  ·have hki : (k : Int) < (n : Int) := by omega
   have hsz0 := hbel.size
   have KR : Hid (OwnR (wr.alloc (.cells #[] 3)) wr.heap.size wr.heap.size 0 0 (Gm.dl k)) := lit0 wr (Gm.dl k)
   have KM : Hid (MatI (wr.alloc (.cells #[] 3)) w.heap.size wr.heap.size (some ⟨G, 0, none⟩) k cap A (fun _ => n) C (fun i j => ((Gm.dl i j : Nat) : Int))) := hM.below ((Below.refl _ _).alloc (Nat.le_refl _) _)
   have KB : Hid (Below w.heap.size w (wr.alloc (.cells #[] 3))) := hbel.alloc hsz0 _
   have hGl := hM.olt.1
   clear hM hbel
   obtain ⟨b0, hb0⟩ : ∃ b0, wr.heap.size = b0 := ⟨_, rfl⟩
   rw [hb0] at KR KM hsz0
   go_wp2
   clear hb0
   go_loopw [5, 6] (fun v i wr => ∃ q gr capr, q ≤ n ∧ i = .int .i64 ((q : Nat) : Int) ∧ v = .slice (some ⟨gr, 0, none⟩) q capr ∧ OwnR wr b0 gr q capr (Gm.dl k) ∧ MatI wr w.heap.size b0 (some ⟨G, 0, none⟩) k cap A (fun _ => n) C (fun i j => ((Gm.dl i j : Nat) : Int)) ∧ Below w.heap.size w wr) (fun _ i _ => n - (intOf i).toNat)
   case atStart => exact ⟨0, _, _, Nat.zero_le _, rfl, rfl, KR.out, KM.out, KB.out⟩
   case round =>
    obtain ⟨q, gr, capr, hq, rfl, rfl, hown, hM, hbel⟩ := hrel
    clear KR KM KB
    have hgr := hown.lt.1
    have hsz := hbel.size
    have hglt := hown.lt.2
    by_cases hqn : q < n
    ·have hqi : (q : Int) < (n : Int) := by omega
     obtain ⟨x, hx⟩ : ∃ x, Gm.dl k q = x := ⟨_, rfl⟩
     by_cases e : k = q
     ·subst e
      have hxe : Gm.dl k k = 1 := Gm.dl_self k
      clear hx
      go_wp2_with (at_builtin; refine wpList_append_lies _ (by rfl) _ _ 25 (by rfl) b0 3 i0 (.int .i64 0) 1 8 Tryz.underlying25 hi hz0 hz1 hz2 rfl (by decide) (.slice (some ⟨gr, 0, none⟩) k capr) k _ (by rfl) (World.ownsRow.alloc hown _) ⟨wr.heap.size, 0, none⟩ 1 1 [.int .i64 1] (by rfl) (by rfl) (World.news_of_block (cs := #[.int .i64 1]) (t := 3) (fr := (0, 0)) (heap_alloc_new wr _)) (by simp [Value.oneCell']) (by omega) (by unfold maxLen; omega) (by omega) (by simp; omega) (wr.heap.size + 1) (by simp) ?_; intro g2 cap3 w2 hown2 hgrow hat hltg)
      have HO : Hid (OwnR w2 b0 g2 (k + 1) cap3 (Gm.dl k)) := OwnR.snoc (by rw [hxe]; exact hown2)
      have HM : Hid (MatI w2 w.heap.size b0 (some ⟨G, 0, none⟩) k cap A (fun _ => n) C (fun i j => ((Gm.dl i j : Nat) : Int))) := MatI.rowed _ hM hgr hgrow
      have hb' : Below w.heap.size w w2 := (hbel.alloc hsz _).grown (show World.grownBy _ w2 (some gr) from hgrow) (by simp; omega) (fun j hj => by cases hj; omega)
      clear hown2 hgrow hat hltg hown hM
      go_roundw
      case rel => exact ⟨k + 1, g2, cap3, by omega, by go_num, rfl, HO.out, HM.out, hb'⟩
      case measure => simp [intOf] <;> omega
     ·have hxe : Gm.dl k q = 0 := Gm.dl_ne e
      have hee : ((k : Int) == (q : Int)) = false := by simp; omega
      clear hx
      go_wp2_with (at_builtin; refine wpList_append_lies _ (by rfl) _ _ 25 (by rfl) b0 3 i0 (.int .i64 0) 1 8 Tryz.underlying25 hi hz0 hz1 hz2 rfl (by decide) (.slice (some ⟨gr, 0, none⟩) q capr) q _ (by rfl) (World.ownsRow.alloc hown _) ⟨wr.heap.size, 0, none⟩ 1 1 [.int .i64 0] (by rfl) (by rfl) (World.news_of_block (cs := #[.int .i64 0]) (t := 3) (fr := (0, 0)) (heap_alloc_new wr _)) (by simp [Value.oneCell']) (by omega) (by unfold maxLen; omega) (by omega) (by simp; omega) (wr.heap.size + 1) (by simp) ?_; intro g2 cap3 w2 hown2 hgrow hat hltg)
      have HO : Hid (OwnR w2 b0 g2 (q + 1) cap3 (Gm.dl k)) := OwnR.snoc (by rw [hxe]; exact hown2)
      have HM : Hid (MatI w2 w.heap.size b0 (some ⟨G, 0, none⟩) k cap A (fun _ => n) C (fun i j => ((Gm.dl i j : Nat) : Int))) := MatI.rowed _ hM hgr hgrow
      have hb' : Below w.heap.size w w2 := (hbel.alloc hsz _).grown (show World.grownBy _ w2 (some gr) from hgrow) (by simp; omega) (fun j hj => by cases hj; omega)
      clear hown2 hgrow hat hltg hown hM
      go_roundw
      case rel => exact ⟨q + 1, g2, cap3, by omega, by go_num, rfl, HO.out, HM.out, hb'⟩
      case measure => simp [intOf] <;> omega
    ·obtain rfl : q = n := by omega
     have hqi : ¬ (q : Int) < (q : Int) := by omega
     go_wp2_with (at_builtin; refine wpList_append_lies _ (by rfl) _ _ 64 (by rfl) w.heap.size 25 i1 (.slice none 0 0) 1 24 Tryz.underlying64 hj hy0 hy1 hy2 rfl (by decide) (.slice (some ⟨G, 0, none⟩) k cap) k _ (by rfl) (World.ownsRow.alloc hM.out _) ⟨wr.heap.size, 0, none⟩ 1 1 [.slice (some ⟨gr, 0, none⟩) q capr] (by rfl) (by rfl) (World.news_of_block (cs := #[.slice (some ⟨gr, 0, none⟩) q capr]) (t := 25) (fr := (0, 0)) (heap_alloc_new wr _)) (by simp [Value.oneCell']) (by omega) (by unfold maxLen; omega) (by omega) (by simp; omega) (wr.heap.size + 1) (by simp) ?_; intro g2 cap3 w2 hown2 hgrow hat hltg)
     obtain ⟨A', C', hP⟩ := MatI.pushed _ hM hsz0 hown hgrow hown2
     have HP : Hid (MatI w2 w.heap.size w2.heap.size (some ⟨g2, 0, none⟩) (k + 1) cap3 A' (fun _ => q) C' (fun i j => ((Gm.dl i j : Nat) : Int))) := hP
     have hb' : Below w.heap.size w w2 := (hbel.alloc hsz _).grown (show World.grownBy _ w2 (some G) from hgrow) (by simp; omega) (fun j hj => by cases hj; exact hGl)
     clear hown2 hgrow hat hltg hown hM hP
     go_roundw
     case rel => exact ⟨k + 1, g2, cap3, A', C', by omega, by go_num, rfl, HP.out, hb'⟩
     case measure => simp [intOf] <;> omega
  ·obtain rfl : k = n := by omega
   have KM : Hid _ := hM
   clear hM
   go_wp2
   go_ret
   exact ⟨G, cap, A, C, rfl, KM.out, hbel⟩
theorem addScaledRow_any (B E G r cap : Nat) (g C : Nat → Nat) (W : Nat) (F : Nat → Nat → Nat) (a b y : Nat) (w : World) (h : MatF w B E G r cap g C W F) (hF : Gm.Byt F) (ha : a < r) (hb : b < r) (hab : a ≠ b) (hy : y < 256) (hW : W ≤ 1048576) :
  Calls Tryz.prog 171 #[.slice (some ⟨G, 0, none⟩) r cap, .int .i64 (a : Int), .int .i64 (b : Int), .int .u8 (y : Int)] w fun e w' => e = .returned (.tuple #[]) ∧ MatF w' B E G r cap g C W (addK a b y W F) ∧ w.grownBy w' (some (g a)) := by
 have hai : (a : Int) < (r : Int) := by omega
 have hbi : (b : Int) < (r : Int) := by omega
 have hh0 := h.hdr hb
 have K0 : Hid (MatF w B E G r cap g C W F) := h
 have KF : Hid (Gm.Byt F) := hF
 clear h hF
 obtain ⟨ga, hga⟩ : ∃ ga, g a = ga := ⟨_, rfl⟩
 obtain ⟨Ca, hCa⟩ : ∃ Ca, C a = Ca := ⟨_, rfl⟩
 obtain ⟨gb, hgb⟩ : ∃ gb, g b = gb := ⟨_, rfl⟩
 obtain ⟨Cb, hCb⟩ : ∃ Cb, C b = Cb := ⟨_, rfl⟩
 have KG : Hid (g a = ga) := hga
 have KC : Hid (C a = Ca) := hCa
 have KGb : Hid (g b = gb) := hgb
 rw [hgb, hCb] at hh0
 rw [hga]
 clear hga hCa hgb hCb
 go_enter Tryz.func171, Tryz.ntmps171
 go_wp2
 go_loopw [15] (fun i wr => ∃ k : Nat, k ≤ W ∧ i = .int .i64 k ∧ MatF wr B E G r cap g C W (addK a b y k F) ∧ w.grownBy wr (some ga)) (fun i _ => W - (intOf i).toNat)
 case atStart => exact ⟨0, Nat.zero_le _, rfl, K0.out.congr (fun i _ => ⟨rfl, rfl, rfl, fun j _ => by unfold addK; rw [if_neg (by omega)]⟩), World.grownBy.refl _ _⟩
 case round =>
  obtain ⟨k, hk, rfl, hM, hgr⟩ := hrel
  clear K0
  by_cases hlt : k < W
  ·have hki : (k : Int) < (W : Int) := by omega
   have hh := hM.hdr ha
   have he := hM.elt (j := k) ha rfl hlt
   have heb := hM.elt (j := k) hb rfl hlt
   have hval : addK a b y k F a k = F a k := by unfold addK; rw [if_neg (by omega)]
   have hvalb : addK a b y k F b k = F b k := by unfold addK; rw [if_neg (by omega)]
   rw [hval] at he
   rw [hvalb] at heb
   have hf := KF.out a k
   have hfb := KF.out b k
   have hfr := hM.free ha rfl k
   have hG := hM.olt.2
   have hg := (hM.glt ha rfl).2
   have hml := Gf.mul_lt hfb hy
   have KE : Hid (∀ p q, (if p = a ∧ q = k then F a k ^^^ Gf.mul (F b k) y else addK a b y k F p q) = addK a b y (k + 1) F p q) := fun p q => by
    unfold addK
    by_cases e : p = a ∧ q = k
    ·obtain ⟨rfl, rfl⟩ := e
     rw [if_pos ⟨rfl, rfl⟩, if_pos ⟨rfl, by omega⟩, Gp.m_nat hfb hy]
    ·rw [if_neg e]
     by_cases e2 : p = a ∧ q < k
     ·rw [if_pos e2, if_pos (by omega)]
     ·rw [if_neg e2, if_neg (by omega)]
   have KM : Hid (MatF wr B E G r cap g C W (addK a b y k F)) := hM
   clear hM hval hvalb hh0
   obtain ⟨X, hX⟩ : ∃ X, F a k = X := ⟨_, rfl⟩
   obtain ⟨Y, hY⟩ : ∃ Y, F b k = Y := ⟨_, rfl⟩
   rw [hX] at he hf KE
   rw [hY] at heb hfb hml KE
   clear hX hY
   rw [KG.out] at hh he hfr hg
   rw [KC.out] at hh
   rw [KGb.out] at heb
   go_wp2_with fail
   go_region_with ((first | (go_at_call 70; refine (times_any Y y _ hfb hy).mono ?_; rintro e w1 ⟨rfl, hb1'⟩; have hb1 := below_of_drew hb1'; clear hb1'; have hh1 := (hb1.cell (p := ⟨G, a, none⟩) hG).trans hh; have he1 := (hb1.cell (p := ⟨ga, k, none⟩) hg).trans he; have hfr1 := (World.frozen?_of_block (a := ⟨ga, k, none⟩) (hb1.block _ hg)).trans hfr) | (go_at_call 68; refine (plus_any X (Gf.mul Y y) _ hf hml).mono ?_; rintro e w2 ⟨rfl, hw2⟩; obtain rfl := hw2.symm)))
   all_goals
    have HS : Hid (MatF (w1.setCell ⟨ga, k, none⟩ (.int .u8 ((X ^^^ Gf.mul Y y : Nat) : Int))) B E G r cap g C W (addK a b y (k + 1) F)) := by
     have := MatF.set (KM.out.below hb1) (i := a) (j := k) (v := X ^^^ Gf.mul Y y) ha hlt (fun p q _ _ => KE.out p q)
     rw [KG.out] at this
     exact this
    have HG : Hid (w.grownBy (w1.setCell ⟨ga, k, none⟩ (.int .u8 ((X ^^^ Gf.mul Y y : Nat) : Int))) (some ga)) := grownBy_trans (grown_belowM hgr hb1) (grown_set _ _ _ _)
    clear KM
    go_wp2
    go_roundw
    case rel => exact ⟨k + 1, by omega, by go_num, HS.out, HG.out⟩
    case measure => simp [intOf] <;> omega
  ·obtain rfl : k = W := by omega
   have KM : Hid (MatF wr B E G r cap g C k (addK a b y k F)) := hM
   clear hM
   go_wp2
   go_end0
   exact ⟨rfl, KM.out, hgr⟩
section
variable {k : IntKind} {T TT : Nat} {w w' : World} {B E : Nat} {n cap : Nat} {A : Nat → Option Addr} {L C : Nat → Nat} {Z : Nat → Nat → Int}
theorem MatZ.grew (hT : T ≠ TT) {G g0 g i l c E' : Nat} {z : Nat → Int} (h : MatZ k T TT w B E (some ⟨G, 0, none⟩) n cap A L C Z) (hi : i < n) (hA : A i = some ⟨g0, 0, none⟩) (hg : w.grownBy w' (some g0))
  (hrow : w'.ownsRow B T 1 (.slice (some ⟨g, 0, none⟩) l c) l ((zI z l).map (Value.int k))) (hat : g = g0 ∨ w.heap.size ≤ g) (hE : E ≤ E') (hE' : g < E') :
  w'.cell? ⟨G, i, none⟩ = some (.slice (A i) (L i) (C i)) ∧ w'.frozen? ⟨G, i, none⟩ = false ∧
  MatZ k T TT (w'.setCell ⟨G, i, none⟩ (.slice (some ⟨g, 0, none⟩) l c)) B E' (some ⟨G, 0, none⟩) n cap (fun j => if j = i then some ⟨g, 0, none⟩ else A j) (fun j => if j = i then l else L j) (fun j => if j = i then c else C j) (fun j => if j = i then z else Z j) ∧ w'.grownBy (w'.setCell ⟨G, i, none⟩ (.slice (some ⟨g, 0, none⟩) l c)) (some G) := by
 have hgs := grown_set w' G i (.slice (some ⟨g, 0, none⟩) l c)
 have ho := own_kept h.out hg (fun x e => by cases e; exact (h.off hT hi hA).symm)
 have hgG : g ≠ G := by
  intro e
  subst e
  rcases own_shape hrow with ⟨h', _⟩ | ⟨g1, c1, e1, _, hg1, _⟩
  ·cases h'
  ·rcases own_shape ho with ⟨h', _⟩ | ⟨g2, c2, e2, _, hg2, _⟩
   ·cases h'
   ·cases e1
    cases e2
    rw [hg1] at hg2
    cases hg2
    exact hT rfl
 refine ⟨?_, ho.frozenAt i, ⟨?_, fun x e => ?_, fun p hp => ?_, fun p hp x ex => ?_, fun p q hp hq hpq x y ex ey => ?_⟩, hgs⟩
 ·rw [ho.cellAt i (by omega), hds_get _ _ _ _ _ hi]
 ·have h1 := (ho.stored i (.slice (some ⟨g, 0, none⟩) l c)).1
  rw [hds_set] at h1
  exact h1
 ·have := h.oE x e; omega
 ·by_cases e : p = i
  ·subst e
   simp only [if_pos]
   exact own_kept hrow hgs (fun x ex => by cases ex; exact hgG)
  ·simp only [if_neg e]
   have h1 := own_kept (h.row p hp) hg (fun x ex => h.apart p i hp hi e x _ ex hA)
   refine own_kept h1 hgs (fun x ex => ?_)
   have hr := h.row p hp
   rw [ex] at hr
   rcases own_shape hr with ⟨h', _⟩ | ⟨g1, c1, e1, _⟩
   ·cases h'
   ·cases e1
    exact h.off hT hp ex
 ·by_cases e : p = i
  ·simp only [if_pos e] at ex; cases ex; exact hE'
  ·simp only [if_neg e] at ex
   have := h.rE p hp x ex
   omega
 ·have key : ∀ q, q < n → q ≠ i → ∀ y, A q = some y → y.block ≠ g := fun q hq hqi y ey => by
   rcases hat with rfl | hat
   ·exact h.apart q i hq hi hqi y _ ey hA
   ·have hr := h.row q hq
    rw [ey] at hr
    have := (hr.lt y.block rfl).2
    omega
  by_cases e : p = i
  ·simp only [if_pos e] at ex
   cases ex
   simp only [if_neg (show q ≠ i by omega)] at ey
   exact (key q hq (by omega) y ey).symm
  ·simp only [if_neg e] at ex
   by_cases e2 : q = i
   ·simp only [if_pos e2] at ey
    cases ey
    exact key p hp e x ex
   ·simp only [if_neg e2] at ey
    exact h.apart p q hp hq hpq x y ex ey
end
theorem news_below {w w' : World} {ad : Addr} {news : List Value} (h : ∀ j u, news[j]? = some u → w.cell? (ad.add j) = some u) (hb : Below w.heap.size w w') : ∀ j u, news[j]? = some u → w'.cell? (ad.add j) = some u := fun j u hu =>
 (hb.cell (p := ad.add j) (block_lt_of_cell (h j u hu))).trans (h j u hu)
end Go.Proofs.YtodnodekheaacaaGreatDoor
