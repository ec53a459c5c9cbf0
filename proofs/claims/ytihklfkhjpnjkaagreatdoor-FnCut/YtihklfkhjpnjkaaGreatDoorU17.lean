import Derived.Test.YtihklfkhjpnjkaaGreatDoorU12
import Derived.Deep.RegionLaw
set_option maxHeartbeats 8000000
set_option maxRecDepth 2000
open Go.ChangeShapes Go.WideShapes Go.ChangeAt Go.RowKit
namespace Go.Proofs.YtihklfkhjpnjkaaGreatDoor
def side (n : Int) : Bool := decide (1 ≤ n ∧ n ≤ 16)
theorem side_nat (n : Nat) : side (n : Int) = decide (1 ≤ n ∧ n ≤ 16) := by
 unfold side
 congr 1
 simp only [eq_iff_iff]
 omega
theorem isSide_any (n : Int) (w : World) : Calls Tryz.prog 97 #[.int .i64 n] w fun e w' => e = .returned (.bool (side n)) ∧ w' = w := by
 go_enter Tryz.func97, Tryz.ntmps97
 go_wp2
 ·go_ret
  exact ⟨ret_bool (by simp [side, *]), rfl⟩
 ·go_ret
  exact ⟨ret_bool (by simp [side]; omega), rfl⟩
theorem unitAt_any (i j : Nat) (w : World) : Calls Tryz.prog 100 #[.int .i64 (i : Int), .int .i64 (j : Int)] w fun e w' => e = .returned (.int .u8 ((Gm.dl i j : Nat) : Int)) ∧ w' = w := by
 by_cases h : i = j
 ·subst h
  rw [Gm.dl_self]
  go_enter Tryz.func100, Tryz.ntmps100
  go_wp2
  go_ret
  exact ⟨rfl, rfl⟩
 ·have h' : ((i : Int) == (j : Int)) = false := by simp; omega
  rw [Gm.dl_ne h]
  go_enter Tryz.func100, Tryz.ntmps100
  go_wp2
  go_ret
  exact ⟨rfl, rfl⟩
def FillBy (g : Nat) (lb : Array Value) (r c : Nat) (F : Nat → Nat → Nat) (w : World) : Prop :=
 ∀ (W : World) (i j : Nat), Below w.heap.size w W → i < r → j < c → Calls Tryz.prog g (#[.int .i64 (i : Int), .int .i64 (j : Int)] ++ lb) W fun e w' => e = .returned (.int .u8 ((F i j : Nat) : Int)) ∧ Below W.heap.size W w'
theorem FillBy.below {g : Nat} {lb : Array Value} {r c : Nat} {F : Nat → Nat → Nat} {w w' : World} (h : FillBy g lb r c F w) (hb : Below w.heap.size w w') : FillBy g lb r c F w' := fun W i j hW hi hj => h W i j (below2 hb hW) hi hj
theorem filled_any (g : Nat) (lb : Array Value) (eg : ∀ args w, (callFunc g args).run Tryz.prog w = .ok (.enter g args) w) (r c : Nat) (F : Nat → Nat → Nat) (w : World) (hp : FillBy g lb r c F w) (hF : ∀ i j, F i j < 256) (hr : r ≤ 1048576) (hc : c ≤ 1048576) :
  Calls Tryz.prog 98 #[.int .i64 (r : Int), .int .i64 (c : Int), .func (.func g) #[] lb] w fun e w' => e = .returned (.slice (some ⟨w.heap.size, 0, none⟩) r r) ∧ (∃ A, MatI w' w.heap.size w'.heap.size (some ⟨w.heap.size, 0, none⟩) r r A (fun _ => c) (fun _ => c) (fun i j => ((F i j : Nat) : Int))) ∧ Below w.heap.size w w' := by
 obtain ⟨i0, hi, hz0, hz1, hz2⟩ := info_parts Tryz.infoInts
 obtain ⟨j0, hj, hy0, hy1, hy2⟩ := info_parts Tryz.infoInt
 go_enter Tryz.func98, Tryz.ntmps98
 go_wp2_with (at_make; refine wpList_make_full _ rfl _ _ 81 rfl w.heap.size 80 i0 (.slice none 0 0) 1 Tryz.underlying81 hi hz0 hz1 .i64 .i64 _ _ r rfl rfl rfl rfl (by rw [hz2]; omega) (by unfold maxLen; omega) (Nat.le_refl _) ?_; intro w1 hown hgrow)
 have hb1 : Below w.heap.size w w1 := (Below.refl _ _).grown hgrow (Nat.le_refl _) (by simp)
 have hlt1 := (World.ownsRow.lt hown _ rfl).2
 have ho1 : MatI w1 w.heap.size w1.heap.size (some ⟨w.heap.size, 0, none⟩) r r (fun _ => none) (fun i => if i < 0 then c else 0) (fun i => if i < 0 then c else 0) (fun i j => ((F i j : Nat) : Int)) :=
  (MatZ.made (by simpa [Value.cells, toList_madeCells_one] using hown) hlt1 _).congr (fun i _ => ⟨rfl, by simp, by simp, fun j hj => rfl⟩)
 have KO : Hid _ := ho1
 have KB : Hid (Below w.heap.size w w1) := hb1
 clear hown hgrow hlt1 ho1 hb1 hi hz0 hz1 hz2
 go_loopw [14] (fun i wr => ∃ k A, k ≤ r ∧ i = .int .i64 ((k : Nat) : Int) ∧ MatI wr w.heap.size wr.heap.size (some ⟨w.heap.size, 0, none⟩) r r A (fun i => if i < k then c else 0) (fun i => if i < k then c else 0) (fun i j => ((F i j : Nat) : Int)) ∧ (∀ i, k ≤ i → A i = none) ∧ Below w.heap.size w wr) (fun i _ => r - (intOf i).toNat)
 case atStart => exact ⟨0, _, Nat.zero_le _, rfl, KO.out, fun _ _ => rfl, KB.out⟩
 case round =>
  obtain ⟨k, A, hk, rfl, hown, hAn, hbel⟩ := hrel
  clear KO KB
  by_cases hlt : k < r
  ·have hlti : (k : Int) < (r : Int) := by omega
   have KA : Hid _ := hAn
   have KM : Hid (MatI wr w.heap.size wr.heap.size (some ⟨w.heap.size, 0, none⟩) r r A (fun i => if i < k then c else 0) (fun i => if i < k then c else 0) (fun i j => ((F i j : Nat) : Int))) := hown
   have KB : Hid (Below w.heap.size w wr) := hbel
   have hsz := hbel.size
   have hGlt := hown.olt.2
   have hold0 := hown.hdr hlt
   have hfr0 := hown.ofree k
   simp only [Nat.lt_irrefl, if_false] at hold0
   clear hAn hown hbel
   go_wp2_with (at_make; refine wpList_make_full _ rfl _ _ 80 rfl wr.heap.size 3 j0 (.int .i64 0) 1 Tryz.underlying80 hj hy0 hy1 .i64 .i64 _ _ c rfl rfl rfl rfl (by rw [hy2]; omega) (by unfold maxLen; omega) (Nat.le_refl _) ?_; intro w2 hown2 hgrow2; have hb2 : Below wr.heap.size wr w2 := (Below.refl _ _).grown hgrow2 (Nat.le_refl _) (by simp); have hold2 := (hb2.cell (p := ⟨w.heap.size, k, none⟩) hGlt).trans hold0; have hfr2 := (World.frozen?_of_block (a := ⟨w.heap.size, k, none⟩) (hb2.block _ hGlt)).trans hfr0)
   have ho2 : w2.ownsRow wr.heap.size 3 1 (.slice (some ⟨wr.heap.size, 0, none⟩) c c) c ((zI (fun _ => 0) c).map (Value.int .i64)) := by
    rw [zI_const c 0 (fun _ _ => rfl)]
    simpa [Value.cells, toList_madeCells_one] using hown2
   have hSR := ((KM.out.below hb2).wide hb2.size).setRow tiNe hlt (own_base ho2 hsz) (World.ownsRow.lt ho2 _ rfl).2 (fun j hj _ x ex => by have := KM.out.rE j hj x ex; exact Nat.ne_of_lt this)
   obtain ⟨A', KA'⟩ : ∃ A', Hid (A' = fun i => if i = k then some ⟨wr.heap.size, 0, none⟩ else A i) := ⟨_, rfl⟩
   obtain ⟨g1, hg1⟩ : ∃ g1, wr.heap.size = g1 := ⟨_, rfl⟩
   rw [hg1] at hSR KA' ⊢
   obtain ⟨w3, hw3⟩ : ∃ w3, w2.setCell ⟨w.heap.size, k, none⟩ (.slice (some ⟨g1, 0, none⟩) c c) = w3 := ⟨_, rfl⟩
   rw [hw3] at hSR ⊢
   have hA'k : A' k = some ⟨g1, 0, none⟩ := by rw [KA'.out]; simp
   have KS : Hid (MatI w3 w.heap.size w3.heap.size (some ⟨w.heap.size, 0, none⟩) r r A' (fun i => if i < k + 1 then c else 0) (fun i => if i < k + 1 then c else 0) (fun i j => if i = k ∧ 0 ≤ j then 0 else ((F i j : Nat) : Int))) :=
    (hSR.1.wide hSR.2.size).congr (fun i _ => by
     rw [KA'.out]
     by_cases e : i = k
     ·subst e; simp
     ·by_cases e2 : i < k
      ·simp [e, e2, show i < k + 1 by omega]
      ·simp [e, e2, show ¬ i < k + 1 by omega])
   have KB2 : Hid (Below w.heap.size w w3) := by
    rw [← hw3]
    exact (below2 KB.out hb2).setCell (Nat.le_refl _) _
   clear hSR hw3 ho2 hown2 hgrow2 hb2 hold2 hfr2 hold0 hfr0 KM KB hGlt
   go_loopw [27] (fun j wr => ∃ q : Nat, q ≤ c ∧ j = .int .i64 (q : Int) ∧ MatI wr w.heap.size wr.heap.size (some ⟨w.heap.size, 0, none⟩) r r A' (fun i => if i < k + 1 then c else 0) (fun i => if i < k + 1 then c else 0) (fun i j => if i = k ∧ q ≤ j then 0 else ((F i j : Nat) : Int)) ∧ Below w.heap.size w wr) (fun j _ => c - (intOf j).toNat)
   case atStart => exact ⟨0, Nat.zero_le _, rfl, KS.out, KB2.out⟩
   case round =>
    obtain ⟨q, hq, rfl, hM, hbel⟩ := hrel
    clear KS KB2
    by_cases hqc : q < c
    ·have hqci : (q : Int) < (c : Int) := by omega
     have hhd := hM.hdr hlt
     rw [hA'k] at hhd
     simp only [Nat.lt_succ_self, if_true] at hhd
     have hel := hM.elt (j := q) hlt hA'k (by simp only [Nat.lt_succ_self, if_true]; exact hqc)
     simp only [Nat.le_refl, and_self, if_true] at hel
     have hcall := hp wr.drew k q ⟨hbel.os, hbel.tape, hbel.output, hbel.size, hbel.block⟩ hlt hqc
     have hFkq := hF k q
     have hGl := hM.olt.2
     have hgl := (hM.glt hlt hA'k).2
     have KM : Hid (MatI wr w.heap.size wr.heap.size (some ⟨w.heap.size, 0, none⟩) r r A' (fun i => if i < k + 1 then c else 0) (fun i => if i < k + 1 then c else 0) (fun i j => if i = k ∧ q ≤ j then 0 else ((F i j : Nat) : Int))) := hM
     have KP : Hid (FillBy g lb r c F w) := hp
     have KF : Hid (∀ i j, F i j < 256) := hF
     have KB : Hid (Below w.heap.size w wr) := hbel
     have hfr := hM.free hlt hA'k q
     clear hM hp hF hbel
     generalize hX : F k q = X at hcall hFkq
     have KX : Hid (F k q = X) := hX
     clear hX
     go_wp2_with fail
     go_region_with ((go_at_fn g; refine Calls.mono hcall ?_; rintro e w5 ⟨rfl, hb5'⟩; have hb5 := below_of_drew hb5'; clear hb5'; have hhd5 := (hb5.cell (p := ⟨w.heap.size, k, none⟩) hGl).trans hhd; have hel5 := (hb5.cell (p := ⟨g1, q, none⟩) hgl).trans hel; have hfr5 := (World.frozen?_of_block (a := ⟨g1, q, none⟩) (hb5.block _ hgl)).trans hfr))
     all_goals
      have hwx : IntKind.i64.wrap (X : Int) = (X : Int) := by rw [IntKind.wrap_i64]; omega
      rw [hwx]
      have hSE := ((KM.out.below hb5).wide hb5.size).setElt tiNe (j := q) hlt hA'k (by simp only [Nat.lt_succ_self, if_true]; exact hqc) (X : Int)
      have HS : Hid (MatI (w5.setCell ⟨g1, q, none⟩ (.int .i64 (X : Int))) w.heap.size (w5.setCell ⟨g1, q, none⟩ (.int .i64 (X : Int))).heap.size (some ⟨w.heap.size, 0, none⟩) r r A' (fun i => if i < k + 1 then c else 0) (fun i => if i < k + 1 then c else 0) (fun i j => if i = k ∧ q + 1 ≤ j then 0 else ((F i j : Nat) : Int))) :=
       (hSE.1.wide hSE.2.size).congr (fun i _ => ⟨rfl, rfl, rfl, fun j _ => by
        by_cases e : i = k
        ·subst e
         by_cases e2 : j = q
         ·subst e2
          rw [if_pos ⟨rfl, rfl⟩, if_neg (by omega), KX.out]
         ·rw [if_neg (by omega)]
          by_cases e3 : q ≤ j
          ·rw [if_pos ⟨rfl, e3⟩, if_pos ⟨rfl, by omega⟩]
          ·rw [if_neg (by omega), if_neg (by omega)]
        ·rw [if_neg (by omega), if_neg (by omega), if_neg (by omega)]⟩)
      have HB : Hid (Below w.heap.size w (w5.setCell ⟨g1, q, none⟩ (.int .i64 (X : Int)))) := (below2 KB.out hb5).setCell (show w.heap.size ≤ g1 by omega) _
      clear hSE hcall
      go_wp2
      go_roundw
      case rel => exact ⟨q + 1, by omega, by go_num, HS.out, HB.out⟩
      case measure => simp [intOf] <;> omega
    ·obtain rfl : q = c := by omega
     have KM : Hid (MatI wr w.heap.size wr.heap.size (some ⟨w.heap.size, 0, none⟩) r r A' (fun i => if i < k + 1 then q else 0) (fun i => if i < k + 1 then q else 0) (fun i j => if i = k ∧ q ≤ j then 0 else ((F i j : Nat) : Int))) := hM
     have KP : Hid (FillBy g lb r q F w) := hp
     clear hM hp
     go_wp2
     go_roundw
     case rel => exact ⟨k + 1, A', by omega, by go_num, KM.out.congr (fun i hi => ⟨rfl, rfl, rfl, fun j hj => by
      rw [if_neg]
      intro h
      by_cases e : i < k + 1
      ·rw [if_pos e] at hj; omega
      ·omega⟩), fun i hi => by rw [KA'.out]; simp [show i ≠ k by omega, KA.out i (by omega)], hbel⟩
     case measure => simp [intOf] <;> omega
  ·obtain rfl : k = r := by omega
   have KM : Hid _ := hown
   clear hown hAn hp
   go_wp2
   go_ret
   exact ⟨rfl, ⟨A, KM.out.congr (fun i hi => ⟨rfl, if_pos hi, if_pos hi, fun j _ => rfl⟩)⟩, hbel⟩
def ResM (w w' : World) (v : Value) (r c : Nat) (F : Nat → Nat → Nat) : Prop := ∃ a cap A C, v = .slice a r cap ∧ MatI w' w.heap.size w'.heap.size a r cap A (fun _ => c) C (fun i j => ((F i j : Nat) : Int))
theorem ResM.none (w w' : World) (c : Nat) (F : Nat → Nat → Nat) : ResM w w' (.slice none 0 0) 0 c F := ⟨_, _, fun _ => .none, fun _ => 0, rfl, MatZ.nil _ _ _ _ _ _ _ _ _ _⟩
theorem ResM.mk {w w' : World} {a : Option Addr} {r cap c : Nat} {A : Nat → Option Addr} {C : Nat → Nat} {F : Nat → Nat → Nat} {B : Nat} (h : MatI w' B w'.heap.size a r cap A (fun _ => c) C (fun i j => ((F i j : Nat) : Int))) (hB : w.heap.size ≤ B) : ResM w w' (.slice a r cap) r c F :=
 ⟨a, cap, A, C, rfl, ⟨own_base h.out hB, h.oE, fun i hi => own_base (h.row i hi) hB, h.rE, h.apart⟩⟩
theorem spread1_any (kb k i j : Nat) (w : World) (hk : w.cell? ⟨kb, 0, none⟩ = some (.int .i64 (k : Int))) (hi : i < 256) (hj : j < 256) :
  Calls Tryz.prog 99 #[.int .i64 (i : Int), .int .i64 (j : Int), .pointer (some ⟨kb, 0, none⟩)] w fun e w' => e = .returned (.int .u8 ((Gm.sprd k i j : Nat) : Int)) ∧ Below w.heap.size w w' := by
 by_cases h : i < k
 ·have h' : (i : Int) < (k : Int) := by omega
  have HS : Hid (Gm.sprd k i j = Gm.dl i j) := by show _ = _; unfold Gm.sprd; rw [if_pos h]
  go_enter Tryz.func99, Tryz.ntmps99
  go_wp2_with (go_at_call 100; refine (unitAt_any i j _).mono ?_; rintro e w' ⟨rfl, hw⟩; obtain rfl := hw.symm)
  go_ret
  exact ⟨by rw [HS.out] <;> rfl, Below.refl _ _⟩
 ·have h' : ¬ (i : Int) < (k : Int) := by omega
  have HS : Hid (Gm.sprd k i j = Gf.inv (i ^^^ j)) := by show _ = _; unfold Gm.sprd; rw [if_neg h]
  have hx := Gf.xor_lt hi hj
  go_enter Tryz.func99, Tryz.ntmps99
  go_wp2_with (first | (go_at_call 101; refine (plus_any i j _ hi hj).mono ?_; rintro e w' ⟨rfl, hw⟩; obtain rfl := hw.symm) | (go_at_call 102; refine (inverse_any (i ^^^ j) _ hx).mono ?_; rintro e w2 ⟨rfl, hb2⟩))
  go_ret
  exact ⟨by rw [HS.out] <;> rfl, hb2⟩
theorem spreadEnter : ∀ args w, (callFunc 99 args).run Tryz.prog w = .ok (.enter 99 args) w := enters_of Tryz.func99 (by kernel_rfl) rfl
theorem spreadFill (kb k r c : Nat) (w : World) (hk : w.cell? ⟨kb, 0, none⟩ = some (.int .i64 (k : Int))) (hr : r ≤ 256) (hc : c ≤ 256) : FillBy 99 #[.pointer (some ⟨kb, 0, none⟩)] r c (Gm.sprd k) w := fun W i j hb hi hj =>
 spread1_any kb k i j W ((hb.cell (p := ⟨kb, 0, none⟩) (block_lt_of_cell hk)).trans hk) (by omega) (by omega)
theorem boxed (w : World) (v : Value) (t : TypeId) : (w.alloc (.cells #[v] t)).cell? ⟨w.heap.size, 0, none⟩ = some v := cell_of_one (heap_alloc_new w _)
def sprOk (k n : Int) : Bool := side n && decide (1 ≤ k ∧ k ≤ n)
def sprR (k n : Int) : Nat := if sprOk k n = true then n.toNat else 0
theorem spread_any (k n : Int) (w : World) : Calls Tryz.prog 67 #[.int .i64 k, .int .i64 n] w fun e w' => ∃ v, e = .returned (.tuple #[v, .bool (sprOk k n)]) ∧ ResM w w' v (sprR k n) k.toNat (Gm.sprd k.toNat) ∧ Below w.heap.size w w' := by
 have hbx := boxed w (.int .i64 k) 3
 have hb1 : Below w.heap.size w (w.alloc (.cells #[.int .i64 k] 3)) := (Below.refl _ _).alloc (Nat.le_refl _) _
 have hsz : (w.alloc (.cells #[.int .i64 k] 3)).heap.size = w.heap.size + 1 := by simp
 by_cases h1 : side n = true
 ·by_cases h2 : 1 ≤ k
  ·by_cases h3 : k ≤ n
   ·have hr : 1 ≤ n ∧ n ≤ 16 := by simpa [side] using h1
    have hok : sprOk k n = true := by unfold sprOk; rw [h1]; simp; omega
    obtain ⟨N, rfl⟩ : ∃ N : Nat, n = (N : Int) := ⟨n.toNat, by omega⟩
    obtain ⟨K, rfl⟩ : ∃ K : Nat, k = (K : Int) := ⟨k.toNat, by omega⟩
    have hN : sprR (K : Int) (N : Int) = N := by unfold sprR; rw [if_pos hok]; simp
    rw [hN, hok, Int.toNat_natCast]
    have KF : Hid _ := filled_any 99 #[.pointer (some ⟨w.heap.size, 0, none⟩)] spreadEnter N K (Gm.sprd K) _ (spreadFill w.heap.size K N K _ hbx (by omega) (by omega)) (Gm.sprd_byt K) (by omega) (by omega)
    have h2' : ¬ (K : Int) < 1 := by omega
    have h3' : ¬ (K : Int) > (N : Int) := by omega
    obtain ⟨w1, hw1⟩ : ∃ w1, w.alloc (.cells #[.int .i64 (K : Int)] 3) = w1 := ⟨_, rfl⟩
    have KW : Hid (w.alloc (.cells #[.int .i64 (K : Int)] 3) = w1) := hw1
    rw [hw1] at KF hb1 hbx
    clear hw1 hN hok hsz
    go_enter Tryz.func67, Tryz.ntmps67
    go_wp2_with fail
    rw [KW.out]
    refine (isSide_any _ _).mono ?_
    rintro e w' ⟨rfl, hw⟩
    obtain rfl := hw.symm
    go_wp2_with fail
    refine Calls.mono KF.out ?_
    rintro e w2 ⟨rfl, ⟨A, hM⟩, hb2⟩
    have KM : Hid _ := hM
    clear hM
    go_wp2
    go_ret2
    exact ⟨_, rfl, ResM.mk KM.out hb1.size, below2 hb1 hb2⟩
   ·have hok : sprOk k n = false := by unfold sprOk; simp [h3]
    have hN : sprR k n = 0 := by unfold sprR; rw [if_neg (by rw [hok]; simp)]
    rw [hN, hok]
    have h2' : ¬ k < 1 := by omega
    have h3' : k > n := by omega
    clear hok hN
    go_enter Tryz.func67, Tryz.ntmps67
    go_wp2_with fail
    refine (isSide_any _ _).mono ?_
    rintro e w' ⟨rfl, hw⟩
    obtain rfl := hw.symm
    go_wp2
    go_ret2
    exact ⟨_, rfl, ResM.none _ _ _ _, hb1⟩
  ·have hok : sprOk k n = false := by unfold sprOk; simp [h2]
   have hN : sprR k n = 0 := by unfold sprR; rw [if_neg (by rw [hok]; simp)]
   rw [hN, hok]
   have h2' : k < 1 := by omega
   clear hok hN
   go_enter Tryz.func67, Tryz.ntmps67
   go_wp2_with fail
   refine (isSide_any _ _).mono ?_
   rintro e w' ⟨rfl, hw⟩
   obtain rfl := hw.symm
   go_wp2
   go_ret2
   exact ⟨_, rfl, ResM.none _ _ _ _, hb1⟩
 ·have h1' : side n = false := by simpa using h1
  have hok : sprOk k n = false := by unfold sprOk; simp [h1']
  have hN : sprR k n = 0 := by unfold sprR; rw [if_neg (by rw [hok]; simp)]
  rw [hN, hok]
  clear hok hN
  go_enter Tryz.func67, Tryz.ntmps67
  go_wp2_with fail
  refine (isSide_any _ _).mono ?_
  rintro e w' ⟨rfl, hw⟩
  obtain rfl := hw.symm
  go_wp2
  go_ret2
  exact ⟨_, rfl, ResM.none _ _ _ _, hb1⟩
theorem MatI.pushed {wr w2 : World} {B b0 G k cap g2 cap3 gr W capr : Nat} {A : Nat → Option Addr} {C : Nat → Nat} {F : Nat → Nat → Nat} (o : Obj) (hM : MatI wr B b0 (some ⟨G, 0, none⟩) k cap A (fun _ => W) C (fun i j => ((F i j : Nat) : Int)))
  (hb : B ≤ b0) (hr : OwnR wr b0 gr W capr (F k)) (hgrow : (wr.alloc o).grownBy w2 (some G))
  (hout : w2.ownsRow B 80 1 (.slice (some ⟨g2, 0, none⟩) (k + 1) cap3) (k + 1) (hds A (fun _ => W) C k ++ [.slice (some ⟨gr, 0, none⟩) W capr])) :
  ∃ A' C', MatI w2 B w2.heap.size (some ⟨g2, 0, none⟩) (k + 1) cap3 A' (fun _ => W) C' (fun i j => ((F i j : Nat) : Int)) := by
 have hbo : Below wr.heap.size wr (wr.alloc o) := (Below.refl _ _).alloc (Nat.le_refl _) _
 have hM1 := hM.below hbo
 have hr1 : (wr.alloc o).ownsRow B 3 1 (.slice (some ⟨gr, 0, none⟩) W capr) W ((zI (fun j => ((F k j : Nat) : Int)) W).map (Value.int .i64)) := own_base (ownsRow_below hr hbo) hb
 have hgr := hr.lt.1
 refine ⟨_, _, (MatZ.push tiNe hM1 hgrow hout (Nat.le_refl _) ?_ hr1 (fun j hj y u ey eu => ?_)).congr (fun i _ => ⟨rfl, by split <;> rfl, rfl, fun j _ => by by_cases e : i = k; subst e; simp; simp [e]⟩)⟩
 ·by_cases h0 : G < b0
  ·exact Nat.le_trans (Nat.le_of_lt (Nat.lt_of_le_of_lt hgr hr.lt.2)) (Nat.le_trans hbo.size hgrow.size)
  ·exact Nat.le_trans (Nat.le_of_lt (Nat.lt_of_le_of_lt hgr hr.lt.2)) (Nat.le_trans hbo.size hgrow.size)
 ·cases eu
  have := hM.rE j hj y ey
  exact Nat.ne_of_lt (Nat.lt_of_lt_of_le this hgr)
theorem MatI.rowed {wr w2 : World} {B b0 gr : Nat} {a : Option Addr} {k cap W : Nat} {A : Nat → Option Addr} {C : Nat → Nat} {F : Nat → Nat → Nat} (o : Obj) (hM : MatI wr B b0 a k cap A (fun _ => W) C (fun i j => ((F i j : Nat) : Int))) (hgr : b0 ≤ gr) (hgrow : (wr.alloc o).grownBy w2 (some gr)) :
  MatI w2 B b0 a k cap A (fun _ => W) C (fun i j => ((F i j : Nat) : Int)) := (hM.below ((Below.refl _ _).alloc (Nat.le_refl _) o)).keptE hgrow hgr
theorem litM (w : World) (A : Nat → Option Addr) (L C : Nat → Nat) (Z : Nat → Nat → Int) : MatI (w.alloc (.cells #[] 80)) w.heap.size (w.alloc (.cells #[] 80)).heap.size (some ⟨w.heap.size, 0, none⟩) 0 0 A L C Z :=
 MatZ.zero _ _ _ _ _ _ _ _ _ _ (World.ownsRow_lit w #[] 0 (Nat.le_refl _) (by unfold maxLen; omega) rfl) (by simp)
theorem resLit0 (w w1 : World) (h : w.heap.size ≤ w1.heap.size) (c : Nat) (F : Nat → Nat → Nat) : ResM w (w1.alloc (.cells #[] 80)) (.slice (some ⟨w1.heap.size, 0, none⟩) 0 0) 0 c F :=
 ResM.mk (litM w1 (fun _ => none) (fun _ => c) (fun _ => 0) _) h
def blOk (s k : Int) : Bool := decide (0 ≤ s ∧ s ≤ 2000) && side k
def blI (s k : Int) : Int := if blOk s k = true then ((blen s.toNat k.toNat : Nat) : Int) else -1
theorem blI_yes {s k : Nat} (hs : s ≤ 2000) (hk : 1 ≤ k) (hk2 : k ≤ 16) : blI (s : Int) (k : Int) = ((blen s k : Nat) : Int) := by
 unfold blI
 rw [if_pos (by unfold blOk side; simp; omega)]
 simp
theorem blI_no {s k : Int} (h : ¬ (0 ≤ s ∧ s ≤ 2000 ∧ 1 ≤ k ∧ k ≤ 16)) : blI s k = -1 := by
 unfold blI
 rw [if_neg]
 unfold blOk side
 simp
 omega
theorem quo_blen {s k : Nat} (_hk : 1 ≤ k) : Int.tdiv ((s : Int) + 2 + (k : Int) - 1) (k : Int) = ((blen s k : Nat) : Int) := by
 unfold blen
 rw [show (s : Int) + 2 + (k : Int) - 1 = ((s + 2 + k - 1 : Nat) : Int) by omega, ← Int.ofNat_tdiv]
theorem bodyLen_any (s k : Int) (w : World) : Calls Tryz.prog 68 #[.int .i64 s, .int .i64 k] w fun e w' => e = .returned (.int .i64 (blI s k)) ∧ w' = w := by
 by_cases h : 0 ≤ s ∧ s ≤ 2000 ∧ 1 ≤ k ∧ k ≤ 16
 ·obtain ⟨h1, h2, h3, h4⟩ := h
  obtain ⟨S, rfl⟩ := Int.eq_ofNat_of_zero_le h1
  obtain ⟨K, rfl⟩ := Int.eq_ofNat_of_zero_le (show 0 ≤ k by omega)
  have hsd : side (K : Int) = true := by rw [side_nat]; simp; omega
  have HB : Hid (blI (S : Int) (K : Int) = ((blen S K : Nat) : Int)) := blI_yes (by omega) (by omega) (by omega)
  have hq := quo_blen (s := S) (k := K) (by omega)
  have h1' : ¬ (S : Int) < 0 := by omega
  have h2' : ¬ (S : Int) > 2000 := by omega
  have hw1 : IntKind.i64.wrap (2 + (S : Int)) = (S : Int) + 2 := by rw [IntKind.wrap_i64]; omega
  have hw2 : IntKind.i64.wrap ((S : Int) + 2 + (K : Int)) = (S : Int) + 2 + (K : Int) := by rw [IntKind.wrap_i64]; omega
  have hw3 : IntKind.i64.wrap ((S : Int) + 2 + (K : Int) - 1) = (S : Int) + 2 + (K : Int) - 1 := by rw [IntKind.wrap_i64]; omega
  have hbl := blen_le (s := S) (k := K) (by omega)
  have hw4 : IntKind.i64.wrap ((blen S K : Nat) : Int) = ((blen S K : Nat) : Int) := by rw [IntKind.wrap_i64]; omega
  have hk0 : ((K : Int) == 0) = false := by simp; omega
  have hk0' : ¬ ((K : Int) = 0) := by omega
  generalize blen S K = b at hq hw4 HB
  go_enter Tryz.func68, Tryz.ntmps68
  go_wp2_with (go_at_call 97; refine (isSide_any _ _).mono ?_; rintro e w' ⟨rfl, hw⟩; obtain rfl := hw.symm)
  go_ret
  exact ⟨ret_int (by rw [HB.out] <;> simp [*]), rfl⟩
 ·have HB : Hid (blI s k = -1) := blI_no h
  by_cases h1 : s < 0
  ·go_enter Tryz.func68, Tryz.ntmps68
   go_wp2
   go_ret
   exact ⟨ret_int HB.out.symm, rfl⟩
  ·by_cases h2 : s > 2000
   ·go_enter Tryz.func68, Tryz.ntmps68
    go_wp2
    go_ret
    exact ⟨ret_int HB.out.symm, rfl⟩
   ·have hsd : side k = false := by unfold side; simp; omega
    go_enter Tryz.func68, Tryz.ntmps68
    go_wp2_with (go_at_call 97; refine (isSide_any _ _).mono ?_; rintro e w' ⟨rfl, hw⟩; obtain rfl := hw.symm)
    go_ret
    exact ⟨ret_int HB.out.symm, rfl⟩
theorem sBodyLen_any (s k : Int) (w : World) : Calls Tryz.prog 75 #[.int .i64 s, .int .i64 k] w fun e w' => e = .returned (.int .i64 (blI s k)) ∧ w' = w := by
 by_cases h : 0 ≤ s ∧ s ≤ 2000 ∧ 1 ≤ k ∧ k ≤ 16
 ·obtain ⟨h1, h2, h3, h4⟩ := h
  obtain ⟨S, rfl⟩ := Int.eq_ofNat_of_zero_le h1
  obtain ⟨K, rfl⟩ := Int.eq_ofNat_of_zero_le (show 0 ≤ k by omega)
  have hi1 : inB (S : Int) 0 2000 = true := by unfold inB; simp; omega
  have hi2 : inB (K : Int) 1 16 = true := by unfold inB; simp; omega
  have HB : Hid (blI (S : Int) (K : Int) = ((blen S K : Nat) : Int)) := blI_yes (by omega) (by omega) (by omega)
  have hq := quo_blen (s := S) (k := K) (by omega)
  have hw1 : IntKind.i64.wrap ((S : Int) + 2) = (S : Int) + 2 := by rw [IntKind.wrap_i64]; omega
  have hw2 : IntKind.i64.wrap ((S : Int) + 2 + (K : Int)) = (S : Int) + 2 + (K : Int) := by rw [IntKind.wrap_i64]; omega
  have hw3 : IntKind.i64.wrap ((S : Int) + 2 + (K : Int) - 1) = (S : Int) + 2 + (K : Int) - 1 := by rw [IntKind.wrap_i64]; omega
  have hbl := blen_le (s := S) (k := K) (by omega)
  have hw4 : IntKind.i64.wrap ((blen S K : Nat) : Int) = ((blen S K : Nat) : Int) := by rw [IntKind.wrap_i64]; omega
  have hk0 : ((K : Int) == 0) = false := by simp; omega
  have hk0' : ¬ ((K : Int) = 0) := by omega
  generalize blen S K = b at hq hw4 HB
  go_enter Tryz.func75, Tryz.ntmps75
  go_wp2_with (go_at_call 60; refine (sIn_any _ _ _ _).mono ?_; rintro e w' ⟨rfl, hw⟩; obtain rfl := hw.symm)
  go_ret
  exact ⟨ret_int (by rw [HB.out] <;> simp [*]), rfl⟩
 ·have HB : Hid (blI s k = -1) := blI_no h
  by_cases h1 : 0 ≤ s ∧ s ≤ 2000
  ·have hi1 : inB s 0 2000 = true := by unfold inB; simp; omega
   have hi2 : inB k 1 16 = false := by unfold inB; simp; omega
   go_enter Tryz.func75, Tryz.ntmps75
   go_wp2_with (go_at_call 60; refine (sIn_any _ _ _ _).mono ?_; rintro e w' ⟨rfl, hw⟩; obtain rfl := hw.symm)
   go_ret
   exact ⟨ret_int HB.out.symm, rfl⟩
  ·have hi1 : inB s 0 2000 = false := by unfold inB; simp; omega
   go_enter Tryz.func75, Tryz.ntmps75
   go_wp2_with (go_at_call 60; refine (sIn_any _ _ _ _).mono ?_; rintro e w' ⟨rfl, hw⟩; obtain rfl := hw.symm)
   go_ret
   exact ⟨ret_int HB.out.symm, rfl⟩
theorem sUnit0_any (n : Nat) (w : World) (hn : n ≤ 1000) :
  Calls Tryz.prog 110 #[.int .i64 (n : Int)] w fun e w' => ∃ G cap A C, e = .returned (.slice (some ⟨G, 0, none⟩) n cap) ∧ MatI w' w.heap.size w'.heap.size (some ⟨G, 0, none⟩) n cap A (fun _ => n) C (fun i j => ((Gm.dl i j : Nat) : Int)) ∧ Below w.heap.size w w' := by
 obtain ⟨i0, hi, hz0, hz1, hz2⟩ := info_parts Tryz.infoInt
 obtain ⟨i1, hj, hy0, hy1, hy2⟩ := info_parts Tryz.infoInts
 have H0 : Hid (MatI (w.alloc (.cells #[] 80)) w.heap.size (w.alloc (.cells #[] 80)).heap.size (some ⟨w.heap.size, 0, none⟩) 0 0 (fun _ => none) (fun _ => n) (fun _ => 0) (fun i j => ((Gm.dl i j : Nat) : Int))) := litM w _ _ _ _
 go_enter Tryz.func110, Tryz.ntmps110
 go_wp2
 go_loopw [3, 4] (fun v i wr => ∃ k G cap A C, k ≤ n ∧ i = .int .i64 ((k : Nat) : Int) ∧ v = .slice (some ⟨G, 0, none⟩) k cap ∧ MatI wr w.heap.size wr.heap.size (some ⟨G, 0, none⟩) k cap A (fun _ => n) C (fun i j => ((Gm.dl i j : Nat) : Int)) ∧ Below w.heap.size w wr) (fun _ i _ => n - (intOf i).toNat)
 case atStart => exact ⟨0, _, _, _, _, Nat.zero_le _, rfl, rfl, H0.out, (Below.refl _ _).alloc (Nat.le_refl _) _⟩
 case round =>
  obtain ⟨k, G, cap, A, C, hk, rfl, rfl, hM, hbel⟩ := hrel
  clear H0
  by_cases hlt : k < n
  ·have hki : (k : Int) < (n : Int) := by omega
   have hsz0 := hbel.size
   have KR : Hid (OwnR (wr.alloc (.cells #[] 3)) wr.heap.size wr.heap.size 0 0 (Gm.dl k)) := lit0 wr (Gm.dl k)
   have KM : Hid (MatI (wr.alloc (.cells #[] 3)) w.heap.size wr.heap.size (some ⟨G, 0, none⟩) k cap A (fun _ => n) C (fun i j => ((Gm.dl i j : Nat) : Int))) := hM.below ((Below.refl _ _).alloc (Nat.le_refl _) _)
   have KB : Hid (Below w.heap.size w (wr.alloc (.cells #[] 3))) := hbel.alloc hsz0 _
   have hGl := hM.olt.1
   clear hM hbel
   obtain ⟨b0, hb0⟩ : ∃ b0, wr.heap.size = b0 := ⟨_, rfl⟩
   rw [hb0] at KR KM hsz0
   go_wp2
   clear hb0
   go_loopw [5, 6] (fun v i wr => ∃ q gr capr, q ≤ n ∧ i = .int .i64 ((q : Nat) : Int) ∧ v = .slice (some ⟨gr, 0, none⟩) q capr ∧ OwnR wr b0 gr q capr (Gm.dl k) ∧ MatI wr w.heap.size b0 (some ⟨G, 0, none⟩) k cap A (fun _ => n) C (fun i j => ((Gm.dl i j : Nat) : Int)) ∧ Below w.heap.size w wr) (fun _ i _ => n - (intOf i).toNat)
   case atStart => exact ⟨0, _, _, Nat.zero_le _, rfl, rfl, KR.out, KM.out, KB.out⟩
   case round =>
    obtain ⟨q, gr, capr, hq, rfl, rfl, hown, hM, hbel⟩ := hrel
    clear KR KM KB
    have hgr := hown.lt.1
    have hsz := hbel.size
    have hglt := hown.lt.2
    by_cases hqn : q < n
    ·have hqi : (q : Int) < (n : Int) := by omega
     obtain ⟨x, hx⟩ : ∃ x, Gm.dl k q = x := ⟨_, rfl⟩
     by_cases e : k = q
     ·subst e
      have hxe : Gm.dl k k = 1 := Gm.dl_self k
      clear hx
      go_wp2_with (at_builtin; refine wpList_append_lies _ (by rfl) _ _ 80 (by rfl) b0 3 i0 (.int .i64 0) 1 8 Tryz.underlying80 hi hz0 hz1 hz2 rfl (by decide) (.slice (some ⟨gr, 0, none⟩) k capr) k _ (by rfl) (World.ownsRow.alloc hown _) ⟨wr.heap.size, 0, none⟩ 1 1 [.int .i64 1] (by rfl) (by rfl) (World.news_of_block (cs := #[.int .i64 1]) (t := 3) (fr := (0, 0)) (heap_alloc_new wr _)) (by simp [Value.oneCell']) (by omega) (by unfold maxLen; omega) (by omega) (by simp; omega) (wr.heap.size + 1) (by simp) ?_; intro g2 cap3 w2 hown2 hgrow hat hltg)
      have HO : Hid (OwnR w2 b0 g2 (k + 1) cap3 (Gm.dl k)) := OwnR.snoc (by rw [hxe]; exact hown2)
      have HM : Hid (MatI w2 w.heap.size b0 (some ⟨G, 0, none⟩) k cap A (fun _ => n) C (fun i j => ((Gm.dl i j : Nat) : Int))) := MatI.rowed _ hM hgr hgrow
      have hb' : Below w.heap.size w w2 := (hbel.alloc hsz _).grown (show World.grownBy _ w2 (some gr) from hgrow) (by simp; omega) (fun j hj => by cases hj; omega)
      clear hown2 hgrow hat hltg hown hM
      go_roundw
      case rel => exact ⟨k + 1, g2, cap3, by omega, by go_num, rfl, HO.out, HM.out, hb'⟩
      case measure => simp [intOf] <;> omega
     ·have hxe : Gm.dl k q = 0 := Gm.dl_ne e
      have hee : ((k : Int) == (q : Int)) = false := by simp; omega
      clear hx
      go_wp2_with (at_builtin; refine wpList_append_lies _ (by rfl) _ _ 80 (by rfl) b0 3 i0 (.int .i64 0) 1 8 Tryz.underlying80 hi hz0 hz1 hz2 rfl (by decide) (.slice (some ⟨gr, 0, none⟩) q capr) q _ (by rfl) (World.ownsRow.alloc hown _) ⟨wr.heap.size, 0, none⟩ 1 1 [.int .i64 0] (by rfl) (by rfl) (World.news_of_block (cs := #[.int .i64 0]) (t := 3) (fr := (0, 0)) (heap_alloc_new wr _)) (by simp [Value.oneCell']) (by omega) (by unfold maxLen; omega) (by omega) (by simp; omega) (wr.heap.size + 1) (by simp) ?_; intro g2 cap3 w2 hown2 hgrow hat hltg)
      have HO : Hid (OwnR w2 b0 g2 (q + 1) cap3 (Gm.dl k)) := OwnR.snoc (by rw [hxe]; exact hown2)
      have HM : Hid (MatI w2 w.heap.size b0 (some ⟨G, 0, none⟩) k cap A (fun _ => n) C (fun i j => ((Gm.dl i j : Nat) : Int))) := MatI.rowed _ hM hgr hgrow
      have hb' : Below w.heap.size w w2 := (hbel.alloc hsz _).grown (show World.grownBy _ w2 (some gr) from hgrow) (by simp; omega) (fun j hj => by cases hj; omega)
      clear hown2 hgrow hat hltg hown hM
      go_roundw
      case rel => exact ⟨q + 1, g2, cap3, by omega, by go_num, rfl, HO.out, HM.out, hb'⟩
      case measure => simp [intOf] <;> omega
    ·obtain rfl : q = n := by omega
     have hqi : ¬ (q : Int) < (q : Int) := by omega
     go_wp2_with (at_builtin; refine wpList_append_lies _ (by rfl) _ _ 81 (by rfl) w.heap.size 80 i1 (.slice none 0 0) 1 24 Tryz.underlying81 hj hy0 hy1 hy2 rfl (by decide) (.slice (some ⟨G, 0, none⟩) k cap) k _ (by rfl) (World.ownsRow.alloc hM.out _) ⟨wr.heap.size, 0, none⟩ 1 1 [.slice (some ⟨gr, 0, none⟩) q capr] (by rfl) (by rfl) (World.news_of_block (cs := #[.slice (some ⟨gr, 0, none⟩) q capr]) (t := 80) (fr := (0, 0)) (heap_alloc_new wr _)) (by simp [Value.oneCell']) (by omega) (by unfold maxLen; omega) (by omega) (by simp; omega) (wr.heap.size + 1) (by simp) ?_; intro g2 cap3 w2 hown2 hgrow hat hltg)
     obtain ⟨A', C', hP⟩ := MatI.pushed _ hM hsz0 hown hgrow hown2
     have HP : Hid (MatI w2 w.heap.size w2.heap.size (some ⟨g2, 0, none⟩) (k + 1) cap3 A' (fun _ => q) C' (fun i j => ((Gm.dl i j : Nat) : Int))) := hP
     have hb' : Below w.heap.size w w2 := (hbel.alloc hsz _).grown (show World.grownBy _ w2 (some G) from hgrow) (by simp; omega) (fun j hj => by cases hj; exact hGl)
     clear hown2 hgrow hat hltg hown hM hP
     go_roundw
     case rel => exact ⟨k + 1, g2, cap3, A', C', by omega, by go_num, rfl, HP.out, hb'⟩
     case measure => simp [intOf] <;> omega
  ·obtain rfl : k = n := by omega
   have KM : Hid _ := hM
   clear hM
   go_wp2
   go_ret
   exact ⟨G, cap, A, C, rfl, KM.out, hbel⟩
section
variable {k : IntKind} {T TT : Nat} {w w' : World} {B E : Nat} {n cap : Nat} {A : Nat → Option Addr} {L C : Nat → Nat} {Z : Nat → Nat → Int}
end
end Go.Proofs.YtihklfkhjpnjkaaGreatDoor
namespace Go.Proofs.YtihklfkhjpnjkaaGreatDoor
theorem MatZ.base {k : IntKind} {T TT : Nat} {w : World} {B E : Nat} {a : Option Addr} {n cap : Nat} {A : Nat → Option Addr} {L C : Nat → Nat} {Z : Nat → Nat → Int} (h : MatZ k T TT w B E a n cap A L C Z) : (∀ x, a = some x → B ≤ x.block) ∧ ∀ i, i < n → ∀ x, A i = some x → B ≤ x.block := by
 refine ⟨fun x e => ?_, fun i hi x e => ?_⟩
 ·rcases own_shape h.out with ⟨h', _⟩ | ⟨g, _, e', hb, _⟩
  ·rw [h'] at e; cases e
  ·rw [e'] at e; cases e; exact hb
 ·rcases own_shape (h.row i hi) with ⟨h', _⟩ | ⟨g, _, e', hb, _⟩
  ·rw [h'] at e; cases e
  ·rw [e'] at e; cases e; exact hb
theorem MatZ.cur {k : IntKind} {T TT : Nat} {w w' : World} {B E g : Nat} {a : Option Addr} {n cap : Nat} {A : Nat → Option Addr} {L C : Nat → Nat} {Z : Nat → Nat → Int} (h : MatZ k T TT w B E a n cap A L C Z) (hg : w.grownBy w' (some g)) (hB : g < B) : MatZ k T TT w' B E a n cap A L C Z :=
 h.kept hg (fun x e => by have := h.base.1 x e; omega) (fun i hi x e => by have := h.base.2 i hi x e; omega)
def lenV : Value → Nat
 | .slice _ n _ => n
 | _ => 0
end Go.Proofs.YtihklfkhjpnjkaaGreatDoor
