import Derived.Test.YtodnodekheaacaaGreatDoorG10
set_option maxHeartbeats 8000000
set_option maxRecDepth 2000
open Go.ChangeShapes Go.WideShapes Go.ChangeAt Go.RowKit
namespace Go.Proofs.YtodnodekheaacaaGreatDoor
theorem pick1_any (pb rb r c i j p : Nat) (F : Nat → Nat → Nat) (ra : Option Addr) (nr rc : Nat) (zs : List Int) (w : World) (h : RdU w pb r c F) (hv : w.cell? ⟨rb, 0, none⟩ = some (.slice ra nr rc)) (hz : IntsAt w ra nr zs) (hi : i < nr) (hp : zs.getD i 0 = (p : Int)) (hpr : p < r) (hj : j < c) :
  Calls Tryz.prog 139 #[.int .i64 (i : Int), .int .i64 (j : Int), .pointer (some ⟨pb, 0, none⟩), .pointer (some ⟨rb, 0, none⟩)] w fun e w' => e = .returned (.int .u8 ((F p j : Nat) : Int)) ∧ Below w.heap.size w w' := by
 obtain ⟨G, cap, hpp, hr⟩ := h
 obtain ⟨g, cc, hc, he⟩ := hr p hpr
 have hel := he j hj
 obtain ⟨b, off, rfl, hcz⟩ := hz.2 i hi
 rw [hp] at hcz
 have hi' : (i : Int) < (nr : Int) := by omega
 have hj' : (j : Int) < (c : Int) := by omega
 have hp' : (p : Int) < (r : Int) := by omega
 clear he hr hz hp
 generalize F p j = X at hel
 go_enter Tryz.func139, Tryz.ntmps139
 go_wp2
 go_quiet (fail)
 go_wp2
 go_ret
 exact ⟨rfl, below_drewN (Below.refl _ _) _⟩
theorem pickEnter : ∀ args w, (callFunc 139 args).run Tryz.prog w = .ok (.enter 139 args) w := enters_of Tryz.func139 (by kernel_rfl) rfl
def Places (n : Nat) (zs : List Int) : Prop := 1 ≤ zs.length ∧ zs.length ≤ 16 ∧ ∀ i, i < zs.length → 0 ≤ zs.getD i 0 ∧ zs.getD i 0 < (n : Int)
def pkF (F : Nat → Nat → Nat) (zs : List Int) (i j : Nat) : Nat := F (zs.getD i 0).toNat j
theorem pickFill {pb rb r c : Nat} {F : Nat → Nat → Nat} {ra : Option Addr} {nr rc : Nat} {zs : List Int} {w : World} (h : RdU w pb r c F) (hv : w.cell? ⟨rb, 0, none⟩ = some (.slice ra nr rc)) (hz : IntsAt w ra nr zs) (hp : Places r zs) :
  FillBy 139 #[.pointer (some ⟨pb, 0, none⟩), .pointer (some ⟨rb, 0, none⟩)] nr c (pkF F zs) w := fun W i j hb hi hj => by
 have hl := hz.1
 obtain ⟨h1, h2⟩ := hp.2.2 i (by omega)
 have h3 := pick1_any pb rb r c i j (zs.getD i 0).toNat F ra nr rc zs W (h.below hb) ((hb.cell (p := ⟨rb, 0, none⟩) (block_lt_of_cell hv)).trans hv) (hz.below hb) hi (by omega) (by omega) hj
 exact h3
noncomputable def pkOk (n : Nat) (L : Nat → Nat) (Z : Nat → Nat → Int) (zs : List Int) : Bool := @decide (OkM n L Z ∧ Places n zs) (Classical.propDecidable _)
theorem pkOk_yes {n : Nat} {L : Nat → Nat} {Z : Nat → Nat → Int} {zs : List Int} (h : OkM n L Z ∧ Places n zs) : pkOk n L Z zs = true := by unfold pkOk; exact @decide_eq_true _ (Classical.propDecidable _) h
theorem pkOk_no {n : Nat} {L : Nat → Nat} {Z : Nat → Nat → Int} {zs : List Int} (h : ¬ (OkM n L Z ∧ Places n zs)) : pkOk n L Z zs = false := by unfold pkOk; exact @decide_eq_false _ (Classical.propDecidable _) h
noncomputable def pkR (n : Nat) (L : Nat → Nat) (Z : Nat → Nat → Int) (zs : List Int) : Nat := if pkOk n L Z zs = true then zs.length else 0
theorem placesNot {n : Nat} {zs : List Int} (h : ¬ Places n zs) (h1 : 1 ≤ zs.length) (h2 : zs.length ≤ 16) : ∃ q, q < zs.length ∧ ¬ (0 ≤ zs.getD q 0 ∧ zs.getD q 0 < (n : Int)) := by
 refine Classical.byContradiction fun hno => h ⟨h1, h2, fun i hi => ?_⟩
 exact Classical.byContradiction fun hc => hno ⟨i, hi, hc⟩
theorem pickM_any (a : Option Addr) (n cap : Nat) (L : Nat → Nat) (Z : Nat → Nat → Int) (ra : Option Addr) (nr rc : Nat) (zs : List Int) (w : World) (h : MatAt w a n L Z) (hz : IntsAt w ra nr zs) (hL : ∀ i, i < n → L i ≤ 1048576) (hnr : nr ≤ 1048576) :
  Calls Tryz.prog 98 #[.slice a n cap, .slice ra nr rc] w fun e w' => ∃ v, e = .returned (.tuple #[v, .bool (pkOk n L Z zs)]) ∧ ResM w w' v (pkR n L Z zs) (L 0) (pkF (bZ n L Z) zs) ∧ Below w.heap.size w w' := by
 have hlen := hz.1
 have hrb := boxed w (.slice ra nr rc) 25
 have hb1 : Below w.heap.size w (w.alloc (.cells #[.slice ra nr rc] 25)) := (Below.refl _ _).alloc (Nat.le_refl _) _
 obtain ⟨w1, hw1⟩ : ∃ w1, w.alloc (.cells #[.slice ra nr rc] 25) = w1 := ⟨_, rfl⟩
 have KW : Hid (w.alloc (.cells #[.slice ra nr rc] 25) = w1) := hw1
 rw [hw1] at hrb hb1
 clear hw1
 have h1 := h.below hb1
 have hz1 := hz.below hb1
 clear h hz
 have hrl := block_lt_of_cell hrb
 by_cases ok : OkM n L Z
 ·have KR : Hid _ := readM_b a n cap L Z w1 h1 ok
  have hn : 1 ≤ n ∧ n ≤ 16 ∧ 1 ≤ L 0 ∧ L 0 ≤ 16 := ⟨ok.1, ok.2.1, ok.2.2.1, ok.2.2.2.1⟩
  have hbt := bZ_byt n L Z
  by_cases hs : 1 ≤ nr ∧ nr ≤ 16
  ·have hsd : side (nr : Int) = true := by rw [side_nat]; simp; omega
   by_cases hpl : Places n zs
   ·have hok := pkOk_yes ⟨ok, hpl⟩
    have hR : pkR n L Z zs = nr := by unfold pkR; rw [if_pos hok]; exact hlen
    rw [hok, hR]
    generalize bZ n L Z = F at KR hbt
    clear h1 hL ok hR hok
    generalize L 0 = l at hn KR
    obtain ⟨hn1, hn2, hl1, hl2⟩ := hn
    have hn0' : 0 < n := by omega
    have KT : Hid (Gm.Byt F) := hbt
    have KP : Hid (Places n zs) := hpl
    have KZ : Hid (IntsAt w1 ra nr zs) := hz1
    clear hbt hpl hz1
    go_enter Tryz.func98, Tryz.ntmps98
    go_wp2_with fail
    rw [KW.out]
    refine Calls.mono KR.out ?_
    rintro e w2 ⟨rfl, ⟨g, hM⟩, hb2⟩
    have hp := boxed w2 (.slice (some ⟨w1.heap.size, 0, none⟩) n n) 186
    have hb3 : Below w2.heap.size w2 (w2.alloc (.cells #[.slice (some ⟨w1.heap.size, 0, none⟩) n n] 186)) := (Below.refl _ _).alloc (Nat.le_refl _) _
    have hRd := MatU.rd hM hb3 hp
    have hd0 := (hM.below hb3).hdr (i := 0) (by omega)
    have hrb3 := ((below2 hb2 hb3).cell (p := ⟨w.heap.size, 0, none⟩) hrl).trans hrb
    have hrb3e := hrb3
    obtain ⟨W, hW⟩ : ∃ W, w2.alloc (.cells #[.slice (some ⟨w1.heap.size, 0, none⟩) n n] 186) = W := ⟨_, rfl⟩
    have KW2 : Hid (w2.alloc (.cells #[.slice (some ⟨w1.heap.size, 0, none⟩) n n] 186) = W) := hW
    rw [hW] at hp hb3 hRd hd0 hrb3
    have KZ3 : Hid (IntsAt W ra nr zs) := KZ.out.below (below2 hb2 hb3)
    have KRd : Hid (RdU W w2.heap.size n l F) := hRd
    have KB : Hid (Below w.heap.size w W) := below2 hb1 (below2 hb2 hb3)
    have hsz3 : w.heap.size ≤ W.heap.size := KB.out.size
    clear hM hRd hW KZ KR hrb hrl hb1 hb2 hb3
    generalize g 0 = g0 at hd0
    go_wp2_with fail
    rw [KW2.out]
    refine (isSide_any _ _).mono ?_
    rintro e w' ⟨rfl, hw⟩
    obtain rfl := hw.symm
    clear KW2 KW hrb3e
    go_wp2
    go_loop [25] (fun q => ∃ k : Nat, k ≤ nr ∧ q = .int .i64 (k : Int)) (fun q => nr - (intOf q).toNat)
    case atStart => exact ⟨0, Nat.zero_le _, rfl⟩
    case round =>
     obtain ⟨k, hk, rfl⟩ := hrel
     by_cases hlt : k < nr
     ·obtain ⟨b, off, rfl, hcz⟩ := KZ3.out.2 k hlt
      have hpk := KP.out.2.2 k (by omega)
      generalize zs.getD k 0 = x at hcz hpk
      obtain ⟨hx1, hx2⟩ := hpk
      have hx1' : ¬ x < 0 := by omega
      have hx2' : ¬ x ≥ (n : Int) := by omega
      have hki : (k : Int) < (nr : Int) := by omega
      go_wp2
      go_round
      case rel => exact ⟨k + 1, by omega, by go_num⟩
      case measure => simp [intOf] <;> omega
     ·have hki : ¬ (k : Int) < (nr : Int) := by omega
      have hpl2 := block_lt_of_cell hp
      have hdl := block_lt_of_cell hd0
      have hrl3 := block_lt_of_cell hrb3
      have KF : Hid _ := filled_any 139 #[.pointer (some ⟨w2.heap.size, 0, none⟩), .pointer (some ⟨w.heap.size, 0, none⟩)] pickEnter nr l (pkF F zs) W.drew (pickFill (KRd.out.below ⟨rfl, rfl, rfl, Nat.le_refl _, fun _ _ => rfl⟩) hrb3 (KZ3.out.below ⟨rfl, rfl, rfl, Nat.le_refl _, fun _ _ => rfl⟩) KP.out) (fun i j => KT.out _ j) (by omega) (by omega)
      go_wp2_with fail
      go_region_held3 (fun w' => w'.cell? ⟨w2.heap.size, 0, none⟩ = some (.slice (some ⟨w1.heap.size, 0, none⟩) n n) ∧ w'.cell? ⟨w1.heap.size, 0, none⟩ = some (.slice (some ⟨g0, 0, none⟩) l l) ∧ w'.cell? ⟨w.heap.size, 0, none⟩ = some (.slice ra nr rc)) (go_keep) ((go_at_call 65; refine Calls.mono KF.out ?_; rintro e w5 ⟨rfl, ⟨A5, hM5⟩, hb5'⟩; have hb5 := below_of_drew hb5'; have KM : Hid _ := hM5; clear hb5' hM5; have hp5 := (hb5.cell (p := ⟨w2.heap.size, 0, none⟩) hpl2).trans hp; have hd5 := (hb5.cell (p := ⟨w1.heap.size, 0, none⟩) hdl).trans hd0; have hr5 := (hb5.cell (p := ⟨w.heap.size, 0, none⟩) hrl3).trans hrb3))
      all_goals
       go_wp2
       go_ret2
       exact ⟨_, rfl, ResM.mk KM.out hsz3, below2 KB.out hb5⟩
   ·have hok := pkOk_no (Z := Z) (L := L) (n := n) (zs := zs) (fun hh => hpl hh.2)
    have hR : pkR n L Z zs = 0 := by unfold pkR; rw [if_neg (by rw [hok]; simp)]
    have hbad := placesNot hpl (by omega) (by omega)
    rw [hok, hR]
    generalize bZ n L Z = F at KR hbt
    clear h1 hL ok hR hok
    generalize L 0 = l at hn KR
    obtain ⟨hn1, hn2, hl1, hl2⟩ := hn
    have hn0' : 0 < n := by omega
    have KT : Hid (Gm.Byt F) := hbt
    have KP : Hid _ := hbad
    have KZ : Hid (IntsAt w1 ra nr zs) := hz1
    clear hbt hpl hz1 hbad
    go_enter Tryz.func98, Tryz.ntmps98
    go_wp2_with fail
    rw [KW.out]
    refine Calls.mono KR.out ?_
    rintro e w2 ⟨rfl, ⟨g, hM⟩, hb2⟩
    have hp := boxed w2 (.slice (some ⟨w1.heap.size, 0, none⟩) n n) 186
    have hb3 : Below w2.heap.size w2 (w2.alloc (.cells #[.slice (some ⟨w1.heap.size, 0, none⟩) n n] 186)) := (Below.refl _ _).alloc (Nat.le_refl _) _
    have hRd := MatU.rd hM hb3 hp
    have hd0 := (hM.below hb3).hdr (i := 0) (by omega)
    have hrb3 := ((below2 hb2 hb3).cell (p := ⟨w.heap.size, 0, none⟩) hrl).trans hrb
    have hrb3e := hrb3
    obtain ⟨W, hW⟩ : ∃ W, w2.alloc (.cells #[.slice (some ⟨w1.heap.size, 0, none⟩) n n] 186) = W := ⟨_, rfl⟩
    have KW2 : Hid (w2.alloc (.cells #[.slice (some ⟨w1.heap.size, 0, none⟩) n n] 186) = W) := hW
    rw [hW] at hp hb3 hRd hd0 hrb3
    have KZ3 : Hid (IntsAt W ra nr zs) := KZ.out.below (below2 hb2 hb3)
    have KRd : Hid (RdU W w2.heap.size n l F) := hRd
    have KB : Hid (Below w.heap.size w W) := below2 hb1 (below2 hb2 hb3)
    have hsz3 : w.heap.size ≤ W.heap.size := KB.out.size
    clear hM hRd hW KZ KR hrb hrl hb1 hb2 hb3
    generalize g 0 = g0 at hd0
    go_wp2_with fail
    rw [KW2.out]
    refine (isSide_any _ _).mono ?_
    rintro e w' ⟨rfl, hw⟩
    obtain rfl := hw.symm
    clear KW2 KW hrb3e
    go_wp2
    obtain ⟨q, hq, hbad⟩ := KP.out
    have KQ : Hid (¬ (0 ≤ zs.getD q 0 ∧ zs.getD q 0 < (n : Int))) := hbad
    clear KP hbad
    go_loop [25] (fun q' => ∃ k : Nat, k ≤ q ∧ q' = .int .i64 (k : Int)) (fun q => nr - (intOf q).toNat)
    case atStart => exact ⟨0, Nat.zero_le _, rfl⟩
    case round =>
     obtain ⟨k, hk, rfl⟩ := hrel
     have hlt : k < nr := by omega
     obtain ⟨b, off, rfl, hcz⟩ := KZ3.out.2 k hlt
     have hki : (k : Int) < (nr : Int) := by omega
     by_cases hx1 : zs.getD k 0 < 0
     ·generalize zs.getD k 0 = x at hcz hx1
      go_wp2
      go_ret2
      exact ⟨_, rfl, ResM.none _ _ _ _, KB.out⟩
     ·by_cases hx2 : zs.getD k 0 ≥ (n : Int)
      ·generalize zs.getD k 0 = x at hcz hx1 hx2
       go_wp2
       go_ret2
       exact ⟨_, rfl, ResM.none _ _ _ _, KB.out⟩
      ·have hkq : k ≠ q := fun e => KQ.out (by rw [← e]; omega)
       generalize zs.getD k 0 = x at hcz hx1 hx2
       go_wp2
       go_round
       case rel => exact ⟨k + 1, by omega, by go_num⟩
       case measure => simp [intOf] <;> omega
  ·have hsd : side (nr : Int) = false := by rw [side_nat]; simp; omega
   have hok := pkOk_no (Z := Z) (L := L) (n := n) (zs := zs) (fun hh => hs ⟨by have := hh.2.1; omega, by have := hh.2.2.1; omega⟩)
   have hR : pkR n L Z zs = 0 := by unfold pkR; rw [if_neg (by rw [hok]; simp)]
   rw [hok, hR]
   generalize bZ n L Z = F at KR hbt
   clear h1 hL ok hR hok hbt hz1
   generalize L 0 = l at hn KR
   go_enter Tryz.func98, Tryz.ntmps98
   go_wp2_with fail
   rw [KW.out]
   refine Calls.mono KR.out ?_
   rintro e w2 ⟨rfl, ⟨g, hM⟩, hb2⟩
   have hb3 : Below w2.heap.size w2 (w2.alloc (.cells #[.slice (some ⟨w1.heap.size, 0, none⟩) n n] 186)) := (Below.refl _ _).alloc (Nat.le_refl _) _
   have hrb3 := ((below2 hb2 hb3).cell (p := ⟨w.heap.size, 0, none⟩) hrl).trans hrb
   have KB : Hid (Below w.heap.size w _) := below2 hb1 (below2 hb2 hb3)
   clear hM KR hrb hrl hb1 hb2 hb3
   go_wp2_with fail
   refine (isSide_any _ _).mono ?_
   rintro e w' ⟨rfl, hw⟩
   obtain rfl := hw.symm
   clear KW
   go_wp2
   go_ret2
   exact ⟨_, rfl, ResM.none _ _ _ _, KB.out⟩
 ·have KR : Hid _ := readM_no a n cap L Z w1 h1 hL ok
  have hok := pkOk_no (Z := Z) (L := L) (n := n) (zs := zs) (fun hh => ok hh.1)
  have hR : pkR n L Z zs = 0 := by unfold pkR; rw [if_neg (by rw [hok]; simp)]
  rw [hok, hR]
  clear h1 hL ok hz1 hR hok
  go_enter Tryz.func98, Tryz.ntmps98
  go_wp2_with fail
  rw [KW.out]
  refine Calls.mono KR.out ?_
  rintro e w2 ⟨rfl, hb2⟩
  go_wp2
  go_ret2
  exact ⟨_, rfl, ResM.none _ _ _ _, below2 hb1 (below2 hb2 ((Below.refl _ _).alloc (Nat.le_refl _) _))⟩
end Go.Proofs.YtodnodekheaacaaGreatDoor
