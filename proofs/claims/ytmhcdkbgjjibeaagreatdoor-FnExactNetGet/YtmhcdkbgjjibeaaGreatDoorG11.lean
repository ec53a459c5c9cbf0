import Derived.Test.YtmhcdkbgjjibeaaGreatDoorG6
import Derived.Test.YtmhcdkbgjjibeaaGreatDoorG8
import Derived.Test.YtmhcdkbgjjibeaaGreatDoorG7
import Derived.Deep.LoopGhost
import Derived.BigRegion
set_option maxHeartbeats 8000000
set_option maxRecDepth 2000
open Go.ChangeShapes Go.WideShapes Go.ChangeAt Go.RowKit
namespace Go.Proofs.YtmhcdkbgjjibeaaGreatDoor
abbrev MatF (w : World) (B E G r cap : Nat) (g C : Nat → Nat) (W : Nat) (F : Nat → Nat → Nat) : Prop := MatU w B E (some ⟨G, 0, none⟩) r cap (fun i => some ⟨g i, 0, none⟩) (fun _ => W) C (fun i j => ((F i j : Nat) : Int))
theorem MatF.set {w : World} {B E G r cap : Nat} {g C : Nat → Nat} {W : Nat} {F F' : Nat → Nat → Nat} {i j v : Nat} (h : MatF w B E G r cap g C W F) (hi : i < r) (hj : j < W) (e : ∀ p q, p < r → q < W → (if p = i ∧ q = j then v else F p q) = F' p q) :
  MatF (w.setCell ⟨g i, j, none⟩ (.int .u8 (v : Int))) B E G r cap g C W F' :=
 (h.setElt teNe hi rfl hj (v : Int)).1.congr (fun p hp => ⟨rfl, rfl, rfl, fun q hq => by
  rw [← e p q hp hq]
  split <;> rfl⟩)
theorem grown_belowM {w w1 w2 : World} {g : Nat} (h0 : w.grownBy w1 (some g)) (hb : Below w1.heap.size w1 w2) : w.grownBy w2 (some g) :=
 ⟨hb.os.trans h0.os, hb.tape.trans h0.tape, hb.output.trans h0.output, Nat.le_trans h0.size hb.size, fun j hj hn => (hb.block j (Nat.lt_of_lt_of_le hj h0.size)).trans (h0.block j hj hn)⟩
def sclK (a x k : Nat) (F : Nat → Nat → Nat) (i j : Nat) : Nat := if i = a ∧ j < k then Gp.m (F i j) x else F i j
theorem scaleRow_any (B E G r cap : Nat) (g C : Nat → Nat) (W : Nat) (F : Nat → Nat → Nat) (a x : Nat) (w : World) (h : MatF w B E G r cap g C W F) (hF : Gm.Byt F) (ha : a < r) (hx : x < 256) (hW : W ≤ 1048576) :
  Calls Tryz.prog 191 #[.slice (some ⟨G, 0, none⟩) r cap, .int .i64 (a : Int), .int .u8 (x : Int)] w fun e w' => e = .returned (.tuple #[]) ∧ MatF w' B E G r cap g C W (Gm.scl a x F) ∧ w.grownBy w' (some (g a)) := by
 have hai : (a : Int) < (r : Int) := by omega
 have hh0 := h.hdr ha
 have K0 : Hid (MatF w B E G r cap g C W F) := h
 have KF : Hid (Gm.Byt F) := hF
 clear h hF
 obtain ⟨ga, hga⟩ : ∃ ga, g a = ga := ⟨_, rfl⟩
 obtain ⟨Ca, hCa⟩ : ∃ Ca, C a = Ca := ⟨_, rfl⟩
 have KG : Hid (g a = ga) := hga
 have KC : Hid (C a = Ca) := hCa
 rw [hga, hCa] at hh0
 rw [hga]
 clear hga hCa
 go_enter Tryz.func191, Tryz.ntmps191
 go_wp2
 go_loopw [13] (fun i wr => ∃ k : Nat, k ≤ W ∧ i = .int .i64 k ∧ MatF wr B E G r cap g C W (sclK a x k F) ∧ w.grownBy wr (some ga)) (fun i _ => W - (intOf i).toNat)
 case atStart => exact ⟨0, Nat.zero_le _, rfl, K0.out.congr (fun i _ => ⟨rfl, rfl, rfl, fun j _ => by unfold sclK; rw [if_neg (by omega)]⟩), World.grownBy.refl _ _⟩
 case round =>
  obtain ⟨k, hk, rfl, hM, hgr⟩ := hrel
  clear K0
  by_cases hlt : k < W
  ·have hki : (k : Int) < (W : Int) := by omega
   have hh := hM.hdr ha
   have he := hM.elt (j := k) ha rfl hlt
   have hval : sclK a x k F a k = F a k := by unfold sclK; rw [if_neg (by omega)]
   rw [hval] at he
   have hf := KF.out a k
   have hfr := hM.free ha rfl k
   have hG := hM.olt.2
   have hg := (hM.glt ha rfl).2
   have hml := Gf.mul_lt hf hx
   have KE : Hid (∀ p q, (if p = a ∧ q = k then Gf.mul (F a k) x else sclK a x k F p q) = sclK a x (k + 1) F p q) := fun p q => by
    unfold sclK
    by_cases e : p = a ∧ q = k
    ·obtain ⟨rfl, rfl⟩ := e
     rw [if_pos ⟨rfl, rfl⟩, if_pos ⟨rfl, by omega⟩, Gp.m_nat hf hx]
    ·rw [if_neg e]
     by_cases e2 : p = a ∧ q < k
     ·rw [if_pos e2, if_pos (by omega)]
     ·rw [if_neg e2, if_neg (by omega)]
   have KM : Hid (MatF wr B E G r cap g C W (sclK a x k F)) := hM
   have hGg : G ≠ ga := by
    have := MatZ.off teNe hM ha rfl
    rw [KG.out] at this
    exact this.symm
   have hk2 : ∀ (u : World) (v : Value), u.cell? ⟨G, a, none⟩ = some (.slice (some ⟨ga, 0, none⟩) W Ca) → (u.setCell ⟨ga, k, none⟩ v).cell? ⟨G, a, none⟩ = some (.slice (some ⟨ga, 0, none⟩) W Ca) := fun u v hu => (grown_set u ga k v).cell hu (by simp; exact hGg)
   clear hM hval hh0
   obtain ⟨X, hX⟩ : ∃ X, F a k = X := ⟨_, rfl⟩
   rw [hX] at he hf hml KE
   clear hX
   rw [KG.out] at hh he hfr hg
   rw [KC.out] at hh
   go_wp2_with fail
   go_region_held3 (fun w' => w'.cell? ⟨G, a, none⟩ = some (.slice (some ⟨ga, 0, none⟩) W Ca)) (first | go_keep | exact hk2 _ _ (by assumption)) ((go_at_call 111; refine (times_any X x _ hf hx).mono ?_; rintro e w1 ⟨rfl, hb1'⟩; have hb1 := below_of_drew hb1'; clear hb1'; have hh1 := (hb1.cell (p := ⟨G, a, none⟩) hG).trans hh; have he1 := (hb1.cell (p := ⟨ga, k, none⟩) hg).trans he; have hfr1 := (World.frozen?_of_block (a := ⟨ga, k, none⟩) (hb1.block _ hg)).trans hfr))
   all_goals
    have HS : Hid (MatF (w1.setCell ⟨ga, k, none⟩ (.int .u8 ((Gf.mul X x : Nat) : Int))) B E G r cap g C W (sclK a x (k + 1) F)) := by
     have := MatF.set (KM.out.below hb1) (i := a) (j := k) (v := Gf.mul X x) ha hlt (fun p q _ _ => KE.out p q)
     rw [KG.out] at this
     exact this
    have HG : Hid (w.grownBy (w1.setCell ⟨ga, k, none⟩ (.int .u8 ((Gf.mul X x : Nat) : Int))) (some ga)) := grownBy_trans (grown_belowM hgr hb1) (grown_set _ _ _ _)
    clear KM
    go_wp2
    go_roundw
    case rel => exact ⟨k + 1, by omega, by go_num, HS.out, HG.out⟩
    case measure => simp [intOf] <;> omega
  ·obtain rfl : k = W := by omega
   have KM : Hid (MatF wr B E G r cap g C k (sclK a x k F)) := hM
   clear hM
   go_wp2
   go_end0
   exact ⟨rfl, KM.out.congr (fun i _ => ⟨rfl, rfl, rfl, fun j hj => by unfold sclK Gm.scl; by_cases e : i = a; rw [if_pos ⟨e, hj⟩, if_pos e]; rw [if_neg (by omega), if_neg e]⟩), hgr⟩
def addK (a b y k : Nat) (F : Nat → Nat → Nat) (i j : Nat) : Nat := if i = a ∧ j < k then F i j ^^^ Gp.m (F b j) y else F i j
theorem addScaledRow_any (B E G r cap : Nat) (g C : Nat → Nat) (W : Nat) (F : Nat → Nat → Nat) (a b y : Nat) (w : World) (h : MatF w B E G r cap g C W F) (hF : Gm.Byt F) (ha : a < r) (hb : b < r) (hab : a ≠ b) (hy : y < 256) (hW : W ≤ 1048576) :
  Calls Tryz.prog 192 #[.slice (some ⟨G, 0, none⟩) r cap, .int .i64 (a : Int), .int .i64 (b : Int), .int .u8 (y : Int)] w fun e w' => e = .returned (.tuple #[]) ∧ MatF w' B E G r cap g C W (addK a b y W F) ∧ w.grownBy w' (some (g a)) := by
 have hai : (a : Int) < (r : Int) := by omega
 have hbi : (b : Int) < (r : Int) := by omega
 have hh0 := h.hdr hb
 have K0 : Hid (MatF w B E G r cap g C W F) := h
 have KF : Hid (Gm.Byt F) := hF
 clear h hF
 obtain ⟨ga, hga⟩ : ∃ ga, g a = ga := ⟨_, rfl⟩
 obtain ⟨Ca, hCa⟩ : ∃ Ca, C a = Ca := ⟨_, rfl⟩
 obtain ⟨gb, hgb⟩ : ∃ gb, g b = gb := ⟨_, rfl⟩
 obtain ⟨Cb, hCb⟩ : ∃ Cb, C b = Cb := ⟨_, rfl⟩
 have KG : Hid (g a = ga) := hga
 have KC : Hid (C a = Ca) := hCa
 have KGb : Hid (g b = gb) := hgb
 rw [hgb, hCb] at hh0
 rw [hga]
 clear hga hCa hgb hCb
 go_enter Tryz.func192, Tryz.ntmps192
 go_wp2
 go_loopw [15] (fun i wr => ∃ k : Nat, k ≤ W ∧ i = .int .i64 k ∧ MatF wr B E G r cap g C W (addK a b y k F) ∧ w.grownBy wr (some ga)) (fun i _ => W - (intOf i).toNat)
 case atStart => exact ⟨0, Nat.zero_le _, rfl, K0.out.congr (fun i _ => ⟨rfl, rfl, rfl, fun j _ => by unfold addK; rw [if_neg (by omega)]⟩), World.grownBy.refl _ _⟩
 case round =>
  obtain ⟨k, hk, rfl, hM, hgr⟩ := hrel
  clear K0
  by_cases hlt : k < W
  ·have hki : (k : Int) < (W : Int) := by omega
   have hh := hM.hdr ha
   have he := hM.elt (j := k) ha rfl hlt
   have heb := hM.elt (j := k) hb rfl hlt
   have hval : addK a b y k F a k = F a k := by unfold addK; rw [if_neg (by omega)]
   have hvalb : addK a b y k F b k = F b k := by unfold addK; rw [if_neg (by omega)]
   rw [hval] at he
   rw [hvalb] at heb
   have hf := KF.out a k
   have hfb := KF.out b k
   have hfr := hM.free ha rfl k
   have hG := hM.olt.2
   have hg := (hM.glt ha rfl).2
   have hml := Gf.mul_lt hfb hy
   have KE : Hid (∀ p q, (if p = a ∧ q = k then F a k ^^^ Gf.mul (F b k) y else addK a b y k F p q) = addK a b y (k + 1) F p q) := fun p q => by
    unfold addK
    by_cases e : p = a ∧ q = k
    ·obtain ⟨rfl, rfl⟩ := e
     rw [if_pos ⟨rfl, rfl⟩, if_pos ⟨rfl, by omega⟩, Gp.m_nat hfb hy]
    ·rw [if_neg e]
     by_cases e2 : p = a ∧ q < k
     ·rw [if_pos e2, if_pos (by omega)]
     ·rw [if_neg e2, if_neg (by omega)]
   have KM : Hid (MatF wr B E G r cap g C W (addK a b y k F)) := hM
   clear hM hval hvalb hh0
   obtain ⟨X, hX⟩ : ∃ X, F a k = X := ⟨_, rfl⟩
   obtain ⟨Y, hY⟩ : ∃ Y, F b k = Y := ⟨_, rfl⟩
   rw [hX] at he hf KE
   rw [hY] at heb hfb hml KE
   clear hX hY
   rw [KG.out] at hh he hfr hg
   rw [KC.out] at hh
   rw [KGb.out] at heb
   go_wp2_with fail
   go_region_with ((first | (go_at_call 111; refine (times_any Y y _ hfb hy).mono ?_; rintro e w1 ⟨rfl, hb1'⟩; have hb1 := below_of_drew hb1'; clear hb1'; have hh1 := (hb1.cell (p := ⟨G, a, none⟩) hG).trans hh; have he1 := (hb1.cell (p := ⟨ga, k, none⟩) hg).trans he; have hfr1 := (World.frozen?_of_block (a := ⟨ga, k, none⟩) (hb1.block _ hg)).trans hfr) | (go_at_call 110; refine (plus_any X (Gf.mul Y y) _ hf hml).mono ?_; rintro e w2 ⟨rfl, hw2⟩; obtain rfl := hw2.symm)))
   all_goals
    have HS : Hid (MatF (w1.setCell ⟨ga, k, none⟩ (.int .u8 ((X ^^^ Gf.mul Y y : Nat) : Int))) B E G r cap g C W (addK a b y (k + 1) F)) := by
     have := MatF.set (KM.out.below hb1) (i := a) (j := k) (v := X ^^^ Gf.mul Y y) ha hlt (fun p q _ _ => KE.out p q)
     rw [KG.out] at this
     exact this
    have HG : Hid (w.grownBy (w1.setCell ⟨ga, k, none⟩ (.int .u8 ((X ^^^ Gf.mul Y y : Nat) : Int))) (some ga)) := grownBy_trans (grown_belowM hgr hb1) (grown_set _ _ _ _)
    clear KM
    go_wp2
    go_roundw
    case rel => exact ⟨k + 1, by omega, by go_num, HS.out, HG.out⟩
    case measure => simp [intOf] <;> omega
  ·obtain rfl : k = W := by omega
   have KM : Hid (MatF wr B E G r cap g C k (addK a b y k F)) := hM
   clear hM
   go_wp2
   go_end0
   exact ⟨rfl, KM.out, hgr⟩
structure Chg (S : Nat → Prop) (w w' : World) : Prop where
 os : w'.os = w.os
 tape : w'.tape = w.tape
 output : w'.output = w.output
 size : w.heap.size ≤ w'.heap.size
 block : ∀ j, j < w.heap.size → ¬ S j → w'.heap[j]? = w.heap[j]?
theorem Chg.refl (S : Nat → Prop) (w : World) : Chg S w w := ⟨rfl, rfl, rfl, Nat.le_refl _, fun _ _ _ => rfl⟩
theorem Chg.trans {S : Nat → Prop} {w w1 w2 : World} (h : Chg S w w1) (h2 : Chg S w1 w2) : Chg S w w2 :=
 ⟨h2.os.trans h.os, h2.tape.trans h.tape, h2.output.trans h.output, Nat.le_trans h.size h2.size, fun j hj hn => (h2.block j (Nat.lt_of_lt_of_le hj h.size) hn).trans (h.block j hj hn)⟩
theorem Chg.grown {S : Nat → Prop} {w w' : World} {b : Nat} (h : w.grownBy w' (some b)) (hb : S b) : Chg S w w' :=
 ⟨h.os, h.tape, h.output, h.size, fun j hj hn => h.block j hj (fun e => by cases e; exact hn hb)⟩
theorem Chg.of_below (S : Nat → Prop) {w w' : World} (h : Below w.heap.size w w') : Chg S w w' := ⟨h.os, h.tape, h.output, h.size, fun j hj _ => h.block j hj⟩
theorem Chg.imp {S S' : Nat → Prop} {w w' : World} (h : Chg S w w') (hi : ∀ j, S j → S' j) : Chg S' w w' := ⟨h.os, h.tape, h.output, h.size, fun j hj hn => h.block j hj (fun hs => hn (hi j hs))⟩
theorem Chg.at {S : Nat → Prop} {w w' : World} {b : Nat} {o : Obj} (h : Chg S w w') (hb : w.heap[b]? = some o) (hn : ¬ S b) : w'.heap[b]? = some o := by
 rw [h.block b (lt_of_block hb) hn]; exact hb
def clrK (s k q : Nat) (N : Nat → Nat → Nat) (p j : Nat) : Nat := if p < q ∧ p ≠ s then N p j ^^^ Gp.m (N s j) (N p k) else N p j
theorem clrK_byt {s k q : Nat} {N : Nat → Nat → Nat} (h : Gm.Byt N) : Gm.Byt (clrK s k q N) := fun p j => by
 unfold clrK
 split
 ·exact Gp.xor_lt (h _ _) (Gp.m_lt _ _)
 ·exact h _ _
theorem clearPlace_any (B E G r cap : Nat) (g C : Nat → Nat) (W : Nat) (F : Nat → Nat → Nat) (s k : Nat) (w : World) (h : MatF w B E G r cap g C W F) (hF : Gm.Byt F) (hs : s < r) (hk : k < W) (hW : W ≤ 1048576) (hr : r ≤ 1048576) :
  Calls Tryz.prog 181 #[.slice (some ⟨G, 0, none⟩) r cap, .int .i64 (s : Int), .int .i64 (k : Int)] w fun e w' => e = .returned (.tuple #[]) ∧ MatF w' B E G r cap g C W (Gm.clr s (fun i => Gm.scl s (Gf.inv (F s k)) F i k) (Gm.scl s (Gf.inv (F s k)) F)) ∧ Chg (fun b => ∃ i, i < r ∧ b = g i) w w' := by
 have hsi : (s : Int) < (r : Int) := by omega
 have hki : (k : Int) < (W : Int) := by omega
 have hh0 := h.hdr hs
 have he0 := h.elt (j := k) hs rfl hk
 have hf := hF s k
 have K0 : Hid (MatF w B E G r cap g C W F) := h
 obtain ⟨X, hX⟩ : ∃ X, F s k = X := ⟨_, rfl⟩
 rw [hX] at he0 hf ⊢
 clear hX
 have hx := Gf.inv_lt X
 have KF : Hid (Gm.Byt F) := hF
 have hNb : Gm.Byt (Gm.scl s (Gf.inv X) F) := Gm.scl_byt hF
 have KN : Hid (Gm.Byt (Gm.scl s (Gf.inv X) F)) := hNb
 clear h hF hNb
 obtain ⟨gs, hgs⟩ : ∃ gs, g s = gs := ⟨_, rfl⟩
 obtain ⟨Cs, hCs⟩ : ∃ Cs, C s = Cs := ⟨_, rfl⟩
 rw [hgs] at hh0 he0
 rw [hCs] at hh0
 have KG : Hid (g s = gs) := hgs
 clear hgs hCs
 go_enter Tryz.func181, Tryz.ntmps181
 go_wp2_with fail
 refine (inverse_any X _ hf).mono ?_
 rintro e w1 ⟨rfl, hb1⟩
 go_wp2_with fail
 refine (scaleRow_any B E G r cap g C W F s (Gf.inv X) w1 (K0.out.below hb1) KF.out hs hx hW).mono ?_
 rintro e w2 ⟨rfl, hM2, hg2⟩
 have KC : Hid (Chg (fun b => ∃ i, i < r ∧ b = g i) w w2) := (Chg.of_below _ hb1).trans (Chg.grown hg2 ⟨s, hs, rfl⟩)
 have KM : Hid (MatF w2 B E G r cap g C W (Gm.scl s (Gf.inv X) F)) := hM2
 clear hM2 hg2 hb1 K0 hh0 he0
 obtain ⟨N, hN⟩ : ∃ N, Gm.scl s (Gf.inv X) F = N := ⟨_, rfl⟩
 rw [hN] at KM KN
 have KNN : Hid (Gm.scl s (Gf.inv X) F = N) := hN
 clear hN
 go_wp2
 go_loopw [20] (fun i wr => ∃ q : Nat, q ≤ r ∧ i = .int .i64 q ∧ MatF wr B E G r cap g C W (clrK s k q N) ∧ Chg (fun b => ∃ i, i < r ∧ b = g i) w wr) (fun i _ => r - (intOf i).toNat)
 case atStart => exact ⟨0, Nat.zero_le _, rfl, KM.out.congr (fun i _ => ⟨rfl, rfl, rfl, fun j _ => by unfold clrK; rw [if_neg (by omega)]⟩), KC.out⟩
 case round =>
  obtain ⟨q, hq, rfl, hM, hC⟩ := hrel
  clear KM KC
  by_cases hlt : q < r
  ·have hqi : (q : Int) < (r : Int) := by omega
   by_cases hqs : q = s
   ·subst hqs
    have KM : Hid (MatF wr B E G r cap g C W (clrK q k q N)) := hM
    clear hM
    go_wp2
    go_roundw
    case rel => exact ⟨q + 1, by omega, by go_num, KM.out.congr (fun i _ => ⟨rfl, rfl, rfl, fun j _ => by
     unfold clrK
     by_cases e : i < q ∧ i ≠ q
     ·rw [if_pos e, if_pos (by omega)]
     ·rw [if_neg e, if_neg (by omega)]⟩), hC⟩
    case measure => simp [intOf] <;> omega
   ·have hne : ((q : Int) != (s : Int)) = true := by simp; omega
    have hh := hM.hdr hlt
    have he := hM.elt (j := k) hlt rfl hk
    have hval : clrK s k q N q k = N q k := by unfold clrK; rw [if_neg (by omega)]
    rw [hval] at he
    have hy := KN.out q k
    have KM : Hid (MatF wr B E G r cap g C W (clrK s k q N)) := hM
    have KE : Hid (∀ i j, addK q s (N q k) W (clrK s k q N) i j = if i < r ∧ j < W then clrK s k (q + 1) N i j else addK q s (N q k) W (clrK s k q N) i j) := fun i j => by
     by_cases hij : i < r ∧ j < W
     ·rw [if_pos hij]
      unfold addK clrK
      by_cases e : i = q
      ·subst e
       rw [if_pos ⟨rfl, hij.2⟩, if_neg (by omega), if_neg (by omega), if_pos ⟨by omega, hqs⟩]
      ·rw [if_neg (by omega)]
       by_cases e2 : i < q ∧ i ≠ s
       ·rw [if_pos e2, if_pos (by omega)]
       ·rw [if_neg e2, if_neg (by omega)]
     ·rw [if_neg hij]
    clear hM hval
    obtain ⟨Y, hY⟩ : ∃ Y, N q k = Y := ⟨_, rfl⟩
    rw [hY] at he hy KE
    clear hY
    obtain ⟨gq, hgq⟩ : ∃ gq, g q = gq := ⟨_, rfl⟩
    obtain ⟨Cq, hCq⟩ : ∃ Cq, C q = Cq := ⟨_, rfl⟩
    rw [hgq] at hh he
    rw [hCq] at hh
    have KGq : Hid (g q = gq) := hgq
    clear hgq hCq
    go_wp2_with fail
    refine (addScaledRow_any B E G r cap g C W (clrK s k q N) q s Y wr KM.out (clrK_byt KN.out) hlt hs hqs hy hW).mono ?_
    rintro e w3 ⟨rfl, hM3, hg3⟩
    have HS : Hid (MatF w3 B E G r cap g C W (clrK s k (q + 1) N)) := hM3.congr (fun i hi => ⟨rfl, rfl, rfl, fun j hj => by
     have := KE.out i j
     rw [if_pos ⟨hi, hj⟩] at this
     rw [this]⟩)
    have HC : Hid (Chg (fun b => ∃ i, i < r ∧ b = g i) w w3) := hC.trans (Chg.grown hg3 ⟨q, hlt, rfl⟩)
    clear hM3 hg3 KM hC
    go_wp2
    go_roundw
    case rel => exact ⟨q + 1, by omega, by go_num, HS.out, HC.out⟩
    case measure => simp [intOf] <;> omega
  ·obtain rfl : q = r := by omega
   have KM : Hid (MatF wr B E G q cap g C W (clrK s k q N)) := hM
   clear hM
   go_wp2
   go_end0
   refine ⟨rfl, ?_, hC⟩
   rw [KNN.out]
   exact KM.out.congr (fun i hi => ⟨rfl, rfl, rfl, fun j _ => by
    unfold clrK Gm.clr
    by_cases e : i = s
    ·rw [if_neg (by omega), if_pos e]
    ·rw [if_pos ⟨hi, e⟩, if_neg e]⟩)
structure BS (Q : Nat → Prop) (w : World) (B E G r cap W n Pb Wb Sb Mb : Nat) (A : Nat → Nat → Nat) (k : Nat) (g C : Nat → Nat) : Prop where
 mat : MatF w B E G r cap g C W (Gm.rd A r k).1
 pl : w.heap[Pb]? = some (.cells #[.int .i64 (k : Int)] 3 (0, 0))
 wd : w.heap[Wb]? = some (.cells #[.int .i64 (n : Int)] 3 (0, 0))
 st : w.heap[Sb]? = some (.cells #[.int .i64 ((Gm.rd A r k).2 : Int)] 3 (0, 0))
 mm : w.heap[Mb]? = some (.cells #[.slice (some ⟨G, 0, none⟩) r cap] 217 (0, 0))
 nq : ¬ Q G ∧ ¬ Q Pb ∧ ¬ Q Sb ∧ ∀ i, i < r → ¬ Q (g i)
theorem rd_none {A : Nat → Nat → Nat} {r k : Nat} {F : Nat → Nat → Nat} {s : Nat} (h : Gm.rd A r k = (F, s)) (hs : s ≤ r) (hz : ∀ t, s ≤ t → t < r → F t k = 0) : Gm.rd A r (k + 1) = (F, s) := by
 rw [Gm.rd_s, h, Gm.stp_eq, if_neg]
 intro hlt
 have h1 := Gm.fnd_le F k (r - s) s
 exact Gm.fnd_ne F k (r - s) s (by omega) (hz _ h1.1 hlt)
theorem rd_step {A : Nat → Nat → Nat} {r k : Nat} {F : Nat → Nat → Nat} {s p : Nat} (h : Gm.rd A r k = (F, s)) (hp : s ≤ p) (hpr : p < r) (hz : ∀ t, s ≤ t → t < p → F t k = 0) (hne : F p k ≠ 0) : Gm.rd A r (k + 1) = (Gm.one F s p k, s + 1) := by
 have h1 : Gm.fnd F k (r - s) s = p := Gm.fnd_is hp (by omega) hz (fun _ => hne)
 rw [Gm.rd_s, h, Gm.stp_eq, h1, if_pos hpr]
theorem MatF.swap {w : World} {B E G r cap : Nat} {g C : Nat → Nat} {W : Nat} {F : Nat → Nat → Nat} {s p : Nat} (h : MatF w B E G r cap g C W F) (hs : s < r) (hp : p < r) :
  MatF ((w.setCell ⟨G, s, none⟩ (.slice (some ⟨g p, 0, none⟩) W (C p))).setCell ⟨G, p, none⟩ (.slice (some ⟨g s, 0, none⟩) W (C s))) B E G r cap (fun i => g (Gm.sg s p i)) (fun i => C (Gm.sg s p i)) W (Gm.swp s p F) := by
 have o1 := (h.out.stored s (.slice (some ⟨g p, 0, none⟩) W (C p))).1
 have o2 := (o1.stored p (.slice (some ⟨g s, 0, none⟩) W (C s))).1
 rw [hds_set, hds_set] at o2
 refine ⟨?_, h.oE, fun i hi => ?_, fun i hi x ex => ?_, fun i j hi hj hij x y ex ey => ?_⟩
 ·rw [hds_congr (A' := fun i => if i = p then some ⟨g s, 0, none⟩ else if i = s then some ⟨g p, 0, none⟩ else some ⟨g i, 0, none⟩) (L' := fun i => if i = p then W else if i = s then W else W) (C' := fun i => if i = p then C s else if i = s then C p else C i) (fun i _ => by
   unfold Gm.sg
   by_cases e1 : i = p
   ·by_cases e2 : i = s
    ·simp [e1, show p = s by omega]
    ·simp [e1, show p ≠ s by omega]
   ·by_cases e2 : i = s
    ·simp [e2, show s ≠ p by omega]
    ·simp [e1, e2])]
  exact o2
 ·have hr := h.row (Gm.sg s p i) (Gm.sg_lt hs hp hi)
  have hne : ∀ x : Addr, some (⟨g (Gm.sg s p i), 0, none⟩ : Addr) = some x → x.block ≠ G := fun x ex => by
   cases ex
   exact h.off teNe (Gm.sg_lt hs hp hi) rfl
  exact own_kept (own_kept hr (grown_set w G s _) hne) (grown_set _ G p _) hne
 ·exact h.rE (Gm.sg s p i) (Gm.sg_lt hs hp hi) x ex
 ·refine h.apart (Gm.sg s p i) (Gm.sg s p j) (Gm.sg_lt hs hp hi) (Gm.sg_lt hs hp hj) (fun e => hij ?_) x y ex ey
  have := congrArg (Gm.sg s p) e
  rw [Gm.sg_sg, Gm.sg_sg] at this
  exact this
structure Mid (Q : Nat → Prop) (w0 w : World) (B E G r cap W n Pb Wb Sb Mb : Nat) (c s : Nat) (g C : Nat → Nat) (F : Nat → Nat → Nat) : Prop where
 mat : MatF w B E G r cap g C W F
 pl : w.heap[Pb]? = some (.cells #[.int .i64 (c : Int)] 3 (0, 0))
 wd : w.heap[Wb]? = some (.cells #[.int .i64 (n : Int)] 3 (0, 0))
 st : w.heap[Sb]? = some (.cells #[.int .i64 (s : Int)] 3 (0, 0))
 mm : w.heap[Mb]? = some (.cells #[.slice (some ⟨G, 0, none⟩) r cap] 217 (0, 0))
 chg : Chg (fun b => B ≤ b ∧ ¬ Q b) w0 w
 nq : ¬ Q G ∧ ¬ Q Pb ∧ ¬ Q Sb ∧ ∀ i, i < r → ¬ Q (g i)
structure Dst (B E Pb Wb Sb Mb : Nat) : Prop where
 be : B ≤ E
 d1 : E ≤ Pb
 d2 : E ≤ Wb
 d3 : E ≤ Sb
 d4 : E ≤ Mb
 d5 : Pb ≠ Wb
 d6 : Pb ≠ Sb
 d7 : Pb ≠ Mb
 d8 : Wb ≠ Sb
 d9 : Wb ≠ Mb
 d10 : Sb ≠ Mb
section
variable {Q : Nat → Prop} {w0 w : World} {B E G r cap W n Pb Wb Sb Mb : Nat} {c s : Nat} {g C : Nat → Nat} {F : Nat → Nat → Nat}
theorem Mid.below {w' : World} (h : Mid Q w0 w B E G r cap W n Pb Wb Sb Mb c s g C F) (hb : Below w.heap.size w w') : Mid Q w0 w' B E G r cap W n Pb Wb Sb Mb c s g C F := by
 have hc : Chg (fun _ => False) w w' := Chg.of_below _ hb
 exact ⟨h.mat.below hb, hc.at h.pl id, hc.at h.wd id, hc.at h.st id, hc.at h.mm id, h.chg.trans (Chg.of_below _ hb), h.nq⟩
theorem Mid.exchanged (D : Dst B E Pb Wb Sb Mb) (h : Mid Q w0 w B E G r cap W n Pb Wb Sb Mb c s g C F) {p : Nat} (hs : s < r) (hp : p < r) {gp Cp gs Cs : Nat} (e1 : g p = gp) (e2 : C p = Cp) (e3 : g s = gs) (e4 : C s = Cs) :
  Mid Q w0 ((w.setCell ⟨G, s, none⟩ (.slice (some ⟨gp, 0, none⟩) W Cp)).setCell ⟨G, p, none⟩ (.slice (some ⟨gs, 0, none⟩) W Cs)).drew B E G r cap W n Pb Wb Sb Mb c s (fun i => g (Gm.sg s p i)) (fun i => C (Gm.sg s p i)) (Gm.swp s p F) := by
 obtain ⟨D1, D2, D3, D4, D5, D6, D7, D8, D9, D10, D11⟩ := D
 subst e1
 subst e2
 subst e3
 subst e4
 have hGE : G < E := by have h1 := h.mat.oE _ rfl; simpa using h1
 have hch : Chg (fun b => b = G) w ((w.setCell ⟨G, s, none⟩ (.slice (some ⟨g p, 0, none⟩) W (C p))).setCell ⟨G, p, none⟩ (.slice (some ⟨g s, 0, none⟩) W (C s))).drew := by
  obtain ⟨h1, h2, h3, h4, h5⟩ := (Chg.grown (S := fun b => b = G) (grown_set w G s (.slice (some ⟨g p, 0, none⟩) W (C p))) rfl).trans (Chg.grown (S := fun b => b = G) (grown_set _ G p (.slice (some ⟨g s, 0, none⟩) W (C s))) rfl)
  exact ⟨h1, h2, h3, h4, h5⟩
 refine ⟨?_, hch.at h.pl (fun e => by omega), hch.at h.wd (fun e => by omega), hch.at h.st (fun e => by omega), hch.at h.mm (fun e => by omega), h.chg.trans (hch.imp (fun j e => by subst e; exact ⟨h.mat.olt.1, h.nq.1⟩)), h.nq.1, h.nq.2.1, h.nq.2.2.1, fun i hi => h.nq.2.2.2 _ (Gm.sg_lt hs hp hi)⟩
 obtain ⟨h1, h2, h3, h4, h5⟩ := MatF.swap h.mat hs hp
 exact ⟨h1, h2, h3, h4, h5⟩
theorem Mid.cleared (D : Dst B E Pb Wb Sb Mb) {w' : World} {F' : Nat → Nat → Nat} (h : Mid Q w0 w B E G r cap W n Pb Wb Sb Mb c s g C F) (hM : MatF w' B E G r cap g C W F') (hC : Chg (fun b => ∃ i, i < r ∧ b = g i) w w') : Mid Q w0 w' B E G r cap W n Pb Wb Sb Mb c s g C F' := by
 obtain ⟨D1, D2, D3, D4, D5, D6, D7, D8, D9, D10, D11⟩ := D
 have hgE : ∀ i, i < r → g i < E := fun i hi => by have h1 := h.mat.rE i hi _ rfl; simpa using h1
 exact ⟨hM, hC.at h.pl (fun ⟨i, hi, e⟩ => by have := hgE i hi; omega), hC.at h.wd (fun ⟨i, hi, e⟩ => by have := hgE i hi; omega), hC.at h.st (fun ⟨i, hi, e⟩ => by have := hgE i hi; omega), hC.at h.mm (fun ⟨i, hi, e⟩ => by have := hgE i hi; omega), h.chg.trans (hC.imp (fun j ⟨i, hi, e⟩ => by subst e; exact ⟨(h.mat.glt hi rfl).1, h.nq.2.2.2 i hi⟩)), h.nq⟩
theorem Mid.done (D : Dst B E Pb Wb Sb Mb) {A : Nat → Nat → Nat} {s1 c1 : Nat} (h : Mid Q w0 w B E G r cap W n Pb Wb Sb Mb c s g C F) (hrd : Gm.rd A r c1 = (F, s1)) :
  (w.setCell ⟨Sb, 0, none⟩ (.int .i64 (s1 : Int))).cell? ⟨Pb, 0, none⟩ = some (.int .i64 (c : Int)) ∧ (w.setCell ⟨Sb, 0, none⟩ (.int .i64 (s1 : Int))).frozen? ⟨Pb, 0, none⟩ = false ∧
  BS Q ((w.setCell ⟨Sb, 0, none⟩ (.int .i64 (s1 : Int))).setCell ⟨Pb, 0, none⟩ (.int .i64 (c1 : Int))) B E G r cap W n Pb Wb Sb Mb A c1 g C ∧ Chg (fun b => B ≤ b ∧ ¬ Q b) w0 ((w.setCell ⟨Sb, 0, none⟩ (.int .i64 (s1 : Int))).setCell ⟨Pb, 0, none⟩ (.int .i64 (c1 : Int))) := by
 obtain ⟨D1, D2, D3, D4, D5, D6, D7, D8, D9, D10, D11⟩ := D
 have c6 : Chg (fun b => b = Sb) w (w.setCell ⟨Sb, 0, none⟩ (.int .i64 (s1 : Int))) := Chg.grown (grown_set w Sb 0 _) rfl
 have bp6 := c6.at h.pl D7
 have bs6 := one_setCell (u := .int .i64 (s1 : Int)) h.st
 have bw6 := c6.at h.wd D9
 have bm6 := c6.at h.mm (fun e => D11 e.symm)
 have c7 : Chg (fun b => b = Pb) (w.setCell ⟨Sb, 0, none⟩ (.int .i64 (s1 : Int))) ((w.setCell ⟨Sb, 0, none⟩ (.int .i64 (s1 : Int))).setCell ⟨Pb, 0, none⟩ (.int .i64 (c1 : Int))) := Chg.grown (grown_set _ Pb 0 _) rfl
 refine ⟨cell_of_one bp6, free_of_one bp6, ⟨?_, one_setCell bp6, c7.at bw6 (fun e => D6 e.symm), ?_, c7.at bm6 (fun e => D8 e.symm), h.nq⟩, ?_⟩
 ·rw [hrd]; exact (h.mat.keptE (grown_set w Sb 0 _) D4).keptE (grown_set _ Pb 0 _) D2
 ·rw [hrd]; exact c7.at bs6 (fun e => D7 e.symm)
 ·exact (h.chg.trans (c6.imp (fun j e => by subst e; exact ⟨by omega, h.nq.2.2.1⟩))).trans (c7.imp (fun j e => by subst e; exact ⟨by omega, h.nq.2.1⟩))
theorem oneIs (F : Nat → Nat → Nat) (s p c : Nat) : Gm.clr s (fun i => Gm.scl s (Gf.inv (Gm.swp s p F s c)) (Gm.swp s p F) i c) (Gm.scl s (Gf.inv (Gm.swp s p F s c)) (Gm.swp s p F)) = Gm.one F s p c := by
 unfold Gm.one
 rw [show Gm.swp s p F s c = F p c from by unfold Gm.swp Gm.sg; rw [if_pos rfl]]
end
end Go.Proofs.YtmhcdkbgjjibeaaGreatDoor
namespace Go.Proofs.YtmhcdkbgjjibeaaGreatDoor
def fromReg (n : Nat) : Code → Option (Code × Code)
 | .seq (.region id ops d) b => if id == n then some (.region id ops d, b) else fromReg n b
 | .seq a b => match fromReg n a with
  | some c => some c
  | none => fromReg n b
 | .block _ c => fromReg n c
 | .scope c => fromReg n c
 | .cond _ a b => match fromReg n a with
  | some c => some c
  | none => fromReg n b
 | _ => none
noncomputable def foundParts : Code × Code := ((Tryz.f180.body.bind (fromReg 11)).getD (.skip, .skip))
set_option maxRecDepth 100000 in
theorem tail_any (Q : Nat → Prop) (B E G r cap W n Pb Wb Sb Mb : Nat) (A : Nat → Nat → Nat) (k c s p gp Cp gs Cs : Nat) (g C : Nat → Nat) (F : Nat → Nat → Nat) (w wq : World) (Post : Ending → World → Prop) (u4 u6 u7 u8 u9 u10 u11 u12 u13 u14 u15 u16 u17 u18 u19 u20 u21 u22 u23 u24 u25 u26 u27 u28 u29 u30 u31 u32 u33 u34 u35 u36 u37 u38 u39 u40 u41 u42 u43 u44 u45 u46 u47 u48 u49 u50 u51 : Value)
  (KMID : Hid (Mid Q w wq B E G r cap W n Pb Wb Sb Mb c s g C F)) (KDST : Hid (Dst B E Pb Wb Sb Mb)) (KN : Hid ((g p = gp ∧ C p = Cp) ∧ g s = gs ∧ C s = Cs))
  (KNUM : Hid ((k < c + 1 ∧ c + 1 ≤ n) ∧ (B ≤ w.heap.size ∧ Gm.Byt F) ∧ (s < r ∧ c < W) ∧ (W ≤ 1048576 ∧ r ≤ 1048576) ∧ Gm.rd A r (c + 1) = (Gm.one F s p c, s + 1))) (hpr : p < r)
  (KPOST : Hid (∀ (c1 : Nat) (g' C' : Nat → Nat) (w' : World), k < c1 → c1 ≤ n → BS Q w' B E G r cap W n Pb Wb Sb Mb A c1 g' C' → Chg (fun b => B ≤ b ∧ ¬ Q b) w w' → Post (.returned (.bool true)) w')) :
  Code.wp Tryz.prog foundParts.2 (Exit.noGoto (bodyPost Tryz.prog Tryz.f180 Post))
   ⟨#[.pointer (some ⟨Pb, 0, none⟩), .pointer (some ⟨Wb, 0, none⟩), .pointer (some ⟨Sb, 0, none⟩), .pointer (some ⟨Mb, 0, none⟩), u4, .int .i64 (p : Int), u6, u7, u8, u9, u10, u11, u12, u13, u14, u15, u16, u17, u18, u19, u20, u21, u22, u23, u24, u25, u26, u27, u28, u29, u30, u31, u32, u33, u34, u35, u36, u37, u38, u39, u40, u41, u42, u43, u44, u45, u46, u47, u48, u49, u50, u51], []⟩ ((wq.setCell ⟨G, s, none⟩ (.slice (some ⟨gp, 0, none⟩) W Cp)).setCell ⟨G, p, none⟩ (.slice (some ⟨gs, 0, none⟩) W Cs)).drew := by
 have hM := KMID.out.mat
 have hsrr := KNUM.out.2.2.1.1
 have hhs' := hM.hdr hsrr
 have hh' := hM.hdr hpr
 have fp' := hM.ofree p
 have cm' := cell_of_one KMID.out.mm
 have cs' := cell_of_one KMID.out.st
 rw [KN.out.1.1, KN.out.1.2] at hh'
 rw [KN.out.2.1, KN.out.2.2] at hhs'
 have h1 := (hM.out.stored s (.slice (some ⟨gp, 0, none⟩) W Cp)).1
 obtain ⟨v', hy'⟩ : ∃ v', (wq.setCell ⟨G, s, none⟩ (.slice (some ⟨gp, 0, none⟩) W Cp)).cell? ⟨G, p, none⟩ = some v' := by
  rw [h1.cellAt p (by omega)]
  exact ⟨_, List.getElem?_eq_getElem (by rw [h1.1]; omega)⟩
 have fy' : (wq.setCell ⟨G, s, none⟩ (.slice (some ⟨gp, 0, none⟩) W Cp)).frozen? ⟨G, p, none⟩ = false := h1.frozenAt p
 have hGM : Mb ≠ G := fun e => by
  have h1 := hM.oE _ rfl
  have h2 := KDST.out.d4
  simp at h1
  omega
 have cm2 : (wq.setCell ⟨G, s, none⟩ (.slice (some ⟨gp, 0, none⟩) W Cp)).cell? ⟨Mb, 0, none⟩ = some (.slice (some ⟨G, 0, none⟩) r cap) := (grown_set wq G s _).cell cm' (by simp; exact hGM)
 have KEX : Hid _ := KMID.out.exchanged KDST.out hsrr hpr KN.out.1.1 KN.out.1.2 KN.out.2.1 KN.out.2.2
 have hs9 : s + 1 ≤ 2000000 := by have := KNUM.out.2.2.2.1.2; omega
 have hc9 : c + 1 ≤ 2000000 := by have h1 := KNUM.out.2.2.1.2; have h2 := KNUM.out.2.2.2.1.1; omega
 have hsi : (s : Int) < (r : Int) := by omega
 have hpi : (p : Int) < (r : Int) := by omega
 clear hM h1 hGM KMID KN hsrr hpr
 obtain ⟨w3, hw3⟩ : ∃ w3, w3 = ((wq.setCell ⟨G, s, none⟩ (.slice (some ⟨gp, 0, none⟩) W Cp)).setCell ⟨G, p, none⟩ (.slice (some ⟨gs, 0, none⟩) W Cs)).drew := ⟨_, rfl⟩
 rw [← hw3] at KEX ⊢
 clear hw3 hy' fy' cm2 cm' cs' hh' hhs' fp'
 have cp3 := cell_of_one KEX.out.pl
 have cs3 := cell_of_one KEX.out.st
 have cm3 := cell_of_one KEX.out.mm
 conv => arg 2; whnf
 go_wp2_with fail
 refine Calls.mono (clearPlace_any B E G r cap (fun i => g (Gm.sg s p i)) (fun i => C (Gm.sg s p i)) W (Gm.swp s p F) s c w3 KEX.out.mat (Gm.swp_byt KNUM.out.2.1.2) KNUM.out.2.2.1.1 KNUM.out.2.2.1.2 KNUM.out.2.2.2.1.1 KNUM.out.2.2.2.1.2) ?_
 rintro e w5 ⟨rfl, hM5, hC5⟩
 rw [oneIs] at hM5
 have hMd := KEX.out.cleared KDST.out hM5 hC5
 have hDn := hMd.done (s1 := s + 1) (c1 := c + 1) KDST.out KNUM.out.2.2.2.2
 have cs5 := cell_of_one hMd.st
 have fs5 := free_of_one hMd.st
 clear cp3 cs3 cm3 KEX hM5 hC5 hMd
 obtain ⟨s1, hs1⟩ : ∃ s1, s + 1 = s1 := ⟨_, rfl⟩
 obtain ⟨c1, hc1⟩ : ∃ c1, c + 1 = c1 := ⟨_, rfl⟩
 have ws1 : IntKind.i64.wrap ((s : Int) + 1) = (s1 : Int) := by rw [IntKind.wrap_i64]; omega
 have wc1 : IntKind.i64.wrap ((c : Int) + 1) = (c1 : Int) := by rw [IntKind.wrap_i64]; omega
 have hkc1 : Hid (k < c1 ∧ c1 ≤ n) := by rw [← hc1]; exact KNUM.out.1
 rw [hs1, hc1] at hDn
 clear hs1 hc1 KNUM KDST hs9 hc9
 obtain ⟨cp6, fp6, hBS, hBl⟩ := hDn
 have HB : Hid _ := And.intro hBS hBl
 clear hBS hBl
 go_wp2
 exact KPOST.out c1 _ _ _ hkc1.out.1 hkc1.out.2 HB.out.1 HB.out.2
theorem tail_at {R : Code} (hR : foundParts.2 = R) (Q : Nat → Prop) (B E G r cap W n Pb Wb Sb Mb : Nat) (A : Nat → Nat → Nat) (k c s p gp Cp gs Cs : Nat) (g C : Nat → Nat) (F : Nat → Nat → Nat) (w wq : World) (Post : Ending → World → Prop) (u4 u6 u7 u8 u9 u10 u11 u12 u13 u14 u15 u16 u17 u18 u19 u20 u21 u22 u23 u24 u25 u26 u27 u28 u29 u30 u31 u32 u33 u34 u35 u36 u37 u38 u39 u40 u41 u42 u43 u44 u45 u46 u47 u48 u49 u50 u51 : Value)
  (KMID : Hid (Mid Q w wq B E G r cap W n Pb Wb Sb Mb c s g C F)) (KDST : Hid (Dst B E Pb Wb Sb Mb)) (KN : Hid ((g p = gp ∧ C p = Cp) ∧ g s = gs ∧ C s = Cs))
  (KNUM : Hid ((k < c + 1 ∧ c + 1 ≤ n) ∧ (B ≤ w.heap.size ∧ Gm.Byt F) ∧ (s < r ∧ c < W) ∧ (W ≤ 1048576 ∧ r ≤ 1048576) ∧ Gm.rd A r (c + 1) = (Gm.one F s p c, s + 1))) (hpr : p < r)
  (KPOST : Hid (∀ (c1 : Nat) (g' C' : Nat → Nat) (w' : World), k < c1 → c1 ≤ n → BS Q w' B E G r cap W n Pb Wb Sb Mb A c1 g' C' → Chg (fun b => B ≤ b ∧ ¬ Q b) w w' → Post (.returned (.bool true)) w')) :
  Code.wp Tryz.prog R (Exit.noGoto (bodyPost Tryz.prog Tryz.f180 Post))
   ⟨#[.pointer (some ⟨Pb, 0, none⟩), .pointer (some ⟨Wb, 0, none⟩), .pointer (some ⟨Sb, 0, none⟩), .pointer (some ⟨Mb, 0, none⟩), u4, .int .i64 (p : Int), u6, u7, u8, u9, u10, u11, u12, u13, u14, u15, u16, u17, u18, u19, u20, u21, u22, u23, u24, u25, u26, u27, u28, u29, u30, u31, u32, u33, u34, u35, u36, u37, u38, u39, u40, u41, u42, u43, u44, u45, u46, u47, u48, u49, u50, u51], []⟩ ((wq.setCell ⟨G, s, none⟩ (.slice (some ⟨gp, 0, none⟩) W Cp)).setCell ⟨G, p, none⟩ (.slice (some ⟨gs, 0, none⟩) W Cs)).drew := by
 subst hR
 exact tail_any Q B E G r cap W n Pb Wb Sb Mb A k c s p gp Cp gs Cs g C F w wq Post u4 u6 u7 u8 u9 u10 u11 u12 u13 u14 u15 u16 u17 u18 u19 u20 u21 u22 u23 u24 u25 u26 u27 u28 u29 u30 u31 u32 u33 u34 u35 u36 u37 u38 u39 u40 u41 u42 u43 u44 u45 u46 u47 u48 u49 u50 u51 KMID KDST KN KNUM hpr KPOST
theorem next_any (Q : Nat → Prop) (B E G r cap W n Pb Wb Sb Mb : Nat) (A : Nat → Nat → Nat) (k : Nat) (g C : Nat → Nat) (w : World) (h : BS Q w B E G r cap W n Pb Wb Sb Mb A k g C) (hA : Gm.Byt A) (hk : k ≤ n) (hn : n ≤ W) (hW : W ≤ 1048576) (hr : r ≤ 1048576) (hBE : B ≤ E)
  (d1 : E ≤ Pb) (d2 : E ≤ Wb) (d3 : E ≤ Sb) (d4 : E ≤ Mb) (d5 : Pb ≠ Wb) (d6 : Pb ≠ Sb) (d7 : Pb ≠ Mb) (d8 : Wb ≠ Sb) (d9 : Wb ≠ Mb) (d10 : Sb ≠ Mb) :
  Calls Tryz.prog 180 #[.pointer (some ⟨Pb, 0, none⟩), .pointer (some ⟨Wb, 0, none⟩), .pointer (some ⟨Sb, 0, none⟩), .pointer (some ⟨Mb, 0, none⟩)] w fun e w' =>
   (∃ k' g' C', k < k' ∧ k' ≤ n ∧ e = .returned (.bool true) ∧ BS Q w' B E G r cap W n Pb Wb Sb Mb A k' g' C' ∧ Chg (fun b => B ≤ b ∧ ¬ Q b) w w') ∨ (e = .returned (.bool false) ∧ BS Q w' B E G r cap W n Pb Wb Sb Mb A n g C ∧ Chg (fun b => B ≤ b ∧ ¬ Q b) w w') := by
 have he := Gm.ech_rd hA r k
 have hsr := he.sr
 have hFb := he.byt
 obtain ⟨hM, hpl, hwd, hst, hmm, hnq⟩ := h
 have KNQ : Hid (¬ Q G ∧ ¬ Q Pb ∧ ¬ Q Sb ∧ ∀ i, i < r → ¬ Q (g i)) := hnq
 clear hnq
 obtain ⟨F, s, hFs⟩ : ∃ F s, Gm.rd A r k = (F, s) := ⟨_, _, rfl⟩
 rw [hFs] at hM hst hsr hFb
 replace hM : MatF w B E G r cap g C W F := hM
 replace hst : w.heap[Sb]? = some (.cells #[.int .i64 (s : Int)] 3 (0, 0)) := hst
 replace hsr : s ≤ r := hsr
 replace hFb : Gm.Byt F := hFb
 have KM : Hid (MatF w B E G r cap g C W F) := hM
 have KH : Hid (Gm.rd A r k = (F, s)) := hFs
 have KF : Hid (Gm.Byt F) := hFb
 clear hM hFs hFb he
 have KB1 : Hid (w.heap[Pb]? = some (.cells #[.int .i64 (k : Int)] 3 (0, 0))) := hpl
 have KB2 : Hid (w.heap[Wb]? = some (.cells #[.int .i64 (n : Int)] 3 (0, 0))) := hwd
 have KB3 : Hid (w.heap[Sb]? = some (.cells #[.int .i64 (s : Int)] 3 (0, 0))) := hst
 have KB4 : Hid (w.heap[Mb]? = some (.cells #[.slice (some ⟨G, 0, none⟩) r cap] 217 (0, 0))) := hmm
 clear hpl hwd hst hmm
 go_enter Tryz.func180, Tryz.ntmps180
 go_wp2
 go_step3
 go_wp2
 go_step3
 go_wp2
 go_loopg [5, 6] (n - k) (fun gk s5 _ wr => ∃ c : Nat, k ≤ c ∧ c + gk = n ∧ s5 = .int .i64 (-1) ∧ Hid (Gm.rd A r c = (F, s)) ∧ wr.heap[Pb]? = some (.cells #[.int .i64 (c : Int)] 3 (0, 0)) ∧ w.grownBy wr (some Pb))
 case atStart => exact ⟨k, Nat.le_refl _, by omega, rfl, KH, KB1.out, World.grownBy.refl _ _⟩
 case round =>
  obtain ⟨c, hkc, hcg, rfl, HC, hpl, hgr⟩ := hrel
  clear KH
  have KG : Hid (w.grownBy wr (some Pb)) := hgr
  have hwd := (Chg.grown (S := fun b => b = Pb) hgr rfl).at KB2.out (fun e => d5 e.symm)
  have hst := (Chg.grown (S := fun b => b = Pb) hgr rfl).at KB3.out (fun e => d6 e.symm)
  have hmm := (Chg.grown (S := fun b => b = Pb) hgr rfl).at KB4.out (fun e => d7 e.symm)
  have KM' : Hid (MatF wr B E G r cap g C W F) := KM.out.keptE hgr d1
  have cp := cell_of_one hpl
  have cw := cell_of_one hwd
  have cs := cell_of_one hst
  have cm := cell_of_one hmm
  have KP : Hid (wr.heap[Pb]? = some (.cells #[.int .i64 (c : Int)] 3 (0, 0))) := hpl
  have KW : Hid (wr.heap[Wb]? = some (.cells #[.int .i64 (n : Int)] 3 (0, 0))) := hwd
  have KS : Hid (wr.heap[Sb]? = some (.cells #[.int .i64 (s : Int)] 3 (0, 0))) := hst
  have KMm : Hid (wr.heap[Mb]? = some (.cells #[.slice (some ⟨G, 0, none⟩) r cap] 217 (0, 0))) := hmm
  clear hgr hpl hwd hst hmm
  cases gk with
  | zero =>
   obtain rfl : c = n := by omega
   have HB : Hid (BS Q wr B E G r cap W c Pb Wb Sb Mb A c g C) := ⟨by rw [HC.out]; exact KM'.out, KP.out, KW.out, by rw [HC.out]; exact KS.out, KMm.out, KNQ.out⟩
   have HBe : Hid (Chg (fun b => B ≤ b ∧ ¬ Q b) w wr) := (Chg.grown (S := fun b => b = Pb) KG.out rfl).imp (fun j e => by subst e; exact ⟨by omega, KNQ.out.2.1⟩)
   go_wp2
   rw [Exit.noGoto_ret]
   go_ret
   exact .inr ⟨rfl, HB.out, HBe.out⟩
  | succ g1 =>
   have hcn : (c : Int) < (n : Int) := by omega
   have hcW : c < W := by omega
   have hcWi : (c : Int) < (W : Int) := by omega
   go_wp2
   have KPP : Hid (wr.heap[Pb]? = some (.cells #[.int .i64 (c : Int)] 3 (0, 0))) := KP
   clear cp cw cs cm KM' KP KW KS KMm
   go_loopg [5, 6] (r - s) (fun gq s5 s6 wr => ∃ p : Nat, s ≤ p ∧ p + gq = r ∧ s5 = .int .i64 (-1) ∧ s6 = .int .i64 (p : Int) ∧ Hid (∀ t, s ≤ t → t < p → F t c = 0) ∧ wr.heap[Pb]? = some (.cells #[.int .i64 (c : Int)] 3 (0, 0)) ∧ w.grownBy wr (some Pb))
   case atStart => exact ⟨s, Nat.le_refl _, by omega, rfl, rfl, fun t h1 h2 => by omega, KPP.out, KG.out⟩
   case round =>
    obtain ⟨p, hsp, hpg, rfl, rfl, HZ, hpl, hgr⟩ := hrel
    have hwd := (Chg.grown (S := fun b => b = Pb) hgr rfl).at KB2.out (fun e => d5 e.symm)
    have hst := (Chg.grown (S := fun b => b = Pb) hgr rfl).at KB3.out (fun e => d6 e.symm)
    have hmm := (Chg.grown (S := fun b => b = Pb) hgr rfl).at KB4.out (fun e => d7 e.symm)
    have hM' : MatF wr B E G r cap g C W F := KM.out.keptE hgr d1
    have cp := cell_of_one hpl
    have fp := free_of_one hpl
    have cw := cell_of_one hwd
    have cs := cell_of_one hst
    have cm := cell_of_one hmm
    have KG2 : Hid (w.grownBy wr (some Pb)) := hgr
    have KP : Hid (wr.heap[Pb]? = some (.cells #[.int .i64 (c : Int)] 3 (0, 0))) := hpl
    have KW : Hid (wr.heap[Wb]? = some (.cells #[.int .i64 (n : Int)] 3 (0, 0))) := hwd
    have KS : Hid (wr.heap[Sb]? = some (.cells #[.int .i64 (s : Int)] 3 (0, 0))) := hst
    have KMm : Hid (wr.heap[Mb]? = some (.cells #[.slice (some ⟨G, 0, none⟩) r cap] 217 (0, 0))) := hmm
    have KM' : Hid (MatF wr B E G r cap g C W F) := hM'
    clear hgr hpl hwd hst hmm
    cases gk with
    | zero =>
     obtain rfl : p = r := by omega
     have HC2 : Hid (Gm.rd A p (c + 1) = (F, s)) := rd_none HC.out hsr HZ.out
     have HS : Hid ((wr.setCell ⟨Pb, 0, none⟩ (.int .i64 ((c + 1 : Nat) : Int))).heap[Pb]? = some (.cells #[.int .i64 ((c + 1 : Nat) : Int)] 3 (0, 0))) := one_setCell KP.out
     have HG : Hid (w.grownBy (wr.setCell ⟨Pb, 0, none⟩ (.int .i64 ((c + 1 : Nat) : Int))) (some Pb)) := grownBy_trans KG2.out (grown_set wr Pb 0 _)
     clear hM'
     obtain ⟨c1, hc1⟩ : ∃ c1, c + 1 = c1 := ⟨_, rfl⟩
     have hw1 : IntKind.i64.wrap ((c : Int) + 1) = (c1 : Int) := by rw [IntKind.wrap_i64]; omega
     rw [hc1] at HS HG HC2
     go_wp2
     go_roundg g1
     case measure => omega
     case rel => exact ⟨c1, by omega, by omega, rfl, HC2, HS.out, HG.out⟩
    | succ gq =>
     have hpr : p < r := by omega
     have hpi : (p : Int) < (r : Int) := by omega
     have hh := hM'.hdr hpr
     have he := hM'.elt (j := c) hpr rfl hcW
     have hGp : G < wr.heap.size := hM'.olt.2
     clear hM'
     by_cases hz : F p c = 0
     ·have HZ2 : Hid (∀ t, s ≤ t → t < p + 1 → F t c = 0) := fun t h1 h2 => by
       by_cases e : t = p
       ·subst e; exact hz
       ·exact HZ.out t h1 (by omega)
      rw [hz] at he
      go_wp2_with fail
      go_quiet (fail)
      go_wp2
      go_roundg gq
      case measure => omega
      case rel => exact ⟨p + 1, by omega, by omega, rfl, by go_num, HZ2, KP.out, grownBy_drewN KG2.out _⟩
     ·have hzi : (((F p c : Nat) : Int) != 0) = true := by simp; exact hz
      have HC2 : Hid (Gm.rd A r (c + 1) = (Gm.one F s p c, s + 1)) := rd_step HC.out hsp hpr HZ.out hz
      have hsrr : s < r := by omega
      have hsri : (s : Int) < (r : Int) := by omega
      have hp0 : ¬ ((p : Int) < 0) := by omega
      have hhs := KM'.out.hdr hsrr
      have fG := fun j => MatZ.ofree KM'.out j
      have fs := fG s
      have fp2 := fG p
      clear fG
      obtain ⟨X, hX⟩ : ∃ X, F p c = X := ⟨_, rfl⟩
      rw [hX] at he hzi
      clear hX hz
      obtain ⟨gp, hgp⟩ : ∃ gp, g p = gp := ⟨_, rfl⟩
      obtain ⟨Cp, hCp⟩ : ∃ Cp, C p = Cp := ⟨_, rfl⟩
      obtain ⟨gs, hgs⟩ : ∃ gs, g s = gs := ⟨_, rfl⟩
      obtain ⟨Cs, hCs⟩ : ∃ Cs, C s = Cs := ⟨_, rfl⟩
      have KN : Hid ((g p = gp ∧ C p = Cp) ∧ g s = gs ∧ C s = Cs) := ⟨⟨hgp, hCp⟩, hgs, hCs⟩
      rw [hgp] at hh he
      rw [hCp] at hh
      rw [hgs, hCs] at hhs
      clear hgp hCp hgs hCs
      go_wp2_with fail
      go_quiet (fail)
      go_wp2_with fail
      generalize hwq : wr.drewN _ = wq
      have hbq : Below wr.heap.size wr wq := by rw [← hwq]; exact below_drewN (Below.refl _ _) _
      have KQ : Hid (Below wr.heap.size wr wq) := hbq
      have cm' := (hbq.cell (p := ⟨Mb, 0, none⟩) (block_lt_of_cell cm)).trans cm
      have cs' := (hbq.cell (p := ⟨Sb, 0, none⟩) (block_lt_of_cell cs)).trans cs
      have hh' := (hbq.cell (p := ⟨G, p, none⟩) (block_lt_of_cell hh)).trans hh
      have hhs' := (hbq.cell (p := ⟨G, s, none⟩) (block_lt_of_cell hhs)).trans hhs
      have fs' := (World.frozen?_of_block (a := ⟨G, s, none⟩) (hbq.block _ hGp)).trans fs
      have fp' := (World.frozen?_of_block (a := ⟨G, p, none⟩) (hbq.block _ hGp)).trans fp2
      clear hwq hbq cm cs hh hhs fs fp2 he cp fp cw
      obtain ⟨v', hy'⟩ : ∃ v', (wq.setCell ⟨G, s, none⟩ (.slice (some ⟨gp, 0, none⟩) W Cp)).cell? ⟨G, p, none⟩ = some v' := by
       by_cases e : p = s
       ·subst e
        have h1 := ((KM'.out.below KQ.out).out.stored p (.slice (some ⟨gp, 0, none⟩) W Cp)).1
        rw [h1.cellAt p (by omega)]
        exact ⟨_, List.getElem?_eq_getElem (by rw [h1.1]; omega)⟩
       ·have h1 := ((KM'.out.below KQ.out).out.stored s (.slice (some ⟨gp, 0, none⟩) W Cp)).1
        rw [h1.cellAt p (by omega)]
        exact ⟨_, List.getElem?_eq_getElem (by rw [h1.1]; omega)⟩
      have fy' : (wq.setCell ⟨G, s, none⟩ (.slice (some ⟨gp, 0, none⟩) W Cp)).frozen? ⟨G, p, none⟩ = false :=
       ((KM'.out.below KQ.out).out.stored s (.slice (some ⟨gp, 0, none⟩) W Cp)).1.frozenAt p
      have hGM : Mb ≠ G := fun e => by
       have h1 := KM'.out.oE _ rfl
       simp at h1
       omega
      have cm2 : (wq.setCell ⟨G, s, none⟩ (.slice (some ⟨gp, 0, none⟩) W Cp)).cell? ⟨Mb, 0, none⟩ = some (.slice (some ⟨G, 0, none⟩) r cap) := (grown_set wq G s _).cell cm' (by simp; exact hGM)
      have KMID : Hid (Mid Q w wq B E G r cap W n Pb Wb Sb Mb c s g C F) := Mid.below ⟨KM'.out, KP.out, KW.out, KS.out, KMm.out, (Chg.grown (S := fun b => b = Pb) KG2.out rfl).imp (fun j e => by subst e; exact ⟨by omega, KNQ.out.2.1⟩), KNQ.out⟩ KQ.out
      have KDST : Hid (Dst B E Pb Wb Sb Mb) := ⟨hBE, d1, d2, d3, d4, d5, d6, d7, d8, d9, d10⟩
      have KNUM : Hid ((k < c + 1 ∧ c + 1 ≤ n) ∧ (B ≤ w.heap.size ∧ Gm.Byt F) ∧ (s < r ∧ c < W) ∧ (W ≤ 1048576 ∧ r ≤ 1048576) ∧ Gm.rd A r (c + 1) = (Gm.one F s p c, s + 1)) := ⟨⟨by omega, by omega⟩, ⟨by have := KM.out.olt; omega, KF.out⟩, ⟨hsrr, hcW⟩, ⟨hW, hr⟩, HC2.out⟩
      clear KM' KQ KP KW KS KMm KM KF HC2 hk hn hW hr hBE d1 d2 d3 d4 d5 d6 d7 d8 d9 d10 hkc hcg hcW hsrr hsr hA KB1 KB2 KB3 KB4 HC KG HZ KG2 hcn hcWi KPP hsp hpg hGp hzi hp0 hGM
      rename_i hKont
      go_region
      refine hKont _ _ ?_
      exact tail_at (by rfl) Q B E G r cap W n Pb Wb Sb Mb A k c s p gp Cp gs Cs g C F w wq (fun e w' => (∃ k' g' C', k < k' ∧ k' ≤ n ∧ e = .returned (.bool true) ∧ BS Q w' B E G r cap W n Pb Wb Sb Mb A k' g' C' ∧ Chg (fun b => B ≤ b ∧ ¬ Q b) w w') ∨ (e = .returned (.bool false) ∧ BS Q w' B E G r cap W n Pb Wb Sb Mb A n g C ∧ Chg (fun b => B ≤ b ∧ ¬ Q b) w w')) _ _ _ _ _ _ _ _ _ _ _ _ _ _ _ _ _ _ _ _ _ _ _ _ _ _ _ _ _ _ _ _ _ _ _ _ _ _ _ _ _ _ _ _ _ _ _ KMID KDST KN KNUM hpr (fun c1 g' C' w' h1 h2 h3 h4 => .inl ⟨c1, g', C', h1, h2, rfl, h3, h4⟩)
end Go.Proofs.YtmhcdkbgjjibeaaGreatDoor
