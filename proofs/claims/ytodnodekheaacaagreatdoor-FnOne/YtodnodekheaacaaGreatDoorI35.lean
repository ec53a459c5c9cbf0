import Derived.Test.YtodnodekheaacaaGreatDoorI30
set_option maxHeartbeats 8000000
set_option maxRecDepth 2000
open Go.ChangeShapes Go.WideShapes Go.ChangeAt Go.RowKit
namespace Go.Proofs.YtodnodekheaacaaGreatDoor
def fst1 (G : List Nat) : Int := match G with
 | [] => -1
 | x :: _ => (x : Int)
def atPl (P : Nat → Pc) (G : List Nat) (p : Nat) : Option Nat := G.find? fun x => decide ((P x).i = (p : Int))
def byV (P : Nat → Pc) (G : List Nat) (p : Nat) : Int := match atPl P G p with
 | some x => (x : Int)
 | none => -1
def lofP (P : Nat → Pc) (G : List Nat) (c : Nat) : List Nat := (List.range c).filterMap (atPl P G)
theorem fst1_app {G : List Nat} (c : Nat) : fst1 (G ++ [c]) = if G = [] then (c : Int) else fst1 G := by
 cases G <;> simp [fst1]
theorem fst1_get {G : List Nat} (h : G ≠ []) : fst1 G = ((G.getD 0 0 : Nat) : Int) := by
 cases G with
 | nil => exact absurd rfl h
 | cons x G => rfl
theorem byV_app (P : Nat → Pc) (G : List Nat) (c p : Nat) : byV P (G ++ [c]) p = if 0 ≤ byV P G p then byV P G p else if (P c).i = (p : Int) then (c : Int) else -1 := by
 unfold byV atPl
 rw [List.find?_append]
 cases h : List.find? (fun x => decide ((P x).i = (p : Int))) G with
 | some x => simp
 | none =>
  by_cases e : (P c).i = (p : Int)
  ·simp [e]
  ·simp [e]
theorem byV_nn {P : Nat → Pc} {G : List Nat} {p : Nat} : 0 ≤ byV P G p ↔ ∃ x, atPl P G p = some x := by
 unfold byV
 cases h : atPl P G p with
 | some x => simp
 | none => simp
theorem byV_some {P : Nat → Pc} {G : List Nat} {p x : Nat} (h : atPl P G p = some x) : byV P G p = (x : Int) := by unfold byV; rw [h]
theorem byV_none {P : Nat → Pc} {G : List Nat} {p : Nat} (h : atPl P G p = none) : byV P G p = -1 := by unfold byV; rw [h]
theorem atPl_mem {P : Nat → Pc} {G : List Nat} {p x : Nat} (h : atPl P G p = some x) : x ∈ G ∧ (P x).i = (p : Int) := ⟨List.mem_of_find?_eq_some h, by have := List.find?_some h; simpa using this⟩
theorem atPl_no {P : Nat → Pc} {G : List Nat} {p : Nat} (h : ¬ 0 ≤ byV P G p) : ∀ y ∈ G, (P y).i ≠ (p : Int) := by
 have h' : atPl P G p = none := by
  cases e : atPl P G p with
  | some x => exact absurd (byV_nn.2 ⟨x, e⟩) h
  | none => rfl
 intro y hy e
 have := List.find?_eq_none.1 h' y hy
 simp [e] at this
theorem gw_iff {P : Nat → Pc} {G : List Nat} {k n i : Int} : gwB k n i G.length (fun j => P (G.getD j 0)) = true ↔ ∀ y ∈ G, k = (P y).k ∧ n = (P y).n ∧ i ≠ (P y).i := by
 constructor
 ·intro h y hy
  have hg : GwP k n i G.length (fun j => P (G.getD j 0)) := Classical.byContradiction fun hno => by rw [gwB_no hno] at h; cases h
  obtain ⟨j, hj, e⟩ := List.getElem_of_mem hy
  have := hg j hj
  simp only [List.getD_eq_getElem?_getD, List.getElem?_eq_getElem hj, Option.getD_some, e] at this
  exact this
 ·intro h
  exact gwB_yes fun j hj => h _ (getD_memL hj)
theorem gsel_kn {root : ByteArray} {P : Nat → Pc} {n : Nat} : ∀ x ∈ gsel root P n, (P x).k = (P ((gsel root P n).getD 0 0)).k ∧ (P x).n = (P ((gsel root P n).getD 0 0)).n := by
 induction n with
 | zero => intro x hx; cases hx
 | succ c ih =>
  by_cases hp : (P c).r = root ∧ gwB (P c).k (P c).n (P c).i (gsel root P c).length (fun j => P ((gsel root P c).getD j 0)) = true ∧ pok P c = true
  ·rw [gsel_yes hp]
   intro x hx
   rw [List.mem_append] at hx
   by_cases he : gsel root P c = []
   ·rw [he] at hx ⊢
    rcases hx with hx | hx
    ·cases hx
    ·obtain rfl : x = c := by simpa using hx
     exact ⟨rfl, rfl⟩
   ·have hl : 0 < (gsel root P c).length := List.length_pos_iff.2 he
    have e0 : (gsel root P c ++ [c]).getD 0 0 = (gsel root P c).getD 0 0 := by
     rw [List.getD_eq_getElem?_getD, List.getD_eq_getElem?_getD, List.getElem?_append_left hl]
    rw [e0]
    rcases hx with hx | hx
    ·exact ih x hx
    ·obtain rfl : x = c := by simpa using hx
     have := gw_iff.1 hp.2.1 _ (getD_memL (L := gsel root P x) (j := 0) hl)
     exact ⟨this.1, this.2.1⟩
  ·rw [gsel_no hp]; exact ih
theorem gsel_step {root : ByteArray} {P : Nat → Pc} {c p : Nat} (hr : (P c).r = root) (ho : pok P c = true) (hi : (P c).i = (p : Int)) (hG : gsel root P c ≠ []) :
  gsel root P (c + 1) = if (P c).k = (P ((gsel root P c).getD 0 0)).k ∧ (P c).n = (P ((gsel root P c).getD 0 0)).n ∧ ¬ 0 ≤ byV P (gsel root P c) p then gsel root P c ++ [c] else gsel root P c := by
 have hl : 0 < (gsel root P c).length := List.length_pos_iff.2 hG
 by_cases hc : (P c).k = (P ((gsel root P c).getD 0 0)).k ∧ (P c).n = (P ((gsel root P c).getD 0 0)).n ∧ ¬ 0 ≤ byV P (gsel root P c) p
 ·rw [if_pos hc]
  refine gsel_yes ⟨hr, gw_iff.2 fun y hy => ?_, ho⟩
  have h1 := gsel_kn y hy
  exact ⟨by rw [h1.1]; exact hc.1, by rw [h1.2]; exact hc.2.1, fun e => atPl_no hc.2.2 y hy (by rw [← e, hi])⟩
 ·rw [if_neg hc]
  refine gsel_no fun h => hc ?_
  have h2 := gw_iff.1 h.2.1
  have h3 := h2 _ (getD_memL (L := gsel root P c) (j := 0) hl)
  refine ⟨h3.1, h3.2.1, fun hn => ?_⟩
  obtain ⟨x, hx⟩ := byV_nn.1 hn
  have h4 := atPl_mem hx
  exact (h2 x h4.1).2.2 (by rw [hi, h4.2])
theorem gsel_first {root : ByteArray} {P : Nat → Pc} {c : Nat} (hr : (P c).r = root) (ho : pok P c = true) (hG : gsel root P c = []) : gsel root P (c + 1) = [c] := by
 have := gsel_yes (root := root) (P := P) (c := c) ⟨hr, by rw [hG]; exact gwB_yes fun j hj => absurd hj (Nat.not_lt_zero _), ho⟩
 rw [hG] at this
 exact this
theorem gsel_skip {root : ByteArray} {P : Nat → Pc} {c : Nat} (h : (P c).r ≠ root ∨ pok P c = false) : gsel root P (c + 1) = gsel root P c := gsel_no fun h' => by
 rcases h with h | h
 ·exact h h'.1
 ·rw [h] at h'; cases h'.2.2
theorem pok_i {P : Nat → Pc} {x : Nat} (h : pok P x = true) : ∃ p : Nat, (P x).i = (p : Int) ∧ p < 16 := by
 have hk := pok_k h
 unfold pok at h
 rw [okP_yes hk] at h
 have h2 := pvB_parts h
 obtain ⟨p, hp⟩ := Int.eq_ofNat_of_zero_le h2.1
 exact ⟨p, hp, by have := hk.2.2.1; omega⟩
theorem lofP_succ (P : Nat → Pc) (G : List Nat) (c : Nat) : lofP P G (c + 1) = lofP P G c ++ (match atPl P G c with | some x => [x] | none => []) := by
 unfold lofP
 rw [List.range_succ, List.filterMap_append]
 congr 1
 cases h : atPl P G c <;> simp [h]
theorem lofP_asc (P : Nat → Pc) (G : List Nat) (c : Nat) : (lofP P G c).Pairwise fun x y => (P x).i < (P y).i := by
 unfold lofP
 rw [List.pairwise_filterMap]
 refine List.Pairwise.imp ?_ (List.pairwise_lt_range (n := c))
 intro p p' hpp x hx y hy
 rw [(atPl_mem hx).2, (atPl_mem hy).2]
 omega
theorem lofP_mem {P : Nat → Pc} {G : List Nat} (hG : OneEach P G) (hp : ∀ x ∈ G, ∃ p : Nat, (P x).i = (p : Int) ∧ p < 16) (x : Nat) : x ∈ lofP P G 16 ↔ x ∈ G := by
 unfold lofP
 rw [List.mem_filterMap]
 constructor
 ·rintro ⟨p, _, h⟩
  exact (atPl_mem h).1
 ·intro hx
  obtain ⟨p, e, hl⟩ := hp x hx
  refine ⟨p, List.mem_range.2 hl, ?_⟩
  cases h : atPl P G p with
  | none => exact absurd e (atPl_no (by rw [byV_none h]; omega) x hx)
  | some y =>
   have := atPl_mem h
   rw [hG y this.1 x hx (by rw [this.2, e])]
theorem asc_nodup {P : Nat → Pc} {L : List Nat} (h : L.Pairwise fun x y => (P x).i < (P y).i) : L.Nodup := List.Pairwise.imp (fun hxy e => by subst e; omega) h
theorem gsel_asc (root : ByteArray) (P : Nat → Pc) (n : Nat) : (gsel root P n).Nodup := by
 induction n with
 | zero => exact List.nodup_nil
 | succ c ih =>
  by_cases hp : (P c).r = root ∧ gwB (P c).k (P c).n (P c).i (gsel root P c).length (fun j => P ((gsel root P c).getD j 0)) = true ∧ pok P c = true
  ·rw [gsel_yes hp, List.nodup_append]
   refine ⟨ih, by simp, fun a ha b hb => ?_⟩
   obtain rfl : b = c := by simpa using hb
   have := (gsel_mem ha).1
   omega
  ·rw [gsel_no hp]; exact ih
theorem lofP_perm (root : ByteArray) (P : Nat → Pc) (n : Nat) : (lofP P (gsel root P n) 16).Perm (gsel root P n) := by
 rw [List.perm_iff_count]
 intro a
 rw [(asc_nodup (lofP_asc P _ 16)).count, (gsel_asc root P n).count]
 have := lofP_mem (gsel_one root P n) (fun x hx => pok_i (gsel_mem hx).2.2) a
 by_cases h : a ∈ gsel root P n
 ·rw [if_pos h, if_pos (this.2 h)]
 ·rw [if_neg h, if_neg (fun h' => h (this.1 h'))]
theorem asc_getD {P : Nat → Pc} {L : List Nat} (h : L.Pairwise fun x y => (P x).i < (P y).i) (x y : Nat) (hxy : x < y) (hy : y < L.length) : (P (L.getD x 0)).i ≤ (P (L.getD y 0)).i := by
 have := List.pairwise_iff_getElem.1 h x y (by omega) hy hxy
 rw [List.getD_eq_getElem?_getD, List.getD_eq_getElem?_getD, List.getElem?_eq_getElem (by omega), List.getElem?_eq_getElem hy]
 simp only [Option.getD_some]
 omega
end Go.Proofs.YtodnodekheaacaaGreatDoor
