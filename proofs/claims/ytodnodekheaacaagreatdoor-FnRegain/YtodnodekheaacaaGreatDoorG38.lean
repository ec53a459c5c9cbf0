import Derived.Test.YtodnodekheaacaaGreatDoorG36
import Derived.Test.YtodnodekheaacaaGreatDoorG35
import Derived.Test.YtodnodekheaacaaGreatDoorG26
set_option maxHeartbeats 8000000
set_option maxRecDepth 2000
open Go.ChangeShapes Go.WideShapes Go.ChangeAt Go.RowKit
namespace Go.Proofs.YtodnodekheaacaaGreatDoor
theorem rgt_congr {k n : Int} {zs : List Int} {nb : Nat} {S S' : Nat → ByteArray} (h : ∀ i, i < nb → S i = S' i) (hr : Rgt k n zs nb S) : Rgt k n zs nb S' := by
 obtain ⟨h1, h2, h3, h4, h5⟩ := hr
 have q := sprOk_parts h1
 have h0 := h 0 (by omega)
 refine ⟨h1, h2, h3, by rw [← h0]; exact h4, fun i hi => ?_⟩
 obtain ⟨a, b, c⟩ := h5 i hi
 exact ⟨a, by rw [← h i hi, ← h0]; exact b, c⟩
theorem fsT_congr {k n : Nat} {zs : List Int} {S S' : Nat → ByteArray} (h : ∀ i, i < k → S i = S' i) : fsT k n zs S = fsT k n zs S' := by
 funext i p
 exact Gm.mp_congr (fun _ _ => rfl) (fun t ht => by rw [h t ht])
theorem bdS_congr {k n : Int} {zs : List Int} {S S' : Nat → ByteArray} (h : ∀ i, i < k.toNat → S i = S' i) (h0 : 0 < k.toNat) : bdS k n zs S = bdS k n zs S' := by
 funext i
 unfold bdS
 rw [← h 0 h0]
 exact bod_congr (fun _ _ => rfl) (fun t p ht _ => by rw [h t ht])
theorem dc_congr {k n : Int} {zs : List Int} {nb : Nat} {S S' : Nat → ByteArray} (h : ∀ i, i < nb → S i = S' i) : dcB k n zs nb S = dcB k n zs nb S' ∧ dcS k n zs nb S = dcS k n zs nb S' := by
 by_cases hr : Rgt k n zs nb S
 ·have hr' := rgt_congr h hr
  have hk : k.toNat = nb := by have := hr.2.2.1; omega
  have q := sprOk_parts hr.1
  have h0 := h 0 (by have := hr.2.2.1; omega)
  unfold dcB dcS fsW
  rw [rgt_yes hr, rgt_yes hr', fsT_congr (S' := S') (fun i hi => h i (by omega)), h0]
  exact ⟨rfl, rfl⟩
 ·have hr' : ¬ Rgt k n zs nb S' := fun h' => hr (rgt_congr (fun i hi => (h i hi).symm) h')
  exact ⟨(dc_no hr).1.trans (dc_no hr').1.symm, (dc_no hr).2.trans (dc_no hr').2.symm⟩
theorem zsQ_congr {K : Nat} {Q Q' : Nat → Pc} (h : ∀ j, j < K → Q j = Q' j) : zsQ K Q = zsQ K Q' := by
 unfold zsQ
 exact List.map_congr_left fun j hj => by rw [h j (List.mem_range.1 hj)]
theorem cm_congr {root : ByteArray} {K : Nat} {Q Q' : Nat → Pc} (hK : 0 < K) (h : ∀ j, j < K → Q j = Q' j) (hc : Cm root K Q) : Cm root K Q' ∧ alQ K Q = alQ K Q' := by
 obtain ⟨hr, ht⟩ := hc
 have h0 := h 0 hK
 have hz := zsQ_congr h
 have hS : ∀ j, j < K → sQ Q j = sQ Q' j := fun j hj => by unfold sQ; rw [h j hj]
 have hk : (Q 0).k.toNat = K := by have := hr.2.2.1; omega
 have ha : alQ K Q = alQ K Q' := by
  unfold alQ
  rw [← h0, ← hz]
  exact bdS_congr (fun i hi => hS i (by omega)) (by omega)
 refine ⟨⟨?_, ?_⟩, ha⟩
 ·rw [← h0, ← hz]
  exact rgt_congr hS hr
 ·unfold rtQ at ht ⊢
  rw [← h0, ← ha]
  exact ht
theorem rgE_congr {root : ByteArray} {K : Nat} {Q Q' : Nat → Pc} {e : Ending} (hK : 0 < K) (h : ∀ j, j < K → Q j = Q' j) (hr : RgE root K Q e) : RgE root K Q' e := by
 have h0 := h 0 hK
 have hz := zsQ_congr h
 have hS : ∀ j, j < K → sQ Q j = sQ Q' j := fun j hj => by unfold sQ; rw [h j hj]
 have hd := dc_congr (k := (Q 0).k) (n := (Q 0).n) (zs := zsQ K Q) hS
 rcases hr with ⟨a, b⟩ | ⟨a, b, c⟩ | ⟨a, b, c⟩
 ·exact .inl ⟨fun hc => a (cm_congr hK (fun j hj => (h j hj).symm) hc).1, b⟩
 ·exact .inr (.inl ⟨(cm_congr hK h a).1, by rw [← h0, ← hz, ← hd.1]; exact b, c⟩)
 ·exact .inr (.inr ⟨(cm_congr hK h a).1, by rw [← h0, ← hz, ← hd.1]; exact b, by rw [← h0, ← hz, ← hd.2]; exact c⟩)
open Classical in
noncomputable def gdL (root : ByteArray) (P : Nat → Pc) : Nat → List Nat
 | 0 => []
 | c + 1 => if (P c).r = root ∧ pok P c = true then gdL root P c ++ [c] else gdL root P c
theorem gdL_yes {root : ByteArray} {P : Nat → Pc} {c : Nat} (h : (P c).r = root ∧ pok P c = true) : gdL root P (c + 1) = gdL root P c ++ [c] := by
 show (if _ then _ else _) = _
 rw [if_pos h]
theorem gdL_no {root : ByteArray} {P : Nat → Pc} {c : Nat} (h : ¬ ((P c).r = root ∧ pok P c = true)) : gdL root P (c + 1) = gdL root P c := by
 show (if _ then _ else _) = _
 rw [if_neg h]
theorem gdL_len (root : ByteArray) (P : Nat → Pc) (c : Nat) : (gdL root P c).length ≤ c := by
 induction c with
 | zero => exact Nat.le_refl _
 | succ c ih =>
  by_cases h : (P c).r = root ∧ pok P c = true
  ·rw [gdL_yes h, List.length_append]; show _ + 1 ≤ _; omega
  ·rw [gdL_no h]; omega
theorem gdL_mem {root : ByteArray} {P : Nat → Pc} {c x : Nat} (h : x ∈ gdL root P c) : x < c := by
 induction c with
 | zero => cases h
 | succ c ih =>
  by_cases hp : (P c).r = root ∧ pok P c = true
  ·rw [gdL_yes hp, List.mem_append] at h
   rcases h with h | h
   ·have := ih h; omega
   ·obtain rfl : x = c := by simpa using h
    omega
  ·rw [gdL_no hp] at h
   have := ih h; omega
theorem gdL_pre {root : ByteArray} {P : Nat → Pc} {c n : Nat} (h : c ≤ n) {j : Nat} (hj : j < (gdL root P c).length) : (gdL root P c).length ≤ (gdL root P n).length ∧ (gdL root P n).getD j 0 = (gdL root P c).getD j 0 := by
 obtain ⟨d, rfl⟩ := Nat.le.dest h
 clear h
 induction d with
 | zero => exact ⟨Nat.le_refl _, rfl⟩
 | succ d ih =>
  rw [← Nat.add_assoc]
  by_cases hp : (P (c + d)).r = root ∧ pok P (c + d) = true
  ·rw [gdL_yes hp]
   refine ⟨by rw [List.length_append]; have := ih.1; omega, ?_⟩
   rw [← ih.2, List.getD_eq_getElem?_getD, List.getD_eq_getElem?_getD, List.getElem?_append_left (by have := ih.1; omega)]
  ·rw [gdL_no hp]; exact ih
theorem gwB_congr {k n i : Int} {c : Nat} {Q Q' : Nat → Pc} (h : ∀ j, j < c → Q j = Q' j) : gwB k n i c Q = gwB k n i c Q' := by
 by_cases hg : GwP k n i c Q
 ·rw [gwB_yes hg, gwB_yes (fun j hj => by rw [← h j hj]; exact hg j hj)]
 ·rw [gwB_no hg, gwB_no (fun h' => hg fun j hj => by rw [h j hj]; exact h' j hj)]
theorem pok_0 {P : Nat → Pc} {c : Nat} (h : (P c).k = 0) : pok P c = false := okP_no (fun hk => by have := hk.1; omega)
structure IsGd (root : ByteArray) (P P' : Nat → Pc) (n : Nat) : Prop where
 z : (P' 0).k = 0
 o : (P' 1).k = 0
 g : ∀ j, j < (gdL root P n).length → P' (2 + j) = P ((gdL root P n).getD j 0)
theorem map_getD {L : List Nat} {f : Nat → Nat} {j : Nat} (h : j < L.length) : (L.map f).getD j 0 = f (L.getD j 0) := by
 rw [List.getD_eq_getElem?_getD, List.getD_eq_getElem?_getD, List.getElem?_map, List.getElem?_eq_getElem h]
 rfl
theorem gsel_gd {root : ByteArray} {P P' : Nat → Pc} {n : Nat} (H : IsGd root P P' n) : ∀ c, c ≤ n →
  (gsel root P' (2 + (gdL root P c).length)).map (fun x => (gdL root P n).getD (x - 2) 0) = gsel root P c ∧ ∀ x ∈ gsel root P' (2 + (gdL root P c).length), P' x = P ((gdL root P n).getD (x - 2) 0) := by
 intro c
 induction c with
 | zero =>
  intro _
  have e1 : gsel root P' 1 = [] := by
   rw [gsel_no (fun h => by have := h.2.2; rw [pok_0 H.z] at this; cases this)]
   rfl
  have e2 : gsel root P' 2 = [] := by
   rw [gsel_no (fun h => by have := h.2.2; rw [pok_0 H.o] at this; cases this)]
   exact e1
  show (gsel root P' 2).map _ = [] ∧ ∀ x ∈ gsel root P' 2, _
  rw [e2]
  exact ⟨rfl, fun x hx => by cases hx⟩
 | succ c ih =>
  intro hc
  obtain ⟨ih1, ih2⟩ := ih (by omega)
  by_cases hp : (P c).r = root ∧ pok P c = true
  ·obtain ⟨j, hj⟩ : ∃ j, (gdL root P c).length = j := ⟨_, rfl⟩
   have hlen : (gdL root P (c + 1)).length = j + 1 := by rw [gdL_yes hp, List.length_append, hj]; rfl
   obtain ⟨hl, hpre⟩ := gdL_pre (root := root) (P := P) hc (j := j) (by omega)
   have hcj : (gdL root P n).getD j 0 = c := by
    rw [hpre, gdL_yes hp, List.getD_eq_getElem?_getD, List.getElem?_append_right (by omega), hj, Nat.sub_self]
    rfl
   have hP : P' (2 + j) = P c := by rw [H.g j (by omega), hcj]
   rw [hlen, ← Nat.add_assoc]
   rw [hj] at ih1 ih2
   have hL : (gsel root P' (2 + j)).length = (gsel root P c).length := by rw [← ih1, List.length_map]
   have hgw : gwB (P' (2 + j)).k (P' (2 + j)).n (P' (2 + j)).i (gsel root P' (2 + j)).length (fun t => P' ((gsel root P' (2 + j)).getD t 0)) = gwB (P c).k (P c).n (P c).i (gsel root P c).length (fun t => P ((gsel root P c).getD t 0)) := by
    rw [hP, ← hL]
    refine gwB_congr fun t ht => ?_
    show P' ((gsel root P' (2 + j)).getD t 0) = P ((gsel root P c).getD t 0)
    rw [ih2 _ (getD_memL ht), ← ih1, map_getD ht]
   have hpk : pok P' (2 + j) = pok P c := by unfold pok; rw [hP]
   by_cases hs : (P c).r = root ∧ gwB (P c).k (P c).n (P c).i (gsel root P c).length (fun j => P ((gsel root P c).getD j 0)) = true ∧ pok P c = true
   ·rw [gsel_yes (root := root) (P := P) hs, gsel_yes (root := root) (P := P') (c := 2 + j) ⟨by rw [hP]; exact hs.1, by rw [hgw]; exact hs.2.1, by rw [hpk]; exact hs.2.2⟩]
    refine ⟨?_, fun x hx => ?_⟩
    ·rw [List.map_append, ih1]
     show _ ++ [(gdL root P n).getD (2 + j - 2) 0] = _
     rw [Nat.add_sub_cancel_left, hcj]
    ·rcases List.mem_append.1 hx with h | h
     ·exact ih2 x h
     ·obtain rfl : x = 2 + j := by simpa using h
      rw [Nat.add_sub_cancel_left, hcj, hP]
   ·rw [gsel_no (root := root) (P := P) hs, gsel_no (root := root) (P := P') (c := 2 + j) (fun h => hs ⟨hp.1, by rw [← hgw]; exact h.2.1, hp.2⟩)]
    exact ⟨ih1, ih2⟩
  ·rw [gdL_no hp, gsel_no (fun h => hp ⟨h.1, h.2.2⟩)]
   exact ⟨ih1, ih2⟩
theorem enB_parts {root : ByteArray} {n : Nat} {P : Nat → Pc} (h : enB root n P = true) : n ≤ 64 ∧ gsel root P n ≠ [] ∧ enK root n P ≤ ((gsel root P n).length : Int) := by
 unfold enB at h
 simpa [and_assoc] using h
theorem enB_of {root : ByteArray} {n : Nat} {P : Nat → Pc} (h : n ≤ 64 ∧ gsel root P n ≠ [] ∧ enK root n P ≤ ((gsel root P n).length : Int)) : enB root n P = true := by
 unfold enB
 simpa [and_assoc] using h
theorem rg_good {root : ByteArray} {P P' : Nat → Pc} {n : Nat} {e e' : Ending} (H : IsGd root P P' n) (hn : n ≤ 60) (h : RgA root n P e) (h' : RgA root (2 + (gdL root P n).length) P' e') : e' = e := by
 obtain ⟨m1, m2⟩ := gsel_gd H n (Nat.le_refl n)
 obtain ⟨M, hM⟩ : ∃ M, gsel root P' (2 + (gdL root P n).length) = M := ⟨_, rfl⟩
 have hgl := gdL_len root P n
 rw [hM] at m1 m2
 have hlen : M.length = (gsel root P n).length := by rw [← m1, List.length_map]
 have hnil : M = [] ↔ gsel root P n = [] := by rw [← List.length_eq_zero_iff, ← List.length_eq_zero_iff, hlen]
 have hK : M ≠ [] → enK root (2 + (gdL root P n).length) P' = enK root n P := fun hne => by
  have hl0 : 0 < M.length := List.length_pos_iff.2 hne
  unfold enK
  rw [hM, m2 _ (getD_memL hl0), ← m1, map_getD hl0]
 have hB : enB root (2 + (gdL root P n).length) P' = enB root n P := by
  cases hb : enB root n P with
  | true =>
   obtain ⟨a, b, c⟩ := enB_parts hb
   have hne : M ≠ [] := fun k => b (hnil.1 k)
   refine enB_of ⟨by omega, by rw [hM]; exact hne, ?_⟩
   rw [hK hne, hM, hlen]
   exact c
  | false =>
   cases hb' : enB root (2 + (gdL root P n).length) P' with
   | false => rfl
   | true =>
    obtain ⟨a, b, c⟩ := enB_parts hb'
    rw [hM] at b c
    rw [hK b, hlen] at c
    rw [enB_of ⟨by omega, fun k => b (hnil.2 k), c⟩] at hb
    cases hb
 rcases h with ⟨h1, h2⟩ | ⟨h1, L, hp, hs, hr⟩ <;> rcases h' with ⟨k1, k2⟩ | ⟨k1, L', kp, ks, kr⟩
 ·rw [h2, k2]
 ·rw [hB, h1] at k1; cases k1
 ·rw [hB, h1] at k1; cases k1
 ·obtain ⟨a, b, c⟩ := enB_parts h1
  have hne : M ≠ [] := fun k => b (hnil.1 k)
  rw [hM] at kp
  have hmem : ∀ j, j < L'.length → P' (L'.getD j 0) = P ((L'.map (fun x => (gdL root P n).getD (x - 2) 0)).getD j 0) := fun j hj => by
   rw [map_getD hj]
   exact m2 _ (kp.mem_iff.1 (getD_memL hj))
  have hLL : L'.map (fun x => (gdL root P n).getD (x - 2) 0) = L := by
   refine asc_one (gsel_one root P n) (by rw [← m1]; exact kp.map _) hp (fun x y hxy hy => ?_) hs
   rw [List.length_map] at hy
   rw [← hmem x (by omega), ← hmem y hy]
   exact ks x y hxy hy
  rw [hK hne] at kr
  have hKp := (en_parts h1 hp)
  have hl : L'.length = L.length := by rw [← hLL, List.length_map]
  refine (rgE_one (rgE_congr hKp.1 (fun j hj => ?_) kr) hr)
  show P' (L'.getD j 0) = P (L.getD j 0)
  rw [hmem j (by have := hKp.2.2.1; omega), hLL]
theorem gsel_sameN {root : ByteArray} {P : Nat → Pc} {n : Nat} : ∀ x ∈ gsel root P n, (P x).n = (P ((gsel root P n).getD 0 0)).n := by
 induction n with
 | zero => intro x hx; cases hx
 | succ c ih =>
  intro x hx
  by_cases hp : (P c).r = root ∧ gwB (P c).k (P c).n (P c).i (gsel root P c).length (fun j => P ((gsel root P c).getD j 0)) = true ∧ pok P c = true
  ·rw [gsel_yes hp] at hx ⊢
   cases hL : gsel root P c with
   | nil =>
    rw [hL] at hx
    obtain rfl : x = c := by simpa using hx
    simp
   | cons y ys =>
    rw [hL] at hx ih hp
    have e0 : ((y :: ys ++ [c]).getD 0 0) = y := rfl
    rw [e0]
    rcases List.mem_append.1 hx with h | h
    ·exact ih x h
    ·obtain rfl : x = c := by simpa using h
     have h2 : GwP (P x).k (P x).n (P x).i (y :: ys).length (fun j => P ((y :: ys).getD j 0)) := by
      have := hp.2.1
      unfold gwB at this
      simpa using this
     exact (h2 0 (by simp)).2.1
  ·rw [gsel_no hp] at hx ⊢
   exact ih x hx
theorem gsel_head (root : ByteArray) (P : Nat → Pc) (n : Nat) : (gsel root P n).head? = (gdL root P n).head? := by
 induction n with
 | zero => rfl
 | succ c ih =>
  by_cases hg : (P c).r = root ∧ pok P c = true
  ·rw [gdL_yes hg]
   by_cases hs : (P c).r = root ∧ gwB (P c).k (P c).n (P c).i (gsel root P c).length (fun j => P ((gsel root P c).getD j 0)) = true ∧ pok P c = true
   ·rw [gsel_yes hs, List.head?_append, List.head?_append, ih]
   ·rw [gsel_no hs, List.head?_append, ← ih]
    cases hL : gsel root P c with
    | nil =>
     refine absurd ⟨hg.1, ?_, hg.2⟩ hs
     rw [hL]
     exact gwB_yes (fun j hj => absurd hj (Nat.not_lt_zero j))
    | cons y ys => rfl
  ·rw [gdL_no hg, gsel_no (fun h => hg ⟨h.1, h.2.2⟩)]
   exact ih
theorem getD_head {L : List Nat} {x : Nat} (h : L.head? = some x) : L.getD 0 0 = x ∧ 0 < L.length := by
 cases L with
 | nil => cases h
 | cons y ys => cases h; exact ⟨rfl, by simp⟩
theorem rg_text {root : ByteArray} {P : Nat → Pc} {n : Nat} {s : ByteArray} {c : Int} (h : RgA root n P (.returned (.tuple #[.string s, .int .i64 c]))) :
  (c ≠ 0 ∧ s = ⟨#[]⟩) ∨ (c = 0 ∧ 0 < (gdL root P n).length ∧ rof s (P ((gdL root P n).getD 0 0)).k (P ((gdL root P n).getD 0 0)).n = root ∧ s.size ≤ 2000) := by
 rcases h with ⟨_, h2⟩ | ⟨h1, L, hp, hs, hr⟩
 ·cases h2
  exact .inl ⟨by omega, rfl⟩
 ·rcases hr with ⟨_, h2⟩ | ⟨_, _, h2⟩ | ⟨hc, hd, h2⟩
  ·cases h2
   exact .inl ⟨by omega, rfl⟩
  ·cases h2
   exact .inl ⟨by omega, rfl⟩
  ·refine .inr ?_
   obtain ⟨a, b, _⟩ := enB_parts h1
   obtain ⟨x, hx⟩ : ∃ x, (gsel root P n).head? = some x := by
    cases hL : gsel root P n with
    | nil => exact absurd hL b
    | cons y ys => exact ⟨y, rfl⟩
   have hx' := hx
   rw [gsel_head] at hx'
   obtain ⟨e1, l1⟩ := getD_head hx
   obtain ⟨e2, l2⟩ := getD_head hx'
   have hKp := (en_parts h1 hp)
   have hm0 : L.getD 0 0 ∈ gsel root P n := hp.mem_iff.1 (getD_memL (by omega))
   have ek : (P x).k = (qL P L 0).k := by
    have := gsel_same _ hm0
    rw [e1] at this
    exact this.symm
   have en : (P x).n = (qL P L 0).n := by
    have := gsel_sameN _ hm0
    rw [e1] at this
    exact this.symm
   obtain ⟨hrg, hrt⟩ := hc
   obtain ⟨K, hK⟩ : ∃ K, (enK root n P).toNat = K := ⟨_, rfl⟩
   obtain ⟨Q, hQ⟩ : ∃ Q, qL P L = Q := ⟨_, rfl⟩
   rw [hK, hQ] at hrg hrt hd h2
   rw [hQ] at ek en
   have q := sprOk_parts hrg.1
   have hk : (Q 0).k = (K : Int) := hrg.2.2.1.symm
   obtain ⟨N, hN⟩ := Int.eq_ofNat_of_zero_le (show 0 ≤ (Q 0).n by omega)
   have hall := dec_all (K := K) (M := N) (zs := zsQ K Q) (nb := K) (S := sQ Q) (by rw [← hk, ← hN]; exact hd)
   have hs0 : s = dcS (Q 0).k (Q 0).n (zsQ K Q) K (sQ Q) := by cases h2; rfl
   have hc0 : c = 0 := by cases h2; rfl
   rw [hk, hN] at hs0
   rw [← hs0] at hall
   refine ⟨hc0, l2, ?_, hall.1⟩
   rw [e2, ek, en]
   unfold rof
   have hok : encOk s (Q 0).k (Q 0).n = true := by
    unfold encOk
    rw [hrg.1]
    simpa using hall.1
   rw [if_pos hok, ← hrt]
   unfold rtQ
   have hA : encS s (Q 0).k.toNat = alQ K Q := by
    funext i
    have := hall.2 i
    unfold alQ
    rw [hk, hN, Int.toNat_natCast]
    exact this
   rw [hA]
end Go.Proofs.YtodnodekheaacaaGreatDoor
