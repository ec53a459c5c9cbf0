import Derived.Test.YtcaejlalnjnifaaGreatShelf
import Derived.Test.YtcaejlalnjnifaaGreatA23
import Derived.Test.YtcaejlalnjnifaaGreatA4
import Derived.Test.YtcaejlalnjnifaaGreatA6
set_option maxHeartbeats 8000000
set_option maxRecDepth 2000
open Go.ChangeShapes Go.WideShapes Go.ChangeAt Go.RowKit
namespace Go.Proofs.YtcaejlalnjnifaaGreat
theorem set_cut {α : Type} (l : List α) (o : Nat) (v : α) (r : List α) (h : o < l.length) : (l.set o v).take (o + 1) ++ r ++ (l.set o v).drop (o + 1 + r.length) = l.take o ++ (v :: r) ++ l.drop (o + (v :: r).length) := by
 have e : l.set o v = l.take o ++ v :: l.drop (o + 1) := by rw [List.set_eq_take_append_cons_drop, if_pos h]
 have hl : (l.take o).length = o := by rw [List.length_take]; omega
 have h1 : (l.set o v).take (o + 1) = l.take o ++ [v] := by
  rw [e, List.take_append, hl, List.take_of_length_le (by omega)]
  simp
 have h2 : (l.set o v).drop (o + 1 + r.length) = l.drop (o + (r.length + 1)) := by
  rw [List.drop_set, if_pos (by omega)]
  congr 1
  omega
 rw [h1, h2]
 simp
theorem rowSets {g : Nat} {t : TypeId} : ∀ (vs : List Value) (o : Nat) (w : World) (cs : Array Value), Row w g t cs → o + vs.length ≤ cs.size → Row (w.setCells g o vs) g t (cs.toList.take o ++ vs ++ cs.toList.drop (o + vs.length)).toArray
 | [], o, w, cs, h, _ => by
  rw [World.setCells]
  simpa using h
 | v :: r, o, w, cs, h, hl => by
  rw [World.setCells]
  have hl' : o + (r.length + 1) ≤ cs.size := hl
  have h1 := rowSets r (o + 1) _ _ (h.set o v) (by rw [Array.size_setIfInBounds]; omega)
  rw [Array.toList_setIfInBounds, set_cut _ _ _ _ (by rw [Array.length_toList]; omega)] at h1
  exact h1
theorem own_of_row {w : World} {B g t n cap : Nat} {cs : Array Value} {xs : List Value} (h : Row w g t cs) (hB : B ≤ g) (hc : cs.size = cap) (hn : n ≤ cap) (hm : cap ≤ maxLen) (hx : cs.toList.take n = xs) : w.ownsRow B t 1 (.slice (some ⟨g, 0, none⟩) n cap) n xs :=
 ⟨by rw [← hx, List.length_take, Array.length_toList]; omega, .inr ⟨g, cap, cs, rfl, hB, h, hn, hm, by omega, by rw [Nat.mul_one]; exact hx⟩⟩
theorem Trn.sets {g : Nat} {F : Nat → Prop} (hF : F g) : ∀ (vs : List Value) (o : Nat) (w : World), Trn w (w.setCells g o vs) F
 | [], _, w => Trn.refl w F
 | v :: r, o, w => by
  rw [World.setCells]
  exact (Trn.set w o v hF).trans (Trn.sets hF r (o + 1) _)
theorem Trn.drew (w : World) (F : Nat → Prop) : Trn w w.drew F := ⟨rfl, rfl, rfl, Nat.le_refl _, fun _ _ _ => rfl⟩
theorem Trn.drewN (w : World) (k : Nat) (F : Nat → Prop) : Trn w (w.drewN k) F := ⟨rfl, rfl, rfl, Nat.le_refl _, fun _ _ _ => rfl⟩
theorem Trn.alloc (w : World) (o : Obj) (F : Nat → Prop) : Trn w (w.alloc o) F := Trn.ofBelow F ((Below.refl _ _).alloc (Nat.le_refl _) _)
theorem shift_list {α : Type} (L Z : List α) (x : α) (k N : Nat) (hZ : L.take N = Z) (hN : N + 1 ≤ L.length) (hk : k < N) : ((L.take (k + 1) ++ Z.drop k ++ L.drop (k + 1 + (Z.drop k).length)).take k ++ [x] ++ (L.take (k + 1) ++ Z.drop k ++ L.drop (k + 1 + (Z.drop k).length)).drop (k + 1)).take (N + 1) = Z.take k ++ x :: Z.drop k ∧ ((L.take (k + 1) ++ Z.drop k ++ L.drop (k + 1 + (Z.drop k).length)).take k ++ [x] ++ (L.take (k + 1) ++ Z.drop k ++ L.drop (k + 1 + (Z.drop k).length)).drop (k + 1)).length = L.length := by
 have hl : Z.length = N := by rw [← hZ, List.length_take]; omega
 have h0 : (Z.drop k).length = N - k := by rw [List.length_drop, hl]
 have hl1 : (L.take (k + 1)).length = k + 1 := by rw [List.length_take]; omega
 have h1 : (L.take (k + 1) ++ Z.drop k ++ L.drop (k + 1 + (Z.drop k).length)).take k = Z.take k := by
  rw [List.append_assoc, List.take_append_of_le_length (by omega), List.take_take, ← hZ, List.take_take]
  congr 1
  omega
 have h2 : (L.take (k + 1) ++ Z.drop k ++ L.drop (k + 1 + (Z.drop k).length)).drop (k + 1) = Z.drop k ++ L.drop (N + 1) := by
  rw [List.append_assoc, List.drop_left' hl1, h0]
  congr 2
  omega
 rw [h1, h2]
 constructor
 ·have e : Z.take k ++ [x] ++ (Z.drop k ++ L.drop (N + 1)) = (Z.take k ++ x :: Z.drop k) ++ L.drop (N + 1) := by simp
  rw [e, List.take_left' (by simp [List.length_take, List.length_drop, hl]; omega)]
 ·simp [List.length_take, List.length_drop, hl]
  omega
theorem grow_list {α : Type} (Z : List α) (x z : α) (k N c : Nat) (hl : Z.length = N) (hk : k < N) (A : List α) (hA : A = Z.take k ++ List.replicate (N + 1 - k) z ++ List.replicate (c - (N + 1)) z) (hc : N + 1 ≤ c) : ((A.take k ++ [x] ++ A.drop (k + 1)).take (k + 1) ++ Z.drop k ++ (A.take k ++ [x] ++ A.drop (k + 1)).drop (k + 1 + (Z.drop k).length)).take (N + 1) = Z.take k ++ x :: Z.drop k ∧ ((A.take k ++ [x] ++ A.drop (k + 1)).take (k + 1) ++ Z.drop k ++ (A.take k ++ [x] ++ A.drop (k + 1)).drop (k + 1 + (Z.drop k).length)).length = c ∧ A.length = c := by
 have h0 : (Z.drop k).length = N - k := by rw [List.length_drop, hl]
 have ht : (Z.take k).length = k := by rw [List.length_take]; omega
 have hAl : A.length = c := by rw [hA]; simp [ht]; omega
 have h1 : A.take k = Z.take k := by rw [hA, List.append_assoc, List.take_left' ht]
 have h2 : (A.take k ++ [x] ++ A.drop (k + 1)).take (k + 1) = Z.take k ++ [x] := by
  rw [h1, List.take_left' (by simp [ht])]
 have h3 : (A.take k ++ [x] ++ A.drop (k + 1)).drop (k + 1 + (Z.drop k).length) = A.drop (N + 1) := by
  rw [h1, ← List.drop_drop, List.drop_left' (by simp [ht]), List.drop_drop, h0]
  congr 1
  omega
 rw [h2, h3]
 refine ⟨?_, ?_, hAl⟩
 ·have e : Z.take k ++ [x] ++ Z.drop k ++ A.drop (N + 1) = (Z.take k ++ x :: Z.drop k) ++ A.drop (N + 1) := by simp
  rw [e, List.take_left' (by simp [ht, h0]; omega)]
 ·simp [ht, h0, hAl]
  omega
theorem ins_any (B : Nat) (a : Option Addr) (zs : List Int) (c : Nat) (x : Int) (k vb : Nat) (w : World) (h : w.ownsRow B 3 1 (.slice a zs.length c) zs.length (zs.map (Value.int .i64))) (hB : B ≤ w.heap.size) (hk : k ≤ zs.length) (hn : zs.length ≤ 1048576) (hv : Row w vb 3 #[.int .i64 x]) (hne : ∀ y, a = some y → vb ≠ y.block) :
  Calls Tryz.prog 180 #[.slice a zs.length c, .int .i64 (k : Int), .slice (some ⟨vb, 0, none⟩) 1 1] w fun e w' => ∃ g' c', e = .returned (.slice (some ⟨g', 0, none⟩) (zs.length + 1) c') ∧ w'.ownsRow B 3 1 (.slice (some ⟨g', 0, none⟩) (zs.length + 1) c') (zs.length + 1) ((zs.take k ++ x :: zs.drop k).map (Value.int .i64)) ∧ Trn w w' (fun y => a = some ⟨y, 0, none⟩) ∧ (a = some ⟨g', 0, none⟩ ∨ w.heap.size ≤ g') := by
 have hvs : ∀ j v, [Value.int .i64 x][j]? = some v → w.cell? ⟨vb, 0 + j, none⟩ = some v := by
  intro j v hj
  rw [Nat.zero_add, hv.cell j]
  simpa using hj
 have h1v : ∀ v ∈ [Value.int .i64 x], v.oneCell' = true := by simp [Value.oneCell']
 have h1c : ∀ v ∈ zs.map (Value.int .i64), v.oneCell' = true := by simp [Value.oneCell']
 have hml : maxLen = 9223372036854775807 ∨ maxLen ≤ 9223372036854775807 := by unfold maxLen; omega
 have zc : (Value.int .i64 0).cells = #[Value.int .i64 0] := rfl
 have zero : ∀ q, (Builtin.zeroCells (Value.int .i64 0).cells q).toList = List.replicate q (Value.int .i64 0) := fun q => by
  refine List.ext_getElem (by simp [Builtin.zeroCells, zc]) fun i h1 h2 => ?_
  simp [Builtin.zeroCells, zc, Nat.mod_one]
 rcases h.2 with ⟨e, h0⟩ | ⟨g, cap, cur, e, hBg, hr, hnc, hcm, hsz, htk⟩
 ·have hz : zs = [] := List.length_eq_zero_iff.1 h0
  subst hz
  simp only [Value.slice.injEq] at e
  obtain ⟨rfl, _, rfl⟩ := e
  obtain rfl : k = 0 := by simp at hk; exact hk
  refine (Any2.slices_Insert_int_end_grow Tryz.laysNm221 none 0 0 vb 0 1 1 [] [.int .i64 x] w (by omega) (by omega) (by omega) (by omega) rfl rfl (fun _ => rfl) (fun _ e => by cases e) hvs h1v).mono ?_
  rintro e w' ⟨rfl, rfl⟩
  have hge := grownCap_ge w (0 + 1) 0 3
  refine ⟨w.heap.size, _, rfl, own_of_row (Row.new w.drew _ _) hB ?_ hge (grownCap_le_maxLen w (0 + 1) 0 3 (by unfold maxLen; omega)) ?_, (Trn.drew w _).trans (Trn.alloc _ _ _), .inr (Nat.le_refl _)⟩
  ·have hz := zero (grownCap w (0 + 1) 0 3 - (0 + 1))
   have hs : (Builtin.zeroCells (Value.int .i64 0).cells (grownCap w (0 + 1) 0 3 - (0 + 1))).size = grownCap w (0 + 1) 0 3 - (0 + 1) := by rw [← Array.length_toList, hz, List.length_replicate]
   rw [Array.size_append]
   show 1 + (Builtin.zeroCells (Value.int .i64 0).cells (grownCap w (0 + 1) 0 3 - (0 + 1))).size = grownCap w (0 + 1) 0 3
   rw [hs]
   omega
  ·rw [Array.toList_append]
   rfl
 ·simp only [Value.slice.injEq] at e
  obtain ⟨rfl, _, rfl⟩ := e
  have hcur : cur.size = c := by omega
  rw [Nat.mul_one] at htk
  have hL : cur.toList.length = c := by rw [Array.length_toList]; exact hcur
  have hcs : ∀ j v, (zs.map (Value.int .i64))[j]? = some v → w.cell? ⟨g, 0 + j, none⟩ = some v := by
   intro j v hj
   have hj' : j < zs.length := by have := (List.getElem?_eq_some_iff.1 hj).1; simpa using this
   rw [Nat.zero_add, World.ownsRow.cellAt h j (by omega)]
   exact hj
  have some_at : ∀ j, j < c → (w.cell? ⟨g, j, none⟩).isSome = true := fun j hj => by
   rw [show w.cell? ⟨g, j, none⟩ = cur[j]? from Row.cell (g := g) (t := 3) (cs := cur) hr j]
   simp [hcur, hj]
  have hfz : ∀ j, w.frozen? ⟨g, j, none⟩ = false := fun j => Row.free (g := g) (t := 3) (cs := cur) hr j
  by_cases hke : k = zs.length
  ·subst hke
   have ez : zs.take zs.length ++ x :: zs.drop zs.length = zs ++ [x] := by simp
   rw [ez]
   by_cases hroom : zs.length + 1 ≤ c
   ·refine (Any2.slices_Insert_int_end_room Tryz.laysNm221 g 0 zs.length c vb 0 1 1 [.int .i64 x] w (by omega) hroom (by omega) rfl (fun j hj => by rw [Nat.zero_add]; exact some_at _ (by omega)) (fun j _ => hfz _) hvs h1v).mono ?_
    rintro e w' ⟨rfl, rfl⟩
    have hR := rowSets [Value.int .i64 x] (0 + zs.length) w cur hr (by simp; omega)
    refine ⟨g, c, rfl, own_of_row hR hBg ?_ hroom hcm ?_, Trn.sets (F := fun y => (some ⟨g, 0, none⟩ : Option Addr) = some ⟨y, 0, none⟩) rfl _ _ _, .inl rfl⟩
    ·simp [hL]; omega
    ·have e1 : cur.toList.take (0 + zs.length) = zs.map (Value.int .i64) := by rw [Nat.zero_add]; exact htk
     show List.take (zs.length + 1) (cur.toList.take (0 + zs.length) ++ [Value.int .i64 x] ++ cur.toList.drop (0 + zs.length + 1)) = _
     rw [e1, List.take_left' (by simp)]
     simp
   ·have hcc : c = zs.length := by omega
    refine (Any2.slices_Insert_int_end_grow Tryz.laysNm221 (some ⟨g, 0, none⟩) zs.length c vb 0 1 1 (zs.map (Value.int .i64)) [.int .i64 x] w (by omega) (by omega) (by omega) (by omega) (by simp) rfl (fun e => by cases e) (fun b e j v hj => by cases e; rw [Addr.add_lit]; exact hcs j v hj) hvs h1v).mono ?_
    rintro e w' ⟨rfl, rfl⟩
    have hge := grownCap_ge w (zs.length + 1) c 3
    refine ⟨w.heap.size, _, rfl, own_of_row (Row.new w.drew _ _) hB ?_ hge (grownCap_le_maxLen w (zs.length + 1) c 3 (by unfold maxLen; omega)) ?_, (Trn.drew w _).trans (Trn.alloc _ _ _), .inr (Nat.le_refl _)⟩
    ·have hz := zero (grownCap w (zs.length + 1) c 3 - (zs.length + 1))
     have hs : (Builtin.zeroCells (Value.int .i64 0).cells (grownCap w (zs.length + 1) c 3 - (zs.length + 1))).size = grownCap w (zs.length + 1) c 3 - (zs.length + 1) := by rw [← Array.length_toList, hz, List.length_replicate]
     rw [Array.size_append]
     have h2 : (zs.map (Value.int .i64) ++ [Value.int .i64 x]).toArray.size = zs.length + 1 := by simp
     rw [h2]
     show zs.length + 1 + (Builtin.zeroCells (Value.int .i64 0).cells (grownCap w (zs.length + 1) c 3 - (zs.length + 1))).size = grownCap w (zs.length + 1) c 3
     rw [hs]
     omega
    ·rw [Array.toList_append, List.map_append]
     exact List.take_left' (by simp)
  ·have hkl : k < zs.length := by omega
   have em : (zs.take k ++ x :: zs.drop k).map (Value.int .i64) = (zs.map (Value.int .i64)).take k ++ Value.int .i64 x :: (zs.map (Value.int .i64)).drop k := by simp [List.map_take, List.map_drop]
   rw [em]
   by_cases hroom : zs.length + 1 ≤ c
   ·refine (Any2.slices_Insert_int_shift Tryz.laysNm221 g 0 zs.length c k vb 0 1 1 (zs.map (Value.int .i64)) [.int .i64 x] w hkl (by omega) hroom (by omega) (hne _ rfl) (by simp) rfl hcs (fun j hj => by rw [Nat.zero_add]; exact some_at _ (by omega)) (fun j _ => hfz _) hvs h1c h1v 3 3 1 c (by simp [World.shape?, show w.heap[vb]? = some (.cells #[.int .i64 x] 3 (0, 0)) from hv]) (by simp [World.shape?, hr, hcur]) (by omega) (hv.free 0) (hv.free 1)).mono ?_
    rintro e w' ⟨rfl, rfl⟩
    rw [Nat.zero_add, Nat.zero_add]
    obtain ⟨q1, q2⟩ := shift_list cur.toList (zs.map (Value.int .i64)) (Value.int .i64 x) k zs.length htk (by omega) hkl
    have hdl : ((zs.map (Value.int .i64)).drop k).length = zs.length - k := by simp
    have hR1 := rowSets ((zs.map (Value.int .i64)).drop k) (k + 1) w.drew cur hr (by rw [hdl]; omega)
    have hR2 := rowSets [Value.int .i64 x] k _ _ hR1 (by rw [← Array.length_toList]; simp [List.length_take, List.length_drop, hL]; omega)
    refine ⟨g, c, rfl, own_of_row hR2 hBg ?_ hroom hcm ?_, ((Trn.drew w _).trans (Trn.sets (F := fun y => (some ⟨g, 0, none⟩ : Option Addr) = some ⟨y, 0, none⟩) rfl _ _ _)).trans (Trn.sets (F := fun y => (some ⟨g, 0, none⟩ : Option Addr) = some ⟨y, 0, none⟩) rfl _ _ _), .inl rfl⟩
    ·rw [← Array.length_toList]
     exact q2.trans hL
    ·exact q1
   ·have hcc : c = zs.length := by omega
    refine (Any2.slices_Insert_int_grow Tryz.laysNm221 g 0 zs.length c k vb 0 1 1 (zs.map (Value.int .i64)) [.int .i64 x] w hkl (by omega) (by omega) (by omega) (by omega) (by simp) rfl hcs hvs h1c h1v).mono ?_
    rintro e w' ⟨rfl, rfl⟩
    have hge := grownCap_ge w (zs.length + 1) c 3
    obtain ⟨q1, q2, q3⟩ := grow_list (zs.map (Value.int .i64)) (Value.int .i64 x) (Value.int .i64 0) k zs.length (grownCap w (zs.length + 1) c 3) (by simp) hkl _ rfl hge
    have eA : ((zs.map (Value.int .i64)).take k).toArray ++ Builtin.zeroCells (Value.int .i64 0).cells (zs.length + 1 - k) ++ Builtin.zeroCells (Value.int .i64 0).cells (grownCap w (zs.length + 1) c 3 - (zs.length + 1)) = ((zs.map (Value.int .i64)).take k ++ List.replicate (zs.length + 1 - k) (Value.int .i64 0) ++ List.replicate (grownCap w (zs.length + 1) c 3 - (zs.length + 1)) (Value.int .i64 0)).toArray := by
     apply Array.ext'
     rw [Array.toList_append, Array.toList_append, zero, zero]
    have hR0 := Row.new w (((zs.map (Value.int .i64)).take k).toArray ++ Builtin.zeroCells (Value.int .i64 0).cells (zs.length + 1 - k) ++ Builtin.zeroCells (Value.int .i64 0).cells (grownCap w (zs.length + 1) c 3 - (zs.length + 1))) 3
    have hR1 := rowSets [Value.int .i64 x] k _ _ hR0.drew (by rw [eA, ← Array.length_toList, List.toList_toArray, q3]; simp; omega)
    have hdl : ((zs.map (Value.int .i64)).drop k).length = zs.length - k := by simp
    have hR2 := rowSets ((zs.map (Value.int .i64)).drop k) (k + 1) _ _ hR1.drew (by rw [← Array.length_toList, List.toList_toArray, hdl, eA]; simp [List.length_take, List.length_drop]; omega)
    refine ⟨w.heap.size, _, rfl, own_of_row hR2 hB ?_ hge (grownCap_le_maxLen w (zs.length + 1) c 3 (by unfold maxLen; omega)) ?_, ?_, .inr (Nat.le_refl _)⟩
    ·rw [← Array.length_toList, eA]
     exact q2
    ·rw [eA]
     exact q1
    ·have b1 : Below w.heap.size w (w.alloc (.cells (((zs.map (Value.int .i64)).take k).toArray ++ Builtin.zeroCells (Value.int .i64 0).cells (zs.length + 1 - k) ++ Builtin.zeroCells (Value.int .i64 0).cells (grownCap w (zs.length + 1) c 3 - (zs.length + 1))) 3)) := (Below.refl _ _).alloc (Nat.le_refl _) _
     refine Trn.ofBelow _ ?_
     exact (b1.trans ((Trn.drew _ (fun y => y = w.heap.size)).below (fun g e => Nat.le_of_eq e.symm) b1.size)).trans ((((Trn.sets (F := fun y => y = w.heap.size) rfl _ _ _).trans (Trn.drew _ _)).trans (Trn.sets (F := fun y => y = w.heap.size) rfl _ _ _)).below (fun g e => Nat.le_of_eq e.symm) b1.size)
def cntI (zs : List Int) (x : Int) : Nat := zs.countP (· < x)
def putI (zs : List Int) (x : Int) : List Int := if x = -1 ∨ x ∈ zs then zs else zs.take (cntI zs x) ++ x :: zs.drop (cntI zs x)
theorem cntI_le (zs : List Int) (x : Int) : cntI zs x ≤ zs.length := List.countP_le_length
theorem putI_len (zs : List Int) (x : Int) : (putI zs x).length ≤ zs.length + 1 := by
 unfold putI
 have := cntI_le zs x
 split
 ·omega
 ·simp [List.length_take, List.length_drop]
  omega
theorem search_any (a : Option Addr) (c : Nat) (zs : List Int) (x : Int) (w : World) (h : IntsAt w a zs.length zs) (hn : zs.length ≤ 1048576) (hs : zs.Pairwise (· ≤ ·)) :
  Calls Tryz.prog 179 #[.slice a zs.length c, .int .i64 x] w fun e w' => e = .returned (.tuple #[.int .i64 (cntI zs x : Nat), .bool (zs.contains x)]) ∧ ∃ q, w' = w.drewN q := by
 cases zs with
 | nil =>
  go_enter Tryz.func179, Tryz.ntmps179
  go_wp2
  go_loopw [7, 8] (fun vi vj wr => vi = .int .i64 0 ∧ vj = .int .i64 0 ∧ wr = w) (fun _ _ _ => 0)
  case atStart => exact ⟨rfl, rfl, rfl⟩
  case round =>
   obtain ⟨rfl, rfl, hw⟩ := hrel
   obtain rfl := hw.symm
   go_wp2
   go_ret2
   exact ⟨rfl, 0, rfl⟩
 | cons z r =>
  obtain ⟨b, off, rfl, _⟩ := h.2 0 (by simp)
  have hc : ∀ j, j < (z :: r).length → w.cell? ⟨b, off + j, none⟩ = some (.int .i64 ((z :: r).getD j 0)) := fun j hj => by
   obtain ⟨b', off', e, hc⟩ := h.2 j hj
   cases e
   exact hc
  have et : (z :: r).take (z :: r).length = z :: r := List.take_length
  refine (Tryz.slices_BinarySearch_int b off (z :: r).length c (z :: r) x w (Nat.le_refl _) (by omega) hc (by rw [et]; exact hs)).mono ?_
  rintro e w' ⟨rfl, hw⟩
  rw [et]
  exact ⟨rfl, hw⟩
theorem withNode_any (B : Nat) (a : Option Addr) (c : Nat) (zs : List Int) (x : Int) (F : Nat → Prop) (w : World) (h : Ow w B (inD zs) (.slice a zs.length c) F) (hB : B ≤ w.heap.size) (hn : zs.length ≤ 1048576) (hs : zs.Pairwise (· ≤ ·)) :
  Calls Tryz.prog 154 #[.slice a zs.length c, .int .i64 x] w fun e w' => ∃ a' c', e = .returned (.slice a' (putI zs x).length c') ∧ Ow w' B (inD (putI zs x)) (.slice a' (putI zs x).length c') (fun y => F y ∨ w.heap.size ≤ y) ∧ Trn w w' F := by
 obtain ⟨a1, c1, e1, ho, hF⟩ := ints_ow h
 simp only [Value.slice.injEq, true_and] at e1
 obtain ⟨rfl, rfl⟩ := e1
 have KS : Hid _ := search_any a c zs x w (rd_ints.1 h.rd) hn hs
 obtain ⟨k, HK⟩ : ∃ y, Hid (cntI zs x = y) := ⟨_, rfl⟩
 obtain ⟨fd, HFD⟩ : ∃ y, Hid (zs.contains x = y) := ⟨_, rfl⟩
 obtain ⟨N, HN⟩ : ∃ y, Hid (zs.length = y) := ⟨_, rfl⟩
 have KH : Hid (Ow w B (inD zs) (.slice a zs.length c) F) := h
 rw [HK.out, HFD.out, HN.out] at KS
 rw [HN.out]
 clear h
 by_cases hp : x = -1 ∨ x ∈ zs
 ·have ep : Hid (putI zs x = zs) := if_pos hp
  rw [ep.out, HN.out]
  have KZ : Hid (∀ q, Ow (w.drewN q) B (inD zs) (.slice a N c) (fun y => F y ∨ w.heap.size ≤ y) ∧ Trn w (w.drewN q) F) := fun q => ⟨by rw [← HN.out]; exact (KH.out.turned (Trn.drewN w q (fun _ => False)) (fun _ _ h => h)).mono (fun _ h => .inl h), Trn.drewN w q F⟩
  have hd : fd = true ∨ (fd = false ∧ x = -1) := by
   rw [← HFD.out]
   rcases hp with e | e
   ·by_cases hx : x ∈ zs
    ·exact .inl (by simpa using hx)
    ·exact .inr ⟨by simpa using hx, e⟩
   ·exact .inl (by simpa using e)
  rcases hd with rfl | ⟨rfl, rfl⟩
  ·clear hp
   go_enter Tryz.func154, Tryz.ntmps154
   go_wp2_with fail
   refine Calls.mono KS.out ?_
   rintro e w1 ⟨rfl, q, rfl⟩
   go_wp2
   go_ret
   exact ⟨a, c, rfl, (KZ.out q).1, (KZ.out q).2⟩
  ·clear hp
   go_enter Tryz.func154, Tryz.ntmps154
   go_wp2_with fail
   refine Calls.mono KS.out ?_
   rintro e w1 ⟨rfl, q, rfl⟩
   go_wp2
   go_ret
   exact ⟨a, c, rfl, (KZ.out q).1, (KZ.out q).2⟩
 ·have hx1 : ¬ x = -1 := fun e => hp (.inl e)
  have hx2 : x ∉ zs := fun e => hp (.inr e)
  obtain rfl : fd = false := by rw [← HFD.out]; simpa using hx2
  have ep : putI zs x = zs.take k ++ x :: zs.drop k := by rw [← HK.out]; exact if_neg hp
  have hk : k ≤ zs.length := by rw [← HK.out]; exact cntI_le zs x
  obtain ⟨L, HL⟩ : ∃ y, Hid (putI zs x = y) := ⟨_, rfl⟩
  have hl : L.length = N + 1 := by rw [← HL.out, ep, ← HN.out]; simp [List.length_take, List.length_drop]; omega
  rw [HL.out, hl]
  have hxe : (x == -1) = false := by simpa using hx1
  have KI : Hid (∀ q, Calls Tryz.prog 180 #[.slice a N c, .int .i64 (k : Int), .slice (some ⟨w.heap.size, 0, none⟩) 1 1] ((w.drewN q).alloc (.cells #[.int .i64 x] 3)) fun e w' => ∃ g' c', e = .returned (.slice (some ⟨g', 0, none⟩) (N + 1) c') ∧ Ow w' B (inD L) (.slice (some ⟨g', 0, none⟩) (N + 1) c') (fun y => F y ∨ w.heap.size ≤ y) ∧ Trn w w' F) := fun q => by
   have bd : Below w.heap.size w (w.drewN q) := ⟨rfl, rfl, rfl, Nat.le_refl _, fun _ _ => rfl⟩
   have bq : Below w.heap.size w ((w.drewN q).alloc (.cells #[.int .i64 x] 3)) := bd.alloc (Nat.le_refl _) _
   have := ins_any B a zs c x k w.heap.size ((w.drewN q).alloc (.cells #[.int .i64 x] 3)) (ownsRow_below ho bq) (Nat.le_trans hB bq.size) hk hn (Row.new (w.drewN q) _ _) (fun y e => by
    have := (World.ownsRow.lt ho y.block (by rw [e]; rfl)).2
    omega)
   rw [HN.out, ← ep, HL.out] at this
   refine Calls.mono this ?_
   rintro e w' ⟨g', c', rfl, o', t', hg⟩
   refine ⟨g', c', rfl, ?_, (Trn.ofBelow F bq).trans (t'.mono (fun y e => hF _ e))⟩
   rw [← hl] at o' ⊢
   refine ow_ints o' (fun y e => ?_)
   cases e
   rcases hg with hg | hg
   ·exact .inl (hF _ hg)
   ·exact .inr (Nat.le_trans bq.size hg)
  clear hp hx2 ep hk hl ho hF
  go_enter Tryz.func154, Tryz.ntmps154
  go_wp2_with fail
  refine Calls.mono KS.out ?_
  rintro e w1 ⟨rfl, q, rfl⟩
  have KI2 : Hid _ := KI.out q
  clear KI
  go_wp2_with fail
  refine Calls.mono KI2.out ?_
  rintro e w2 ⟨g', c', rfl, o', t'⟩
  go_wp2
  go_ret
  exact ⟨_, c', rfl, o', t'⟩
end Go.Proofs.YtcaejlalnjnifaaGreat
