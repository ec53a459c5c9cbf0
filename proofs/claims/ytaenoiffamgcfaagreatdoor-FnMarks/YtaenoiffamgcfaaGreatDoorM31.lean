import Derived.Test.YtaenoiffamgcfaaGreatDoorM26
import Derived.Test.YtaenoiffamgcfaaGreatDoorM21
import Derived.Test.YtaenoiffamgcfaaGreatDoorM15
import Derived.Test.YtaenoiffamgcfaaGreatDoorM8
import Derived.Shelf.Spec.SlicesInsert
import Derived.Shelf.Spec.SlicesInsertGrow
import Derived.Lib.Overlaps
set_option maxHeartbeats 8000000
set_option maxRecDepth 2000
open Go.ChangeShapes Go.WideShapes Go.ChangeAt Go.RowKit
namespace Go.Proofs.YtaenoiffamgcfaaGreatDoor
theorem slice_someM (x : Addr) (n c : Nat) (w : World) : Sem.run Tryz.prog (binOp BinOp.eql 24 (.slice (some x) n c) (.slice none 0 0)) w = .ok (.bool false) w := by rfl
theorem cloneM_any (b n cap : Nat) (M : Nat → Ma) (w : World) (hr : ∀ j u, (maL n M)[j]? = some u → w.cell? ⟨b, j, none⟩ = some u) (hbl : b < w.heap.size) (hn : n ≤ 1000) :
  Calls Tryz.prog 23 #[.slice (some ⟨b, 0, none⟩) n cap] w fun e w' => ∃ g c, e = .returned (.slice (some ⟨g, 0, none⟩) n c) ∧ w'.ownsRow w.heap.size 29 4 (.slice (some ⟨g, 0, none⟩) n c) n (maL n M) ∧ Below w.heap.size w w' := by
 obtain ⟨w1, HW1⟩ : ∃ q, Hid (q = w.alloc (.cells #[] 29)) := ⟨_, rfl⟩
 obtain ⟨g0, HG0⟩ : ∃ q, Hid (q = w.heap.size) := ⟨_, rfl⟩
 have hb1 : Below w.heap.size w w1 := by rw [HW1.out]; exact (Below.refl _ _).alloc (Nat.le_refl _) _
 have hs1 : w.heap.size ≤ w1.heap.size := hb1.size
 have KO0 : Hid (w1.ownsRow w.heap.size 29 4 (.slice (some ⟨g0, 0, none⟩) 0 0) 0 []) := by
  show World.ownsRow _ _ _ _ _ _ _
  rw [HW1.out, HG0.out]
  exact World.ownsRow_lit w #[] 0 (Nat.le_refl _) (by unfold maxLen; omega) rfl
 have KC1 : Hid (∀ j u, (maL n M)[j]? = some u → w1.cell? ((⟨b, 0, none⟩ : Addr).add j) = some u) := fun j u hu => by
  rw [Addr.add_mid, Nat.zero_add, hb1.cell (p := ⟨b, j, none⟩) hbl]
  exact hr j u hu
 have hl1 : (maL n M).length = n * 4 := by rw [maL_len, Nat.mul_comm]
 have HOC : Hid (∀ u ∈ maL n M, u.oneCell' = true) := fun u hu => one_cells hu
 have KB1 : Hid (Below w.heap.size w w1) := hb1
 have hsm := slice_someM
 clear hb1 hr hbl
 go_enter Tryz.func23, Tryz.ntmps23
 go_wp2_with (at_builtin; rw [← HW1.out, ← HG0.out]; refine (show True → _ from ?_) trivial)
 intro _
 refine wpList_appM (by rfl) _ _ (by rfl) w.heap.size g0 0 0 [] (by rfl) KO0.out ⟨b, 0, none⟩ n cap (maL n M) (by rfl) hl1 KC1.out HOC.out (by omega) hs1 ?_
 intro g1 c1 w2 own2 hg2 hat2
 rw [Nat.zero_add, List.nil_append] at own2
 rw [Nat.zero_add]
 have KO2 : Hid _ := own2
 have KB2 : Hid (Below w.heap.size w w2) := KB1.out.grown hg2 hs1 (fun q e => by cases e; rw [HG0.out]; exact Nat.le_refl _)
 clear own2 hg2 hat2
 go_wp2
 go_ret
 exact ⟨g1, c1, rfl, KO2.out, KB2.out⟩
theorem indexM_any (fn : Nat) (hfn : fn = 42 ∨ fn = 44) (pb : Ma → Bool) (b n cap z R : Nat) (M : Nat → Ma) (w : World) (hr : ∀ i, i < n → w.rangeAt b (i * 4) (maC (M i))) (hbl : b < w.heap.size) (hn : n ≤ 1000) (hz : z ≤ n) (h1 : ∀ j, j < z → pb (M j) = false) (h2 : z < n → pb (M z) = true)
  (HF : ∀ i wr, i < n → Below w.heap.size w wr → Calls Tryz.prog fn #[.agg (maC (M i)).toArray, .pointer (some ⟨R, 0, none⟩)] wr fun e w' => e = .returned (.bool (pb (M i))) ∧ Below wr.heap.size wr w') :
  Calls Tryz.prog 41 #[.slice (some ⟨b, 0, none⟩) n cap, .func (.func fn) #[] #[.pointer (some ⟨R, 0, none⟩)]] w fun e w' => e = .returned (.int .i64 (if z < n then (z : Int) else -1)) ∧ Below w.heap.size w w' := by
 have KM : Hid (∀ i, i < n → w.rangeAt b (i * 4) (maC (M i))) := hr
 have HBL : Hid (b < w.heap.size) := hbl
 have K1 : Hid (∀ j, j < z → pb (M j) = false) := h1
 have K2 : Hid (z < n → pb (M z) = true) := h2
 have KF : Hid (∀ i wr, i < n → Below w.heap.size w wr → Calls Tryz.prog fn #[.agg (maC (M i)).toArray, .pointer (some ⟨R, 0, none⟩)] wr fun e w' => e = .returned (.bool (pb (M i))) ∧ Below wr.heap.size wr w') := HF
 have HZ : Hid (z ≤ n) := hz
 clear hr hbl h1 h2 HF hz
 obtain ⟨r9, HR9⟩ : ∃ q, Hid ((if z < n then (z : Int) else -1) = q) := ⟨_, rfl⟩
 rw [HR9.out]
 rcases hfn with rfl | rfl
 all_goals
  go_enter Tryz.func41, Tryz.ntmps41
  go_wp2
  go_loopw [8] (fun vi wr => ∃ k : Nat, Hid (k ≤ z) ∧ vi = .int .i64 (k : Int) ∧ Below w.heap.size w wr) (fun vi _ => n - (intOf vi).toNat)
  case atStart => exact ⟨0, Nat.zero_le _, rfl, Below.refl _ _⟩
  case round =>
   obtain ⟨k, hk, rfl, hbel⟩ := hrel
   have KB : Hid (Below w.heap.size w wr) := hbel
   clear hbel
   by_cases hlt : k < n
   ·have hki : (k : Int) < (n : Int) := by omega
    have HC := KF.out k wr hlt KB.out
    have R1 : Hid (wr.rangeAt b (k * 4) (maC (M k))) := fun j v hv => (KB.out.cell (p := ⟨b, k * 4 + j, none⟩) HBL.out).trans (KM.out k hlt j v hv)
    by_cases hkz : k < z
    ·rw [K1.out k hkz] at HC
     have KC : Hid _ := HC
     have HK1 : Hid (k < z) := hkz
     clear HC hkz hk
     go_wp2_with (refine wpList_load_mid (by rfl) 29 _ (by rfl) b (k * 4) (by rfl) (maC (M k)) _ ?_ Tryz.underlying29 (by rfl) Tryz.infoMa ?_; exact R1.out)
     refine Calls.mono KC.out ?_
     rintro e w1 ⟨rfl, b1⟩
     have KB1 : Hid (Below w.heap.size w w1) := below2 KB.out b1
     clear b1 KC R1
     go_wp2
     go_roundw
     case rel => exact ⟨k + 1, HK1.out, by go_num, KB1.out⟩
     case measure => simp [intOf]; omega
    ·have e9 : k = z := by have := hk.out; omega
     subst e9
     have HI : Hid (r9 = (k : Int)) := by show _ = _; rw [← HR9.out, if_pos hlt]
     rw [K2.out hlt] at HC
     have KC : Hid _ := HC
     clear HC hkz hk
     go_wp2_with (refine wpList_load_mid (by rfl) 29 _ (by rfl) b (k * 4) (by rfl) (maC (M k)) _ ?_ Tryz.underlying29 (by rfl) Tryz.infoMa ?_; exact R1.out)
     refine Calls.mono KC.out ?_
     rintro e w1 ⟨rfl, b1⟩
     have KB1 : Hid (Below w.heap.size w w1) := below2 KB.out b1
     clear b1 KC R1
     go_wp2
     go_ret
     exact ⟨ret_int HI.out.symm, KB1.out⟩
   ·have e1 : k = n := by have := hk.out; have := HZ.out; omega
    subst e1
    have e2 : z = k := by have := hk.out; have := HZ.out; omega
    have HI : Hid (r9 = -1) := by show _ = _; rw [← HR9.out, if_neg (by omega)]
    clear e2 hk
    go_wp2
    go_ret
    exact ⟨ret_int HI.out.symm, KB.out⟩
theorem sameFn_any (d : Ma) (R : Nat) (e : Ma) (w : World) (hR : w.cell? ⟨R, 0, none⟩ = some (.int .i64 e.nd)) :
  Calls Tryz.prog 42 #[.agg (maC d).toArray, .pointer (some ⟨R, 0, none⟩)] w fun r w' => r = .returned (.bool (decide (d.nd = e.nd))) ∧ Below w.heap.size w w' := by
 have lR := block_lt_of_cell hR
 obtain ⟨a, b, c, f⟩ := d
 obtain ⟨x, e1, e2, e3⟩ := e
 have hR' : w.cell? ⟨R, 0, none⟩ = some (.int .i64 x) := hR
 clear hR
 show Calls _ _ #[.agg #[.int .i64 a, .int .i64 b, .int .i64 c, .int .i64 f], _] w _
 have KB : Hid (Below w.heap.size w (w.alloc (.cells #[.int .i64 a, .int .i64 b, .int .i64 c, .int .i64 f] 29))) := (Below.refl _ _).alloc (Nat.le_refl _) _
 have HD : Hid ((a == x) = decide (a = x)) := by show _ = _; by_cases h : a = x <;> simp [h]
 obtain ⟨q, HQ⟩ : ∃ q, Hid ((a == x) = q) := ⟨_, rfl⟩
 have hq := HQ.out
 show Calls _ _ _ _ fun r w' => r = .returned (.bool (decide (a = x))) ∧ _
 rw [← HD.out, hq]
 go_enter Tryz.func42, Tryz.ntmps42
 go_wp2
 go_ret
 exact ⟨rfl, KB.out⟩
theorem overFn_any (d : Ma) (R : Nat) (e : Ma) (w : World) (hR : w.cell? ⟨R, 0, none⟩ = some (.int .i64 e.nd)) :
  Calls Tryz.prog 44 #[.agg (maC d).toArray, .pointer (some ⟨R, 0, none⟩)] w fun r w' => r = .returned (.bool (decide (e.nd < d.nd))) ∧ Below w.heap.size w w' := by
 have lR := block_lt_of_cell hR
 obtain ⟨a, b, c, f⟩ := d
 obtain ⟨x, e1, e2, e3⟩ := e
 have hR' : w.cell? ⟨R, 0, none⟩ = some (.int .i64 x) := hR
 clear hR
 show Calls _ _ #[.agg #[.int .i64 a, .int .i64 b, .int .i64 c, .int .i64 f], _] w _
 have KB : Hid (Below w.heap.size w (w.alloc (.cells #[.int .i64 a, .int .i64 b, .int .i64 c, .int .i64 f] 29))) := (Below.refl _ _).alloc (Nat.le_refl _) _
 by_cases h : x < a
 ·have HD : Hid (decide (x < a) = true) := decide_eq_true h
  show Calls _ _ _ _ fun r w' => r = .returned (.bool (decide (x < a))) ∧ _
  rw [HD.out]
  go_enter Tryz.func44, Tryz.ntmps44
  go_wp2
  go_ret
  exact ⟨rfl, KB.out⟩
 ·have HD : Hid (decide (x < a) = false) := decide_eq_false h
  show Calls _ _ _ _ fun r w' => r = .returned (.bool (decide (x < a))) ∧ _
  rw [HD.out]
  go_enter Tryz.func44, Tryz.ntmps44
  go_wp2
  go_ret
  exact ⟨rfl, KB.out⟩
def mk1 (x : Int) (good : Bool) : Ma := if good then ⟨x, 1, 0, 0⟩ else ⟨x, 0, 1, 1⟩
theorem markOf_any (x : Int) (good : Bool) (w : World) : Calls Tryz.prog 24 #[.int .i64 x, .bool good] w fun r w' => r = .returned (.agg (maC (mk1 x good)).toArray) ∧ Below w.heap.size w w' := by
 have KB : Hid (∀ cs, Below w.heap.size w (w.alloc (.cells cs 29))) := fun cs => (Below.refl _ _).alloc (Nat.le_refl _) _
 cases good with
 | true =>
  go_enter Tryz.func24, Tryz.ntmps24
  go_wp2
  exact bodyPost_ret (v := .agg _) (results_cell_row Tryz.results24 _ _ w.heap.size 29 _ (0, 0) _ (by rfl) (Row.new w _ _) Tryz.underlying29 (by rfl) Tryz.infoMa) rfl ⟨rfl, KB.out _⟩
 | false =>
  go_enter Tryz.func24, Tryz.ntmps24
  go_wp2
  exact bodyPost_ret (v := .agg _) (results_cell_row Tryz.results24 _ _ w.heap.size 29 _ (0, 0) _ (by rfl) (Row.new w _ _) Tryz.underlying29 (by rfl) Tryz.infoMa) rfl ⟨rfl, KB.out _⟩
theorem then_any (d : Ma) (x : Int) (good : Bool) (w : World) (h : (0 ≤ d.gd ∧ d.gd ≤ 1000) ∧ (0 ≤ d.bd ∧ d.bd ≤ 1000) ∧ (0 ≤ d.ro ∧ d.ro ≤ 1000)) : Calls Tryz.prog 43 #[.agg (maC d).toArray, .agg (maC (mk1 x good)).toArray] w fun r w' => r = .returned (.agg (maC (mkU good d)).toArray) ∧ Below w.heap.size w w' := by
 obtain ⟨a, b, c, f⟩ := d
 obtain ⟨⟨h1, h2⟩, ⟨h3, h4⟩, h5, h6⟩ := h
 simp only at h1 h2 h3 h4 h5 h6
 show Calls _ _ #[.agg #[.int .i64 a, .int .i64 b, .int .i64 c, .int .i64 f], _] w _
 have KB : Hid (∀ c1 c2 c3, Below w.heap.size w (((w.alloc (.cells c1 29)).alloc (.cells c2 29)).alloc (.cells c3 29))) := fun c1 c2 c3 => (((Below.refl _ _).alloc (Nat.le_refl _) _).alloc (by simp) _).alloc (by simp; omega) _
 have KR : Hid (∀ c1 c2 c3, Row (((w.alloc (.cells c1 29)).alloc (.cells c2 29)).alloc (.cells c3 29)) (w.heap.size + 1 + 1) 29 c3) := fun c1 c2 c3 => by
  have e : ((w.alloc (.cells c1 29)).alloc (.cells c2 29)).heap.size = w.heap.size + 1 + 1 := by simp
  rw [← e]
  exact Row.new _ _ _
 cases good with
 | true =>
  show Calls _ _ #[_, .agg #[.int .i64 x, .int .i64 1, .int .i64 0, .int .i64 0]] w _
  go_enter Tryz.func43, Tryz.ntmps43
  go_wp2
  exact bodyPost_ret (v := .agg _) (results_cell_row Tryz.results43 _ _ (w.heap.size + 1 + 1) 29 #[.int .i64 a, .int .i64 (b + 1), .int .i64 c, .int .i64 0] (0, 0) _ (by rfl) (KR.out _ _ _) Tryz.underlying29 (by rfl) Tryz.infoMa) rfl ⟨rfl, KB.out _ _ _⟩
 | false =>
  show Calls _ _ #[_, .agg #[.int .i64 x, .int .i64 0, .int .i64 1, .int .i64 1]] w _
  go_enter Tryz.func43, Tryz.ntmps43
  go_wp2
  exact bodyPost_ret (v := .agg _) (results_cell_row Tryz.results43 _ _ (w.heap.size + 1 + 1) 29 #[.int .i64 a, .int .i64 b, .int .i64 (c + 1), .int .i64 (f + 1)] (0, 0) _ (by rfl) (KR.out _ _ _) Tryz.underlying29 (by rfl) Tryz.infoMa) rfl ⟨rfl, KB.out _ _ _⟩
theorem shift_listX {α : Type} (L Z X : List α) (p q N : Nat) (hX : X.length = q) (hZ : L.take N = Z) (hN : N + q ≤ L.length) (hp : p ≤ N) : ((L.take (p + q) ++ Z.drop p ++ L.drop (p + q + (Z.drop p).length)).take p ++ X ++ (L.take (p + q) ++ Z.drop p ++ L.drop (p + q + (Z.drop p).length)).drop (p + X.length)).take (N + q) = Z.take p ++ X ++ Z.drop p ∧ ((L.take (p + q) ++ Z.drop p ++ L.drop (p + q + (Z.drop p).length)).take p ++ X ++ (L.take (p + q) ++ Z.drop p ++ L.drop (p + q + (Z.drop p).length)).drop (p + X.length)).length = L.length := by
 have hl : Z.length = N := by rw [← hZ, List.length_take]; omega
 have h0 : (Z.drop p).length = N - p := by rw [List.length_drop, hl]
 have hl1 : (L.take (p + q)).length = p + q := by rw [List.length_take]; omega
 have h1 : (L.take (p + q) ++ Z.drop p ++ L.drop (p + q + (Z.drop p).length)).take p = Z.take p := by
  rw [List.append_assoc, List.take_append_of_le_length (by omega), List.take_take, ← hZ, List.take_take]
  congr 1
  omega
 have h2 : (L.take (p + q) ++ Z.drop p ++ L.drop (p + q + (Z.drop p).length)).drop (p + X.length) = Z.drop p ++ L.drop (N + q) := by
  rw [hX, List.append_assoc, List.drop_left' hl1, h0]
  congr 2
  omega
 rw [h1, h2]
 constructor
 ·have e : Z.take p ++ X ++ (Z.drop p ++ L.drop (N + q)) = (Z.take p ++ X ++ Z.drop p) ++ L.drop (N + q) := by simp
  rw [e, List.take_left' (by simp [List.length_take, List.length_drop, hl, hX]; omega)]
 ·simp [List.length_take, List.length_drop, hl, hX]
  omega
theorem grow_listX {α : Type} (Z X z1 z2 : List α) (p q N c : Nat) (hX : X.length = q) (hl : Z.length = N) (hp : p ≤ N) (A : List α) (hA : A = Z.take p ++ z1 ++ z2) (h1l : z1.length = N + q - p) (h2l : z2.length = c - (N + q)) (hc : N + q ≤ c) : ((A.take p ++ X ++ A.drop (p + X.length)).take (p + q) ++ Z.drop p ++ (A.take p ++ X ++ A.drop (p + X.length)).drop (p + q + (Z.drop p).length)).take (N + q) = Z.take p ++ X ++ Z.drop p ∧ ((A.take p ++ X ++ A.drop (p + X.length)).take (p + q) ++ Z.drop p ++ (A.take p ++ X ++ A.drop (p + X.length)).drop (p + q + (Z.drop p).length)).length = c ∧ A.length = c := by
 have h0 : (Z.drop p).length = N - p := by rw [List.length_drop, hl]
 have ht : (Z.take p).length = p := by rw [List.length_take]; omega
 have hAl : A.length = c := by rw [hA]; simp [ht, h1l, h2l]; omega
 have h1 : A.take p = Z.take p := by rw [hA, List.append_assoc, List.take_left' ht]
 have h2 : (A.take p ++ X ++ A.drop (p + X.length)).take (p + q) = Z.take p ++ X := by
  rw [h1, List.take_left' (by simp [ht, hX])]
 have h3 : (A.take p ++ X ++ A.drop (p + X.length)).drop (p + q + (Z.drop p).length) = A.drop (N + q) := by
  rw [h1, ← List.drop_drop, List.drop_left' (by simp [ht, hX]), List.drop_drop, h0, hX]
  congr 1
  omega
 rw [h2, h3]
 refine ⟨?_, ?_, hAl⟩
 ·rw [List.take_left' (by simp [ht, h0, hX]; omega)]
 ·simp [ht, h0, hAl, hX]
  omega
theorem rowSetsX {g : Nat} {t : TypeId} : ∀ (vs : List Value) (o : Nat) (w : World) (cs : Array Value), Row w g t cs → o + vs.length ≤ cs.size → Row (w.setCells g o vs) g t (cs.toList.take o ++ vs ++ cs.toList.drop (o + vs.length)).toArray
 | [], o, w, cs, h, _ => by
  rw [World.setCells]
  simpa using h
 | v :: r, o, w, cs, h, hl => by
  rw [World.setCells]
  have hl' : o + (r.length + 1) ≤ cs.size := hl
  have h1 := rowSetsX r (o + 1) _ _ (h.set o v) (by rw [Array.size_setIfInBounds]; omega)
  have hlt : o < cs.toList.length := by rw [Array.length_toList]; omega
  have e : (cs.setIfInBounds o v).toList = cs.toList.take o ++ v :: cs.toList.drop (o + 1) := by rw [Array.toList_setIfInBounds, List.set_eq_take_append_cons_drop, if_pos hlt]
  have hlo : (cs.toList.take o).length = o := by rw [List.length_take]; omega
  have e1 : (cs.setIfInBounds o v).toList.take (o + 1) = cs.toList.take o ++ [v] := by
   rw [e, List.take_append, hlo, List.take_of_length_le (by omega)]
   simp
  have e2 : (cs.setIfInBounds o v).toList.drop (o + 1 + r.length) = cs.toList.drop (o + (r.length + 1)) := by
   rw [Array.toList_setIfInBounds, List.drop_set, if_pos (by omega)]
   congr 1
   omega
  rw [e1, e2] at h1
  have e3 : cs.toList.take o ++ v :: r ++ cs.toList.drop (o + (v :: r).length) = cs.toList.take o ++ [v] ++ r ++ cs.toList.drop (o + (r.length + 1)) := by simp
  rw [e3]
  exact h1
theorem own_of_row4 {w : World} {B g t n cap : Nat} {cs : Array Value} {xs : List Value} (h : Row w g t cs) (hB : B ≤ g) (hc : cs.size = cap * 4) (hn : n ≤ cap) (hm : cap ≤ maxLen) (hx : cs.toList.take (n * 4) = xs) : w.ownsRow B t 4 (.slice (some ⟨g, 0, none⟩) n cap) n xs :=
 ⟨by rw [← hx, List.length_take, Array.length_toList]; omega, .inr ⟨g, cap, cs, rfl, hB, h, hn, hm, hc, hx⟩⟩
theorem Below.setsX {B g : Nat} {w0 : World} (hg : B ≤ g) : ∀ (vs : List Value) (o : Nat) (w : World), Below B w0 w → Below B w0 (w.setCells g o vs)
 | [], _, _, h => by rw [World.setCells]; exact h
 | v :: r, o, w, h => by
  rw [World.setCells]
  exact Below.setsX hg r (o + 1) _ (h.setCell (p := ⟨g, o, none⟩) hg v)
theorem insM_end (B g n c vb : Nat) (xs : List Value) (d : Ma) (w0 w : World) (h : w.ownsRow B 29 4 (.slice (some ⟨g, 0, none⟩) n c) n xs) (hB : B ≤ w.heap.size) (hb : Below B w0 w) (hn : n ≤ 1000) (hv : Row w vb 29 (maC d).toArray) :
  Calls Tryz.prog 45 #[.slice (some ⟨g, 0, none⟩) n c, .int .i64 (n : Int), .slice (some ⟨vb, 0, none⟩) 1 1] w fun e w' => ∃ g' c', e = .returned (.slice (some ⟨g', 0, none⟩) (n + 1) c') ∧ w'.ownsRow B 29 4 (.slice (some ⟨g', 0, none⟩) (n + 1) c') (n + 1) (xs ++ maC d) ∧ Below B w0 w' := by
 have hnc : n ≤ c := by
  rcases h.2 with ⟨e, _⟩ | ⟨_, cap, cur, e, _, _, hnc, _, _, _⟩
  ·cases e
  ·cases e; exact hnc
 have hcm : c ≤ 9223372036854775807 := by
  rcases h.2 with ⟨e, _⟩ | ⟨_, cap, cur, e, _, _, _, hcm, _, _⟩
  ·cases e
  ·cases e; unfold maxLen at hcm; omega
 have hg := World.ownsRow.lt h g rfl
 have KO : Hid (w.ownsRow B 29 4 (.slice (some ⟨g, 0, none⟩) n c) n xs) := h
 have KV : Hid (∀ j u, (maC d)[j]? = some u → w.cell? ((⟨vb, 0, none⟩ : Addr).add j) = some u) := fun j u hu => by
  rw [Addr.add_mid, Nat.zero_add, hv.cell j]
  simpa using hu
 have KB : Hid (Below B w0 w) := hb
 have HL : Hid (B ≤ g) := hg.1
 clear h hv hb hg
 by_cases hcn : c = n
 ·subst hcn
  go_enter Tryz.func45, Tryz.ntmps45
  go_wp2_with (at_builtin; refine (show True → _ from ?_) trivial)
  intro _
  refine wpList_appM (by rfl) _ _ (by rfl) B g c c xs (by rfl) KO.out ⟨vb, 0, none⟩ 1 1 (maC d) (by rfl) (by rfl) KV.out (by simp [maC, Value.oneCell']) (by omega) hB ?_
  intro g1 c1 w1 own1 hg1 hat1
  have KO1 : Hid _ := own1
  have KB1 : Hid (Below B w0 w1) := KB.out.grown hg1 hB (fun q e => by cases e; exact HL.out)
  clear own1 hg1 hat1
  go_wp2
  go_ret
  exact ⟨g1, c1, rfl, KO1.out, KB1.out⟩
 ·have hcn' : ¬ (c = n) := hcn
  clear hcn
  go_enter Tryz.func45, Tryz.ntmps45
  go_wp2_with (at_builtin; refine (show True → _ from ?_) trivial)
  intro _
  refine wpList_appM (by rfl) _ _ (by rfl) B g n c xs (by rfl) KO.out ⟨vb, 0, none⟩ 1 1 (maC d) (by rfl) (by rfl) KV.out (by simp [maC, Value.oneCell']) (by omega) hB ?_
  intro g1 c1 w1 own1 hg1 hat1
  have KO1 : Hid _ := own1
  have KB1 : Hid (Below B w0 w1) := KB.out.grown hg1 hB (fun q e => by cases e; exact HL.out)
  clear own1 hg1 hat1
  go_wp2
  go_ret
  exact ⟨g1, c1, rfl, KO1.out, KB1.out⟩
theorem sizeMa (w : World) : (Go.sizeOf 29).run Tryz.prog w = .ok 4 w := by rfl
theorem insM_room (g n c k vb : Nat) (xs : List Value) (cur : Array Value) (d : Ma) (w : World) (hr : Row w g 29 cur) (hsz : cur.size = c * 4) (htk : cur.toList.take (n * 4) = xs) (hk : k < n) (hroom : n + 1 ≤ c) (hn : n ≤ 1000) (h1c : ∀ v ∈ xs, v.oneCell' = true) (hv : Row w vb 29 (maC d).toArray) (hne : vb ≠ g) :
  Calls Tryz.prog 45 #[.slice (some ⟨g, 0, none⟩) n c, .int .i64 (k : Int), .slice (some ⟨vb, 0, none⟩) 1 1] w fun e w' => e = .returned (.slice (some ⟨g, 0, none⟩) (n + 1) c) ∧ w' = (w.drew.setCells g ((k + 1) * 4) (xs.drop (k * 4))).setCells g (k * 4) (maC d) := by
 have hxl : xs.length = n * 4 := by rw [← htk, List.length_take, Array.length_toList]; omega
 have hcs : ∀ j v, xs[j]? = some v → w.cell? ⟨g, j, none⟩ = some v := fun j v hj => by
  have hj' : j < n * 4 := by have := (List.getElem?_eq_some_iff.1 hj).1; omega
  rw [← htk, List.getElem?_take_of_lt hj'] at hj
  rw [hr.cell j, ← hj, Array.getElem?_toList]
 have hsp : ∀ j, j < c * 4 → (w.cell? ⟨g, j, none⟩).isSome = true := fun j hj => by
  rw [hr.cell j]
  simp [hsz, hj]
 have hfz : ∀ j, w.frozen? ⟨g, j, none⟩ = false := fun j => hr.free j
 have hvs : ∀ j v, (maC d)[j]? = some v → w.cell? ⟨vb, j, none⟩ = some v := fun j v hj => by
  rw [hv.cell j]
  simpa using hj
 have h1v : ∀ v ∈ maC d, v.oneCell' = true := by simp [maC, Value.oneCell']
 have hov : ∀ lb cb, (callFunc 73 #[.slice (some ⟨vb, 0, none⟩) 1 1, .slice (some ⟨g, (k + 1) * 4, none⟩) lb cb]).run Tryz.prog w = .ok (.value (.bool false)) w := fun lb cb => by
  rw [run_callFunc_extern Tryz.func73 (by kernel_rfl) (by kernel_rfl) (by kernel_rfl) (e := Extern.SlicesOverlaps.overlaps #[24, 24] #[4]) (by kernel_rfl),
   Lib.run_overlaps_apart w 24 4 29 Tryz.underlying24 4 sizeMa ⟨vb, 0, none⟩ ⟨g, (k + 1) * 4, none⟩ 1 1 lb cb hne 29 29 4 (c * 4) (by simp [World.shape?, show w.heap[vb]? = some (.cells (maC d).toArray 29 (0, 0)) from hv, maC]) (by simp [World.shape?, show w.heap[g]? = some (.cells cur 29 (0, 0)) from hr, hsz]) (by omega) (hv.free 0) (hv.free 4)]
  rfl
 have hdl : (xs.drop (k * 4)).length = (n - k) * 4 := by rw [List.length_drop, hxl]; omega
 have hki : (k : Int) ≠ (n : Int) := by omega
 have hw1 : IntKind.i64.wrap ((k : Int) + 1) = (k : Int) + 1 := by rw [IntKind.wrap_i64]; omega
 have hb1 : (0 : Int) ≤ (k : Int) + 1 := by omega
 have hin : k ≤ n := by omega
 have htn : ((k : Int) + 1).toNat = k + 1 := by omega
 have hb2 : ¬ (c = k + 1) := by omega
 have hb3 : (k : Int) ≤ (n : Int) + 1 := by omega
 have hb4 : ¬ (c = k) := by omega
 have mixed := Tryz.mixed
 have hcp1 : ∀ ty dc sc, (Builtin.copy_ #[24, 24] ty #[.slice (some ⟨g, (k + 1) * 4, none⟩) (n - k) dc, .slice (some ⟨g, k * 4, none⟩) (n + 1 - k) sc]).run Tryz.prog w.drew = .ok (goInt (Nat.min (n + 1 - k) (n - k) : Nat)) (w.drew.setCells g ((k + 1) * 4) (xs.drop (k * 4))) := fun ty dc sc =>
  run_copy_sz (P := Tryz.prog) w.drew _ _ ty 29 g ((k + 1) * 4) (n - k) dc ⟨g, k * 4, none⟩ (n + 1 - k) sc 4 (xs.drop (k * 4)) Tryz.underlying24 Tryz.infoMa (by rw [hdl]; simp only [Nat.min_def]; split <;> omega)
   (fun j v hj => by rw [Addr.add_lit]; exact hcs (k * 4 + j) v (by rwa [List.getElem?_drop] at hj))
   (fun j hj => hsp _ (by omega)) (fun j hj => hfz _) (fun v hv => h1c v (List.mem_of_mem_drop hv))
 obtain ⟨W1, hW1⟩ : ∃ W1, W1 = w.drew.setCells g ((k + 1) * 4) (xs.drop (k * 4)) := ⟨_, rfl⟩
 have hsp1 : ∀ j, j < c * 4 → (W1.cell? ⟨g, j, none⟩).isSome = true := fun j hj => by
  rw [hW1]
  exact isSome_setCells g (xs.drop (k * 4)) ((k + 1) * 4) w.drew (fun i hi => hsp _ (by rw [hdl] at hi; omega)) _ (hsp j hj)
 have hcp2 : ∀ (W : World), (∀ x, W.cell? x = W1.cell? x) → (∀ x, W.frozen? x = W1.frozen? x) → ∀ ty dc, (Builtin.copy_ #[24, 24] ty #[.slice (some ⟨g, k * 4, none⟩) (n + 1 - k) dc, .slice (some ⟨vb, 0, none⟩) 1 1]).run Tryz.prog W = .ok (goInt (Nat.min 1 (n + 1 - k) : Nat)) (W.setCells g (k * 4) (maC d)) := fun W hWc hWf ty dc =>
  run_copy_sz (P := Tryz.prog) W _ _ ty 29 g (k * 4) (n + 1 - k) dc ⟨vb, 0, none⟩ 1 1 4 (maC d) Tryz.underlying24 Tryz.infoMa (by show 4 = _; simp only [Nat.min_def]; split <;> omega)
   (fun j v hj => by
    rw [Addr.add_lit, Nat.zero_add, hWc, hW1, World.cell?_setCells_out g _ _ _ _ (fun h _ => absurd h hne)]
    exact hvs j v hj)
   (fun j hj => by rw [hWc]; exact hsp1 _ (by have hj4 : j < 4 := hj; omega)) (fun j hj => by rw [hWf, hW1, World.frozen?_setCells]; exact hfz _) h1v
 rw [← hW1] at hcp1
 clear hr htk hv
 go_enter Tryz.func45, Tryz.ntmps45
 go_wp2_with (simp only [hov])
 go_region_law_o (refine step_copy_runI rfl _ _ 24 24 rfl _ _ (by simp [Act.eval, Act.put]) (by simp [Act.eval, Act.put]) (hcp1 _ _ _) ?_)
 go_wp2_with (at_builtin; refine wpList_copy_runI _ rfl _ _ 24 24 rfl _ _ rfl rfl (hcp2 _ (fun _ => rfl) (fun _ => rfl) _ _) ?_)
 go_ret
 first | exact ⟨rfl, rfl⟩ | exact ⟨rfl, by rw [hW1]⟩
theorem insM_grow (g n c k vb : Nat) (xs : List Value) (cur : Array Value) (d : Ma) (w : World) (hr : Row w g 29 cur) (hsz : cur.size = c * 4) (htk : cur.toList.take (n * 4) = xs) (hk : k < n) (hnc : n ≤ c) (hroom : c < n + 1) (hn : n ≤ 1000) (h1c : ∀ v ∈ xs, v.oneCell' = true) (hv : Row w vb 29 (maC d).toArray) :
  Calls Tryz.prog 45 #[.slice (some ⟨g, 0, none⟩) n c, .int .i64 (k : Int), .slice (some ⟨vb, 0, none⟩) 1 1] w fun e w' => e = .returned (.slice (some ⟨w.heap.size, 0, none⟩) (n + 1) (grownCap w (n + 1) c 29)) ∧
   w' = (((w.alloc (.cells ((xs.take (k * 4)).toArray ++ Builtin.zeroCells zcM.toArray (n + 1 - k) ++ Builtin.zeroCells zcM.toArray (grownCap w (n + 1) c 29 - (n + 1))) 29)).drew.setCells w.heap.size (k * 4) (maC d)).drew).setCells w.heap.size ((k + 1) * 4) (xs.drop (k * 4)) := by
 obtain ⟨i0, hi0, hz0, hzs, hzb⟩ := info_parts Tryz.infoMaZ
 have hxl : xs.length = n * 4 := by rw [← htk, List.length_take, Array.length_toList]; omega
 have hcs : ∀ j v, xs[j]? = some v → w.cell? ⟨g, j, none⟩ = some v := fun j v hj => by
  have hj' : j < n * 4 := by have := (List.getElem?_eq_some_iff.1 hj).1; omega
  rw [← htk, List.getElem?_take_of_lt hj'] at hj
  rw [hr.cell j, ← hj, Array.getElem?_toList]
 have hvs : ∀ j v, (maC d)[j]? = some v → w.cell? ⟨vb, j, none⟩ = some v := fun j v hj => by
  rw [hv.cell j]
  simpa using hj
 have h1v : ∀ v ∈ maC d, v.oneCell' = true := by simp [maC, Value.oneCell']
 have hbw : g < w.heap.size := hr.lt
 have hvw : vb < w.heap.size := hv.lt
 have hki : (k : Int) ≠ (n : Int) := by omega
 have hz3 : (c : Int) < (n : Int) + 1 := by omega
 have hkk : (n : Int) + 1 - (k : Int) = ((n + 1 - k : Nat) : Int) := by omega
 have hik : k + (n + 1 - k) = n + 1 := by omega
 have mixed := Tryz.mixed
 have hold : (Builtin.firstCells i0.size k (.slice (some ⟨g, 0, none⟩) k c)).run Tryz.prog w.drew = .ok (xs.take (k * 4)).toArray w.drew := by
  rw [hzs]
  exact run_firstCells_some w.drew 4 k ⟨g, 0, none⟩ k c (xs.take (k * 4)) (by rw [List.length_take]; omega) (fun j v hj => by
   rw [Addr.add_lit, Nat.zero_add]
   rw [List.getElem?_take] at hj
   split at hj
   ·exact hcs j v hj
   ·cases hj)
 have hrz : ∀ ty, (Builtin.append_ #[24, 3] ty #[.slice (some ⟨g, 0, none⟩) k c, .int .i64 ((n : Int) + 1 - (k : Int))]).run Tryz.prog w =
   .ok (.slice (some ⟨w.heap.size, 0, none⟩) (n + 1) (grownCap w (n + 1) c 29)) (w.drew.alloc (.cells ((xs.take (k * 4)).toArray ++ Builtin.zeroCells zcM.toArray (n + 1 - k) ++ Builtin.zeroCells zcM.toArray (grownCap w (n + 1) c 29 - (n + 1))) 29)) := fun ty => by
  have h := Lib.run_append_grow_zeros w 24 3 ty 29 i0 _ .i64 .i64 Tryz.underlying24 Tryz.underlying3 hi0 hz0 (some ⟨g, 0, none⟩) k c (xs.take (k * 4)) hold (n + 1 - k) (by omega) (by omega) (by omega) (by omega) (by rw [hzb]; omega) (by rw [hzb, hik]; exact growslice_fits hroom (by omega))
  rw [hik] at h
  rw [hkk]
  exact h
 obtain ⟨G, hG⟩ : ∃ G, G = grownCap w (n + 1) c 29 := ⟨_, rfl⟩
 obtain ⟨ROW, hROW⟩ : ∃ ROW : Array Value, ROW = (xs.take (k * 4)).toArray ++ Builtin.zeroCells zcM.toArray (n + 1 - k) ++ Builtin.zeroCells zcM.toArray (G - (n + 1)) := ⟨_, rfl⟩
 rw [← hG] at hrz ⊢
 rw [← hROW] at hrz ⊢
 have hRl : (n + 1) * 4 ≤ ROW.size := by
  rw [hROW]
  simp [Builtin.zeroCells, zcM, hxl]
  omega
 obtain ⟨W1, hW1⟩ : ∃ W1, W1 = w.drew.alloc (.cells ROW 29) := ⟨_, rfl⟩
 rw [← hW1] at hrz
 have hN : ∀ j, j < (n + 1) * 4 → (W1.cell? ⟨w.heap.size, j, none⟩).isSome = true := fun j hj => by
  rw [hW1, World.cell?_alloc_at (w := w.drew) ROW _ w.heap.size j rfl, Array.getElem?_eq_getElem (by omega)]; rfl
 have hNf : ∀ j, W1.frozen? ⟨w.heap.size, j, none⟩ = false := fun j => by rw [hW1]; exact World.frozen?_alloc_at (w := w.drew) ROW _ w.heap.size j rfl
 have hOb : ∀ j v, w.cell? ⟨g, j, none⟩ = some v → W1.cell? ⟨g, j, none⟩ = some v := fun j v h => by rw [hW1, World.cell?_alloc_past (w := w.drew) _ g j hbw]; exact h
 have hOv : ∀ j v, w.cell? ⟨vb, j, none⟩ = some v → W1.cell? ⟨vb, j, none⟩ = some v := fun j v h => by rw [hW1, World.cell?_alloc_past (w := w.drew) _ vb j hvw]; exact h
 have hcpA : ∀ (W : World), (∀ x, W.cell? x = W1.cell? x) → (∀ x, W.frozen? x = W1.frozen? x) → ∀ ty dc, (Builtin.copy_ #[24, 24] ty #[.slice (some ⟨w.heap.size, k * 4, none⟩) (n + 1 - k) dc, .slice (some ⟨vb, 0, none⟩) 1 1]).run Tryz.prog W = .ok (goInt (Nat.min 1 (n + 1 - k) : Nat)) (W.setCells w.heap.size (k * 4) (maC d)) := fun W hWc hWf ty dc =>
  run_copy_sz (P := Tryz.prog) W _ _ ty 29 w.heap.size (k * 4) (n + 1 - k) dc ⟨vb, 0, none⟩ 1 1 4 (maC d) Tryz.underlying24 Tryz.infoMa (by show 4 = _; simp only [Nat.min_def]; split <;> omega)
   (fun j v hj => by rw [Addr.add_lit, Nat.zero_add, hWc]; exact hOv _ v (hvs j v hj))
   (fun j hj => by rw [hWc]; exact hN _ (by have hj4 : j < 4 := hj; omega)) (fun j hj => by rw [hWf]; exact hNf _) h1v
 have hGn : n + 1 ≤ G := by rw [hG]; exact grownCap_ge w _ _ _
 have hG63 : G ≤ 9223372036854775807 := by
  have := grownCap_le_maxLen w (n + 1) c 29 (by unfold maxLen; omega)
  rw [← hG] at this
  unfold maxLen at this
  omega
 have hGi : ¬ (G = k) := by omega
 have hGim : ¬ (G = k + 1) := by omega
 have hci : ¬ (c = k) := by omega
 have hbN : g ≠ w.heap.size := by omega
 have hdl : (xs.drop (k * 4)).length = (n - k) * 4 := by rw [List.length_drop, hxl]; omega
 have hcpB : ∀ (W : World), (∀ x, W.cell? x = (W1.setCells w.heap.size (k * 4) (maC d)).cell? x) → (∀ x, W.frozen? x = (W1.setCells w.heap.size (k * 4) (maC d)).frozen? x) → ∀ ty dc sc, (Builtin.copy_ #[24, 24] ty #[.slice (some ⟨w.heap.size, (k + 1) * 4, none⟩) (n - k) dc, .slice (some ⟨g, k * 4, none⟩) (n - k) sc]).run Tryz.prog W = .ok (goInt (Nat.min (n - k) (n - k) : Nat)) (W.setCells w.heap.size ((k + 1) * 4) (xs.drop (k * 4))) := fun W hWc hWf ty dc sc =>
  run_copy_sz (P := Tryz.prog) W _ _ ty 29 w.heap.size ((k + 1) * 4) (n - k) dc ⟨g, k * 4, none⟩ (n - k) sc 4 (xs.drop (k * 4)) Tryz.underlying24 Tryz.infoMa (by rw [hdl]; simp only [Nat.min_def]; split <;> omega)
   (fun j v hj => by
    rw [Addr.add_lit, hWc, World.cell?_setCells_out _ _ _ _ _ (fun h _ => absurd h hbN)]
    exact hOb _ v (hcs (k * 4 + j) v (by rwa [List.getElem?_drop] at hj)))
   (fun j hj => by rw [hWc]; exact isSome_setCells _ (maC d) (k * 4) W1 (fun t ht => hN _ (by have ht4 : t < 4 := ht; omega)) _ (hN _ (by rw [hdl] at hj; omega)))
   (fun j hj => by rw [hWf, World.frozen?_setCells]; exact hNf _) (fun v hv => h1c v (List.mem_of_mem_drop hv))
 subst hW1
 have hE1 : ∀ x, ((w.alloc (.cells ROW 29)).drew).cell? x = (w.drew.alloc (.cells ROW 29)).cell? x := fun x => rfl
 have hE2 : ∀ x, ((w.alloc (.cells ROW 29)).drew).frozen? x = (w.drew.alloc (.cells ROW 29)).frozen? x := fun x => rfl
 have hF1 : ∀ x, (((w.alloc (.cells ROW 29)).drew.setCells w.heap.size (k * 4) (maC d)).drew).cell? x = ((w.drew.alloc (.cells ROW 29)).setCells w.heap.size (k * 4) (maC d)).cell? x := fun x => rfl
 have hF2 : ∀ x, (((w.alloc (.cells ROW 29)).drew.setCells w.heap.size (k * 4) (maC d)).drew).frozen? x = ((w.drew.alloc (.cells ROW 29)).setCells w.heap.size (k * 4) (maC d)).frozen? x := fun x => rfl
 have hw1 : IntKind.i64.wrap ((k : Int) + 1) = (k : Int) + 1 := by rw [IntKind.wrap_i64]; omega
 have hb1 : (0 : Int) ≤ (k : Int) + 1 := by omega
 have hin : k ≤ n := by omega
 have htn : ((k : Int) + 1).toNat = k + 1 := by omega
 have hb3 : (k : Int) ≤ (n : Int) := by omega
 clear hkk hik hold hROW hG hRl hr htk hv
 go_enter Tryz.func45, Tryz.ntmps45
 go_wp2_with (first
  | (at_builtin; refine Lib.wpList_append_run _ rfl _ _ _ _ rfl _ _ rfl rfl _ _ (hrz _) ?_)
  | (at_builtin; refine wpList_copy_runI _ rfl _ _ 24 24 rfl _ _ rfl rfl (hcpA _ hE1 hE2 _ _) ?_)
  | (at_builtin; refine wpList_copy_runI _ rfl _ _ 24 24 rfl _ _ rfl rfl (hcpB _ (fun _ => rfl) (fun _ => rfl) _ _ _) ?_))
 go_region_law_o (refine step_copy_runI rfl _ _ 24 24 rfl (.slice (some ⟨w.heap.size, (k + 1) * 4, none⟩) (n - k) (G - (k + 1))) (.slice (some ⟨g, k * 4, none⟩) (n - k) (c - k)) (by simp [Act.eval, Act.put]) (by simp [Act.eval, Act.put]) (hcpB _ hF1 hF2 3 (G - (k + 1)) (c - k)) ?_)
 go_wp2
 go_ret
 exact ⟨rfl, rfl⟩
end Go.Proofs.YtaenoiffamgcfaaGreatDoor
