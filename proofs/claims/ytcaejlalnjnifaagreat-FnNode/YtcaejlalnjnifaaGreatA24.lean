import Derived.Test.YtcaejlalnjnifaaGreatA23
set_option maxHeartbeats 8000000
set_option maxRecDepth 2000
open Go.ChangeShapes Go.WideShapes Go.ChangeAt Go.RowKit
namespace Go.Proofs.YtcaejlalnjnifaaGreat
def plF (S : Nat → Sl) (root : ByteArray) : Nat → Nat → Option Nat
 | 0, _ => none
 | f + 1, k => if (S k).r = root then some k else plF S root f (k + 1)
def plc (S : Nat → Sl) (root : ByteArray) (n : Nat) : Option Nat := plF S root n 0
theorem plF_some {S : Nat → Sl} {root : ByteArray} : ∀ {f k x : Nat}, plF S root f k = some x → k ≤ x ∧ x < k + f ∧ (S x).r = root ∧ ∀ i, k ≤ i → i < x → (S i).r ≠ root
 | 0, _, _, h => by cases h
 | f + 1, k, x, h => by
  unfold plF at h
  by_cases e : (S k).r = root
  ·rw [if_pos e] at h
   cases h
   exact ⟨Nat.le_refl _, by omega, e, fun i h1 h2 => by omega⟩
  ·rw [if_neg e] at h
   obtain ⟨h1, h2, h3, h4⟩ := plF_some h
   refine ⟨by omega, by omega, h3, fun i hi hx => ?_⟩
   by_cases ei : i = k
   ·rw [ei]; exact e
   ·exact h4 i (by omega) hx
theorem plF_none {S : Nat → Sl} {root : ByteArray} : ∀ {f k : Nat}, plF S root f k = none → ∀ i, k ≤ i → i < k + f → (S i).r ≠ root
 | 0, _, _, i, h1, h2 => by omega
 | f + 1, k, h, i, h1, h2 => by
  unfold plF at h
  by_cases e : (S k).r = root
  ·rw [if_pos e] at h; cases h
  ·rw [if_neg e] at h
   by_cases ei : i = k
   ·rw [ei]; exact e
   ·exact plF_none h i (by omega) (by omega)
def plX (S : Nat → Sl) (root : ByteArray) (n : Nat) : Int := match plc S root n with
 | some x => (x : Int)
 | none => -1
def eqR (s root : ByteArray) : Bool := decide (s = root)
theorem eqR_yes {s root : ByteArray} (h : s = root) : eqR s root = true := decide_eq_true h
theorem eqR_no {s root : ByteArray} (h : s ≠ root) : eqR s root = false := decide_eq_false h
theorem placeFn_any (s : Sl) (v6 v11 v12 : Value) (R : Nat) (root : ByteArray) (w : World) (hR : w.cell? ⟨R, 0, none⟩ = some (.string root)) :
  Calls Tryz.prog 116 #[slV s v6 v11 v12, .pointer (some ⟨R, 0, none⟩)] w fun e w' => e = .returned (.bool (eqR s.r root)) ∧ Below w.heap.size w w' := by
 have lR := block_lt_of_cell hR
 have KB : Hid (Below w.heap.size w (w.alloc (.cells (slC s v6 v11 v12) 42))) := (Below.refl _ _).alloc (Nat.le_refl _) _
 by_cases h : s.r = root
 ·rw [eqR_yes h]
  have hb : (s.r.toList == root.toList) = true := by rw [h]; simp
  go_enter Tryz.func116, Tryz.ntmps116
  go_wp2
  go_ret
  exact ⟨rfl, KB.out⟩
 ·rw [eqR_no h]
  have hb := ba_ne h
  go_enter Tryz.func116, Tryz.ntmps116
  go_wp2
  go_ret
  exact ⟨rfl, KB.out⟩
theorem index_any (a : Option Addr) (n cap : Nat) (S : Nat → Sl) (R : Nat) (root : ByteArray) (w : World) (h : Rd w (slsD n S) (.slice a n cap)) (hn : n ≤ 1048576) (hR : w.cell? ⟨R, 0, none⟩ = some (.string root)) :
  Calls Tryz.prog 115 #[.slice a n cap, .func (.func 116) #[] #[.pointer (some ⟨R, 0, none⟩)]] w fun e w' => e = .returned (.int .i64 (plX S root n)) ∧ Below w.heap.size w w' := by
 have KH : Hid (Rd w (slsD n S) (.slice a n cap)) := h
 have KR : Hid (w.cell? ⟨R, 0, none⟩ = some (.string root)) := hR
 clear h hR
 go_enter Tryz.func115, Tryz.ntmps115
 go_wp2
 go_loopw [8] (fun vi wr => ∃ k : Nat, k ≤ n ∧ vi = .int .i64 (k : Int) ∧ Hid (plF S root (n - k) k = plc S root n) ∧ Below w.heap.size w wr) (fun vi _ => n - (intOf vi).toNat)
 case atStart => exact ⟨0, Nat.zero_le _, rfl, rfl, Below.refl _ _⟩
 case round =>
  obtain ⟨k, hk, rfl, HP, hbel⟩ := hrel
  by_cases hlt : k < n
  ·have hki : (k : Int) < (n : Int) := by omega
   obtain ⟨b1, f1, y1, p6, p11, p12, q6, q11, q12, rfl, hc1, e1, _, _, _⟩ := slot_row (KH.out.below hbel) hlt
   have hRr := (hbel.cell (p := ⟨R, 0, none⟩) (block_lt_of_cell KR.out)).trans KR.out
   have KC := placeFn_any (S k) (.slice p6 (S k).p.m q6) (.slice p11 (S k).ze.length q11) (.slice p12 (S k).zr.length q12) R root wr hRr
   rw [← e1] at KC
   have KF : Hid _ := KC
   obtain ⟨_, x⟩ := one_row (sz := 12) wr (Below.refl _ _) hc1
   have R1 : Hid (wr.rangeAt b1 (f1 + k * 13) [y1 0, y1 1, y1 2, y1 3, y1 4, y1 5, y1 6, y1 7, y1 8, y1 9, y1 10, y1 11, y1 12]) := range13 x
   have KB : Hid (Below w.heap.size w wr) := hbel
   have e2 : n - k = (n - (k + 1)) + 1 := by omega
   have HP' := HP.out
   rw [e2] at HP'
   unfold plF at HP'
   clear KC hc1 e1 x hbel hRr HP e2
   by_cases hr : (S k).r = root
   ·rw [if_pos hr] at HP'
    have HI : Hid (plX S root n = (k : Int)) := by show _ = _; unfold plX; rw [← HP']
    rw [eqR_yes hr] at KF
    clear HP' hr
    go_wp2_with (refine wpList_load_mid (by rfl) 42 _ (by rfl) b1 (f1 + k * 13) (by rfl) [y1 0, y1 1, y1 2, y1 3, y1 4, y1 5, y1 6, y1 7, y1 8, y1 9, y1 10, y1 11, y1 12] _ ?_ Tryz.underlying42 (by rfl) Tryz.infoSl ?_; exact R1.out)
    refine Calls.mono KF.out ?_
    rintro e w1 ⟨rfl, b1'⟩
    have KB1 : Hid (Below w.heap.size w w1) := below2 KB.out b1'
    clear b1'
    go_wp2
    go_ret
    exact ⟨ret_int HI.out.symm, KB1.out⟩
   ·rw [if_neg hr] at HP'
    have HP2 : Hid (plF S root (n - (k + 1)) (k + 1) = plc S root n) := HP'
    rw [eqR_no hr] at KF
    clear HP' hr
    go_wp2_with (refine wpList_load_mid (by rfl) 42 _ (by rfl) b1 (f1 + k * 13) (by rfl) [y1 0, y1 1, y1 2, y1 3, y1 4, y1 5, y1 6, y1 7, y1 8, y1 9, y1 10, y1 11, y1 12] _ ?_ Tryz.underlying42 (by rfl) Tryz.infoSl ?_; exact R1.out)
    refine Calls.mono KF.out ?_
    rintro e w1 ⟨rfl, b1'⟩
    have KB1 : Hid (Below w.heap.size w w1) := below2 KB.out b1'
    clear b1' KF R1
    go_wp2
    go_roundw
    case rel => exact ⟨k + 1, by omega, by go_num, HP2, KB1.out⟩
    case measure => simp [intOf]; omega
  ·obtain rfl : k = n := by omega
   have HI : Hid (plX S root k = -1) := by
    have := HP.out
    rw [Nat.sub_self] at this
    show _ = _
    unfold plX
    rw [← this]
    rfl
   go_wp2
   go_ret
   exact ⟨ret_int HI.out.symm, hbel⟩
theorem placeOf_any (id f : Int) (a : Option Addr) (n cap : Nat) (S : Nat → Sl) (root : ByteArray) (w : World) (h : Rd w (slsD n S) (.slice a n cap)) (hn : n ≤ 1048576) :
  Calls Tryz.prog 58 #[ndV id f (.slice a n cap), .string root] w fun e w' => e = .returned (.int .i64 (plX S root n)) ∧ Below w.heap.size w w' := by
 have hmf : ∀ (fn : Fn) (first cap : Array Value) (w : World), (Instr.makeFunc fn first cap).run Tryz.prog w = .ok (.func fn first cap) w := fun _ _ _ _ => rfl
 obtain ⟨R, HR⟩ : ∃ x, Hid (x = w.heap.size + 1) := ⟨_, rfl⟩
 obtain ⟨w0, HW0⟩ : ∃ x, Hid (x = (w.alloc (.cells #[.int .i64 id, .int .i64 f, .slice a n cap] 26)).alloc (.cells #[.string root] 9)) := ⟨_, rfl⟩
 have hb0 : Below w.heap.size w w0 := by rw [HW0.out]; exact ((Below.refl _ _).alloc (Nat.le_refl _) _).alloc (by simp) _
 have KB0 : Hid (Below w.heap.size w w0) := hb0
 have hc : w0.cell? ⟨R, 0, none⟩ = some (.string root) := by rw [HW0.out, HR.out]; simp
 have KI : Hid _ := index_any a n cap S R root w0 (h.below hb0) hn hc
 clear h hb0 hc
 go_enter Tryz.func58, Tryz.ntmps58
 go_wp2_with fail
 rw [← HW0.out, ← HR.out]
 refine Calls.mono KI.out ?_
 rintro e w1 ⟨rfl, b1⟩
 go_wp2
 go_ret
 exact ⟨rfl, below2 KB0.out b1⟩
end Go.Proofs.YtcaejlalnjnifaaGreat
