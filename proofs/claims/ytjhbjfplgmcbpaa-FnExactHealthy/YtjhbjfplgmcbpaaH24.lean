/- The place of a root among slots, in the program and in the model. Conditions: at most 2^20 slots. -/
import Derived.Test.YtjhbjfplgmcbpaaH21
namespace Go.Proofs.Ytjhbjfplgmcbpaa
set_option maxRecDepth 2000
open Go.ChangeShapes Go.WideShapes Go.ChangeAt Go.RowKit

/-- The first place from k on, of f, whose slot is of the root. -/
def plF (S : Nat → Sl) (root : ByteArray) : Nat → Nat → Option Nat
  | 0, _ => none
  | f + 1, k => if (S k).r = root then some k else plF S root f (k + 1)
def plc (S : Nat → Sl) (root : ByteArray) (n : Nat) : Option Nat := plF S root n 0
theorem plF_some {S : Nat → Sl} {root : ByteArray} : ∀ {f k x : Nat}, plF S root f k = some x → k ≤ x ∧ x < k + f ∧ (S x).r = root ∧ ∀ i, k ≤ i → i < x → (S i).r ≠ root
  | 0, _, _, h => by cases h
  | f + 1, k, x, h => by
    unfold plF at h
    by_cases e : (S k).r = root
    · rw [if_pos e] at h
      cases h
      exact ⟨Nat.le_refl _, by omega, e, fun i h1 h2 => by omega⟩
    · rw [if_neg e] at h
      obtain ⟨h1, h2, h3, h4⟩ := plF_some h
      refine ⟨by omega, by omega, h3, fun i hi hx => ?_⟩
      by_cases ei : i = k
      · rw [ei]; exact e
      · exact h4 i (by omega) hx
def plX (S : Nat → Sl) (root : ByteArray) (n : Nat) : Int := match plc S root n with
  | some x => (x : Int)
  | none => -1
def eqR (s root : ByteArray) : Bool := decide (s = root)
theorem eqR_yes {s root : ByteArray} (h : s = root) : eqR s root = true := decide_eq_true h
theorem eqR_no {s root : ByteArray} (h : s ≠ root) : eqR s root = false := decide_eq_false h
set_option maxHeartbeats 1000000 in
theorem placeFn_any (s : Sl) (v6 v11 v12 : Value) (R : Nat) (root : ByteArray) (w : World) (hR : w.cell? ⟨R, 0, none⟩ = some (.string root)) :
    Calls Try.prog 71 #[slV s v6 v11 v12, .pointer (some ⟨R, 0, none⟩)] w fun e w' => e = .returned (.bool (eqR s.r root)) ∧ Below w.heap.size w w' := by
  have lR := block_lt_of_cell hR
  have KB : Hid (Below w.heap.size w (w.alloc (.cells (slC s v6 v11 v12) 60))) := (Below.refl _ _).alloc (Nat.le_refl _) _
  by_cases h : s.r = root
  · rw [eqR_yes h]
    have hb : (s.r.toList == root.toList) = true := by rw [h]; simp
    go_enter Try.func71, Try.ntmps71
    go_wp2
    go_ret
    exact ⟨rfl, KB.out⟩
  · rw [eqR_no h]
    have hb := ba_ne h
    go_enter Try.func71, Try.ntmps71
    go_wp2
    go_ret
    exact ⟨rfl, KB.out⟩
set_option maxHeartbeats 2000000 in
theorem index_any (a : Option Addr) (n cap : Nat) (S : Nat → Sl) (R : Nat) (root : ByteArray) (w : World) (h : Rd w (slsD n S) (.slice a n cap)) (hn : n ≤ 1048576) (hR : w.cell? ⟨R, 0, none⟩ = some (.string root)) :
    Calls Try.prog 70 #[.slice a n cap, .func (.func 71) #[] #[.pointer (some ⟨R, 0, none⟩)]] w fun e w' => e = .returned (.int .i64 (plX S root n)) ∧ Below w.heap.size w w' := by
  have KH : Hid (Rd w (slsD n S) (.slice a n cap)) := h
  have KR : Hid (w.cell? ⟨R, 0, none⟩ = some (.string root)) := hR
  clear h hR
  go_enter Try.func70, Try.ntmps70
  go_wp2
  go_loopw [8] (fun vi wr => ∃ k : Nat, k ≤ n ∧ vi = .int .i64 (k : Int) ∧ Hid (plF S root (n - k) k = plc S root n) ∧ Below w.heap.size w wr) (fun vi _ => n - (intOf vi).toNat)
  case atStart => exact ⟨0, Nat.zero_le _, rfl, rfl, Below.refl _ _⟩
  case round =>
    obtain ⟨k, hk, rfl, HP, hbel⟩ := hrel
    by_cases hlt : k < n
    · have hki : (k : Int) < (n : Int) := by omega
      obtain ⟨b1, f1, y1, p6, p11, p12, q6, q11, q12, rfl, hc1, e1, _, _, _⟩ := slot_row (KH.out.below hbel) hlt
      have hRr := (hbel.cell (p := ⟨R, 0, none⟩) (block_lt_of_cell KR.out)).trans KR.out
      have KC := placeFn_any (S k) (.slice p6 (S k).p.m q6) (.slice p11 (S k).ze.length q11) (.slice p12 (S k).zr.length q12) R root wr hRr
      rw [← e1] at KC
      have KF : Hid _ := KC
      obtain ⟨_, x⟩ := one_row (sz := 12) wr (Below.refl _ _) hc1
      have R1 : Hid (wr.rangeAt b1 (f1 + k * 13) [y1 0, y1 1, y1 2, y1 3, y1 4, y1 5, y1 6, y1 7, y1 8, y1 9, y1 10, y1 11, y1 12]) := range13 x
      have KB : Hid (Below w.heap.size w wr) := hbel
      have e2 : n - k = (n - (k + 1)) + 1 := by omega
      have HP' := HP.out
      rw [e2] at HP'
      unfold plF at HP'
      clear KC hc1 e1 x hbel hRr HP e2
      by_cases hr : (S k).r = root
      · rw [if_pos hr] at HP'
        have HI : Hid (plX S root n = (k : Int)) := by show _ = _; unfold plX; rw [← HP']
        rw [eqR_yes hr] at KF
        clear HP' hr
        go_wp2_with (refine wpList_load_mid (by rfl) 60 _ (by rfl) b1 (f1 + k * 13) (by rfl) [y1 0, y1 1, y1 2, y1 3, y1 4, y1 5, y1 6, y1 7, y1 8, y1 9, y1 10, y1 11, y1 12] _ ?_ Try.underlying60 (by rfl) Try.infoSl ?_; exact R1.out)
        refine Calls.mono KF.out ?_
        rintro e w1 ⟨rfl, b1'⟩
        have KB1 : Hid (Below w.heap.size w w1) := below2 KB.out b1'
        clear b1'
        go_wp2
        go_ret
        exact ⟨ret_int HI.out.symm, KB1.out⟩
      · rw [if_neg hr] at HP'
        have HP2 : Hid (plF S root (n - (k + 1)) (k + 1) = plc S root n) := HP'
        rw [eqR_no hr] at KF
        clear HP' hr
        go_wp2_with (refine wpList_load_mid (by rfl) 60 _ (by rfl) b1 (f1 + k * 13) (by rfl) [y1 0, y1 1, y1 2, y1 3, y1 4, y1 5, y1 6, y1 7, y1 8, y1 9, y1 10, y1 11, y1 12] _ ?_ Try.underlying60 (by rfl) Try.infoSl ?_; exact R1.out)
        refine Calls.mono KF.out ?_
        rintro e w1 ⟨rfl, b1'⟩
        have KB1 : Hid (Below w.heap.size w w1) := below2 KB.out b1'
        clear b1' KF R1
        go_wp2
        go_roundw
        case rel => exact ⟨k + 1, by omega, by go_num, HP2, KB1.out⟩
        case measure => simp [intOf]; omega
    · obtain rfl : k = n := by omega
      have HI : Hid (plX S root k = -1) := by
        have := HP.out
        rw [Nat.sub_self] at this
        show _ = _
        unfold plX
        rw [← this]
        rfl
      go_wp2
      go_ret
      exact ⟨ret_int HI.out.symm, hbel⟩
set_option maxHeartbeats 1000000 in
theorem placeOf_any (id f : Int) (a : Option Addr) (n cap : Nat) (S : Nat → Sl) (root : ByteArray) (w : World) (h : Rd w (slsD n S) (.slice a n cap)) (hn : n ≤ 1048576) :
    Calls Try.prog 58 #[ndV id f (.slice a n cap), .string root] w fun e w' => e = .returned (.int .i64 (plX S root n)) ∧ Below w.heap.size w w' := by
  have hmf : ∀ (fn : Fn) (first cap : Array Value) (w : World), (Instr.makeFunc fn first cap).run Try.prog w = .ok (.func fn first cap) w := fun _ _ _ _ => rfl
  obtain ⟨R, HR⟩ : ∃ x, Hid (x = w.heap.size + 1) := ⟨_, rfl⟩
  obtain ⟨w0, HW0⟩ : ∃ x, Hid (x = (w.alloc (.cells #[.int .i64 id, .int .i64 f, .slice a n cap] 46)).alloc (.cells #[.string root] 9)) := ⟨_, rfl⟩
  have hb0 : Below w.heap.size w w0 := by rw [HW0.out]; exact ((Below.refl _ _).alloc (Nat.le_refl _) _).alloc (by simp) _
  have KB0 : Hid (Below w.heap.size w w0) := hb0
  have hc : w0.cell? ⟨R, 0, none⟩ = some (.string root) := by rw [HW0.out, HR.out]; simp
  have KI : Hid _ := index_any a n cap S R root w0 (h.below hb0) hn hc
  clear h hb0 hc
  go_enter Try.func58, Try.ntmps58
  go_wp2_with fail
  rw [← HW0.out, ← HR.out]
  refine Calls.mono KI.out ?_
  rintro e w1 ⟨rfl, b1⟩
  go_wp2
  go_ret
  exact ⟨rfl, below2 KB0.out b1⟩
end Go.Proofs.Ytjhbjfplgmcbpaa
/- How far a slot is brought, in the program. Condition: F from 1 to 3. -/
namespace Go.Proofs.Ytjhbjfplgmcbpaa
set_option maxRecDepth 2000
open Go.ChangeShapes Go.WideShapes Go.ChangeAt Go.RowKit

end Go.Proofs.Ytjhbjfplgmcbpaa
/- Whether a slot is a node's, in the program. Conditions: F from 1 to 3, lists of at most 2^20. -/
namespace Go.Proofs.Ytjhbjfplgmcbpaa
set_option maxRecDepth 2000
open Go.ChangeShapes Go.WideShapes Go.ChangeAt Go.RowKit

end Go.Proofs.Ytjhbjfplgmcbpaa
/- Whether a node is right, in the program. Conditions: lists of at most 2^20, texts that can be. -/
namespace Go.Proofs.Ytjhbjfplgmcbpaa
set_option maxRecDepth 2000
open Go.ChangeShapes Go.WideShapes Go.ChangeAt Go.RowKit

theorem ag13_list {y : Nat → Value} {c0 c1 c2 c3 c4 c5 c6 c7 c8 c9 c10 c11 c12 : Value} (h : ag13 y = .agg #[c0, c1, c2, c3, c4, c5, c6, c7, c8, c9, c10, c11, c12]) : [y 0, y 1, y 2, y 3, y 4, y 5, y 6, y 7, y 8, y 9, y 10, y 11, y 12] = [c0, c1, c2, c3, c4, c5, c6, c7, c8, c9, c10, c11, c12] := by
  have h' := congrArg (fun v => match v with | Value.agg a => a.toList | _ => []) h
  exact h'
abbrev slL (s : Sl) (v6 v11 v12 : Value) : List Value := [.string s.r, .string s.p.r, .int .i64 s.p.k, .int .i64 s.p.n, .int .i64 s.p.i, .string s.p.b, v6, .bool s.h, .bool s.e, .bool s.d, .bool s.o, v11, v12]
/-- A slot that is read, its cells written out. -/
theorem slot_at {w : World} {n : Nat} {S : Nat → Sl} {a : Option Addr} {cap : Nat} (h : Rd w (slsD n S) (.slice a n cap)) {i : Nat} (hi : i < n) :
    ∃ (b off : Nat) (a6 a11 a12 : Option Addr) (c6 c11 c12 : Nat), a = some ⟨b, off, none⟩ ∧ w.rangeAt b (off + i * 13) (slL (S i) (.slice a6 (S i).p.m c6) (.slice a11 (S i).ze.length c11) (.slice a12 (S i).zr.length c12)) ∧ TxtAt w a6 (S i).p.m (S i).p.S ∧ IntsAt w a11 (S i).ze.length (S i).ze ∧ IntsAt w a12 (S i).zr.length (S i).zr := by
  obtain ⟨b, off, y, a6, a11, a12, c6, c11, c12, ea, hc, e, t6, t11, t12⟩ := slot_row h hi
  obtain ⟨_, x⟩ := one_row (sz := 12) w (Below.refl _ _) hc
  have R := range13 x
  rw [ag13_list e] at R
  exact ⟨b, off, a6, a11, a12, c6, c11, c12, ea, R, t6, t11, t12⟩
end Go.Proofs.Ytjhbjfplgmcbpaa
