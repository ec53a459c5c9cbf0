/- A new node, in the program and in the model; a node's F and number. No condition. -/
import Derived.Test.YtpomffkpjldloaaGreatI24
import Derived.Test.YtpomffkpjldloaaGreatI22
import Derived.BigQuiet
namespace Go.Proofs.YtpomffkpjldloaaGreat
set_option maxRecDepth 2000
open Go.ChangeShapes Go.WideShapes Go.ChangeAt Go.RowKit

/-- F and the number are so. -/
def seB (id f : Int) : Bool := decide (1 ≤ f ∧ f ≤ 3 ∧ 0 ≤ id ∧ id < 3 * f + 1)
def fB (f : Int) : Bool := decide (1 ≤ f ∧ f ≤ 3)
abbrev ndV (id f : Int) (v : Value) : Value := .agg #[.int .i64 id, .int .i64 f, v]
theorem three_wrap {f : Int} (h : 1 ≤ f ∧ f ≤ 3) : IntKind.i64.wrap (3 * f) = 3 * f ∧ IntKind.i64.wrap (3 * f + 1) = 3 * f + 1 := by
  constructor <;> (rw [IntKind.wrap_i64]; omega)
set_option maxHeartbeats 1000000 in
theorem isF_any (f : Int) (w : World) : Calls Tryz.prog 36 #[.int .i64 f] w fun e w' => e = .returned (.bool (fB f)) ∧ w' = w := by
  by_cases h1 : 1 ≤ f
  · by_cases h2 : f ≤ 3
    · have e : fB f = true := decide_eq_true ⟨h1, h2⟩
      rw [e]
      go_enter Tryz.func36, Tryz.ntmps36
      go_wp2
      go_ret
      exact ⟨rfl, rfl⟩
    · have e : fB f = false := decide_eq_false (fun h => h2 h.2)
      rw [e]
      go_enter Tryz.func36, Tryz.ntmps36
      go_wp2
      go_ret
      exact ⟨rfl, rfl⟩
  · have e : fB f = false := decide_eq_false (fun h => h1 h.1)
    rw [e]
    go_enter Tryz.func36, Tryz.ntmps36
    go_wp2
    go_ret
    exact ⟨rfl, rfl⟩
theorem nodeCount_any (f : Int) (w : World) (h : 1 ≤ f ∧ f ≤ 3) : Calls Tryz.prog 37 #[.int .i64 f] w fun e w' => e = .returned (.int .i64 (3 * f + 1)) ∧ w' = w := by
  obtain ⟨e1, e2⟩ := three_wrap h
  go_enter Tryz.func37, Tryz.ntmps37
  go_wp2
  go_ret
  exact ⟨rfl, rfl⟩
theorem pieceNeed_any (f : Int) (w : World) (h : 1 ≤ f ∧ f ≤ 3) : Calls Tryz.prog 83 #[.int .i64 f] w fun e w' => e = .returned (.int .i64 (f + 1)) ∧ w' = w := by
  have e1 : IntKind.i64.wrap (f + 1) = f + 1 := by rw [IntKind.wrap_i64]; omega
  go_enter Tryz.func83, Tryz.ntmps83
  go_wp2
  go_ret
  exact ⟨rfl, rfl⟩
theorem sAllN_any (f : Int) (w : World) (h : 1 ≤ f ∧ f ≤ 3) : Calls Tryz.prog 28 #[.int .i64 f] w fun e w' => e = .returned (.int .i64 (3 * f + 1)) ∧ w' = w := by
  obtain ⟨e1, e2⟩ := three_wrap h
  go_enter Tryz.func28, Tryz.ntmps28
  go_wp2
  go_ret
  exact ⟨rfl, rfl⟩
set_option maxHeartbeats 1000000 in
theorem knows_any (id f x : Int) (v : Value) (w : World) (h : 1 ≤ f ∧ f ≤ 3) : Calls Tryz.prog 61 #[ndV id f v, .int .i64 x] w fun e w' => e = .returned (.bool (decide (0 ≤ x ∧ x < 3 * f + 1))) ∧ Below w.heap.size w w' := by
  have KN : Hid (∀ W, Calls Tryz.prog 37 #[.int .i64 f] W fun e w' => e = .returned (.int .i64 (3 * f + 1)) ∧ w' = W) := fun W => nodeCount_any f W h
  have KB : Hid (Below w.heap.size w (w.alloc (.cells #[.int .i64 id, .int .i64 f, v] 68))) := (Below.refl _ _).alloc (Nat.le_refl _) _
  obtain ⟨m, HM⟩ : ∃ m, Hid (3 * f + 1 = m) := ⟨_, rfl⟩
  rw [HM.out] at KN ⊢
  by_cases h1 : 0 ≤ x
  · have h1' : x ≥ 0 := h1
    by_cases h2 : x < m
    · have e : decide (0 ≤ x ∧ x < m) = true := decide_eq_true ⟨h1, h2⟩
      rw [e]
      go_enter Tryz.func61, Tryz.ntmps61
      go_wp2_with (go_at_call 37; refine Calls.mono (KN.out _) ?_; rintro e w' ⟨rfl, hw⟩; obtain rfl := hw.symm; clear hw)
      go_ret
      exact ⟨rfl, KB.out⟩
    · have e : decide (0 ≤ x ∧ x < m) = false := decide_eq_false (fun h => h2 h.2)
      rw [e]
      go_enter Tryz.func61, Tryz.ntmps61
      go_wp2_with (go_at_call 37; refine Calls.mono (KN.out _) ?_; rintro e w' ⟨rfl, hw⟩; obtain rfl := hw.symm; clear hw)
      go_ret
      exact ⟨by simp [h2], KB.out⟩
  · have h1' : ¬ x ≥ 0 := h1
    have e : decide (0 ≤ x ∧ x < m) = false := decide_eq_false (fun h => h1 h.1)
    rw [e]
    go_enter Tryz.func61, Tryz.ntmps61
    go_wp2_with (go_at_call 37; refine Calls.mono (KN.out _) ?_; rintro e w' ⟨rfl, hw⟩; obtain rfl := hw.symm; clear hw)
    go_ret
    exact ⟨rfl, KB.out⟩
set_option maxHeartbeats 1000000 in
theorem isSeated_any (id f : Int) (v : Value) (w : World) : Calls Tryz.prog 62 #[ndV id f v] w fun e w' => e = .returned (.bool (seB id f)) ∧ Below w.heap.size w w' := by
  obtain ⟨w0, HW0⟩ : ∃ x, Hid (x = w.alloc (.cells #[.int .i64 id, .int .i64 f, v] 68)) := ⟨_, rfl⟩
  have KB : Hid (Below w.heap.size w w0) := by show Below _ _ _; rw [HW0.out]; exact (Below.refl _ _).alloc (Nat.le_refl _) _
  obtain ⟨A, HA⟩ : ∃ x, Hid (x = w.heap.size) := ⟨_, rfl⟩
  have HR : Hid (Row w0 A 68 #[.int .i64 id, .int .i64 f, v]) := by show Row _ _ _ _; rw [HW0.out, HA.out]; exact Row.new w _ _
  have KF : Hid (∀ W, Calls Tryz.prog 36 #[.int .i64 f] W fun e w' => e = .returned (.bool (fB f)) ∧ w' = W) := isF_any f
  by_cases hf : 1 ≤ f ∧ f ≤ 3
  · have e : fB f = true := decide_eq_true hf
    have HE : Hid (decide (0 ≤ id ∧ id < 3 * f + 1) = seB id f) := by
      show _ = _
      unfold seB
      simp [hf.1, hf.2]
    have KK : Hid (Calls Tryz.prog 61 #[ndV id f v, .int .i64 id] w0 fun e w' => e = .returned (.bool (seB id f)) ∧ Below w0.heap.size w0 w') := by
      have := knows_any id f id v w0 hf
      rw [HE.out] at this
      exact this
    rw [e] at KF
    have x0 := HR.out.cell 0
    have x1 := HR.out.cell 1
    have x2 := HR.out.cell 2
    simp at x0 x1 x2
    go_enter Tryz.func62, Tryz.ntmps62
    go_wp2_with fail
    rw [← HW0.out, ← HA.out]
    refine Calls.mono (KF.out _) ?_
    rintro e w' ⟨rfl, hw⟩
    obtain rfl := hw.symm
    clear hw
    go_wp2_with fail
    refine Calls.mono KK.out ?_
    rintro e w1 ⟨rfl, b1⟩
    go_wp2
    go_ret
    exact ⟨rfl, below2 KB.out b1⟩
  · have e : fB f = false := decide_eq_false hf
    have e2 : seB id f = false := decide_eq_false (fun h => hf ⟨h.1, h.2.1⟩)
    rw [e] at KF
    rw [e2]
    go_enter Tryz.func62, Tryz.ntmps62
    go_wp2_with fail
    rw [← HW0.out, ← HA.out]
    refine Calls.mono (KF.out _) ?_
    rintro e w' ⟨rfl, hw⟩
    obtain rfl := hw.symm
    clear hw
    go_wp2
    go_ret
    exact ⟨rfl, KB.out⟩
end Go.Proofs.YtpomffkpjldloaaGreat
/- Lists of nodes' numbers, how far a slot is brought, and whose a piece is: in the program and in the model. Conditions: F from 1 to 3, lists of at most 2^20. -/
namespace Go.Proofs.YtpomffkpjldloaaGreat
set_option maxRecDepth 2000
open Go.ChangeShapes Go.WideShapes Go.ChangeAt Go.RowKit

/-- Nodes' numbers, ascending. -/
def NumP (f : Int) (zs : List Int) : Prop := ∀ i, i < zs.length → (0 ≤ zs.getD i 0 ∧ zs.getD i 0 < 3 * f + 1) ∧ (0 < i → zs.getD (i - 1) 0 < zs.getD i 0)
noncomputable def numB (f : Int) (zs : List Int) : Bool := @decide (NumP f zs) (Classical.propDecidable _)
theorem numB_yes {f : Int} {zs : List Int} (h : NumP f zs) : numB f zs = true := by unfold numB; exact @decide_eq_true _ (Classical.propDecidable _) h
theorem numB_no {f : Int} {zs : List Int} (h : ¬ NumP f zs) : numB f zs = false := by unfold numB; exact @decide_eq_false _ (Classical.propDecidable _) h
set_option maxHeartbeats 4000000 in
theorem areNodes_any (id f : Int) (v : Value) (a : Option Addr) (n cap : Nat) (zs : List Int) (w : World) (h : IntsAt w a n zs) (hf : 1 ≤ f ∧ f ≤ 3) (hn : n ≤ 1048576) :
    Calls Tryz.prog 52 #[ndV id f v, .slice a n cap] w fun e w' => e = .returned (.bool (numB f zs)) ∧ Below w.heap.size w w' := by
  obtain ⟨A, HA⟩ : ∃ x, Hid (x = w.heap.size) := ⟨_, rfl⟩
  obtain ⟨w0, HW0⟩ : ∃ x, Hid (x = w.alloc (.cells #[.int .i64 id, .int .i64 f, v] 68)) := ⟨_, rfl⟩
  have HR : Hid (Row w0 A 68 #[.int .i64 id, .int .i64 f, v]) := by show Row _ _ _ _; rw [HW0.out, HA.out]; exact Row.new w _ _
  have hb0 : Below w.heap.size w w0 := by rw [HW0.out]; exact (Below.refl _ _).alloc (Nat.le_refl _) _
  have KB0 : Hid (Below w.heap.size w w0) := hb0
  have KI : Hid (IntsAt w0 a n zs) := h.below hb0
  have hl : zs.length = n := h.1
  have KK : Hid (∀ x W, Calls Tryz.prog 61 #[ndV id f v, .int .i64 x] W fun e w' => e = .returned (.bool (decide (0 ≤ x ∧ x < 3 * f + 1))) ∧ Below W.heap.size W w') := fun x W => knows_any id f x v W hf
  clear h hb0 hf
  go_enter Tryz.func52, Tryz.ntmps52
  go_wp2
  rw [← HW0.out, ← HA.out]
  go_loopw [9] (fun vi wr => ∃ k : Nat, k ≤ n ∧ vi = .int .i64 (k : Int) ∧ Hid (∀ i, i < k → (0 ≤ zs.getD i 0 ∧ zs.getD i 0 < 3 * f + 1) ∧ (0 < i → zs.getD (i - 1) 0 < zs.getD i 0)) ∧ Below w0.heap.size w0 wr) (fun vi _ => n - (intOf vi).toNat)
  case atStart => exact ⟨0, Nat.zero_le _, rfl, fun i hi => absurd hi (Nat.not_lt_zero _), Below.refl _ _⟩
  case round =>
    obtain ⟨k, hk, rfl, HP, hbel⟩ := hrel
    by_cases hlt : k < n
    · have hki : (k : Int) < (n : Int) := by omega
      obtain ⟨b, off, rfl, hc⟩ := (KI.out.below hbel).some (by omega)
      have hck := hc k hlt
      have R1 := HR.out.below hbel HR.out.lt
      have x0 := R1.cell 0
      have x1 := R1.cell 1
      have x2 := R1.cell 2
      simp at x0 x1 x2
      have KB : Hid (Below w0.heap.size w0 wr) := hbel
      have lb := block_lt_of_cell hck
      obtain ⟨z, HZ⟩ : ∃ z, Hid (zs.getD k 0 = z) := ⟨_, rfl⟩
      rw [HZ.out] at hck
      have KN : Hid _ := KK.out z wr
      by_cases hz : 0 ≤ z ∧ z < 3 * f + 1
      · rw [decide_eq_true hz] at KN
        by_cases k0 : k = 0
        · subst k0
          have HP2 : Hid (∀ i, i < 0 + 1 → (0 ≤ zs.getD i 0 ∧ zs.getD i 0 < 3 * f + 1) ∧ (0 < i → zs.getD (i - 1) 0 < zs.getD i 0)) := fun i hi => by
            obtain rfl : i = 0 := by omega
            rw [HZ.out]
            exact ⟨hz, fun h => absurd h (by omega)⟩
          simp only [Nat.add_zero] at hck
          clear hc R1 hbel hz HP
          go_wp2_with fail
          refine Calls.mono KN.out ?_
          rintro e w1 ⟨rfl, b1⟩
          have KB1 : Hid (Below w0.heap.size w0 w1) := below2 KB.out b1
          clear b1 KN x0 x1 x2
          go_wp2
          go_roundw
          case rel => exact ⟨0 + 1, by omega, by go_num, HP2, KB1.out⟩
          case measure => simp [intOf]; omega
        · have k0i : (k : Int) > 0 := by omega
          have hcp := hc (k - 1) (by omega)
          obtain ⟨k1, HK1⟩ : ∃ k1, Hid (k = k1 + 1) := ⟨k - 1, by show k = _; omega⟩
          have e1 : IntKind.i64.wrap ((k : Int) - 1) = (k1 : Int) := by have := HK1.out; rw [IntKind.wrap_i64]; omega
          have hk1i : (k1 : Int) < (n : Int) := by have := HK1.out; omega
          have hk1n : (0 : Int) ≤ (k1 : Int) := by omega
          rw [show k - 1 = k1 by have := HK1.out; omega] at hcp
          obtain ⟨y, HY⟩ : ∃ z, Hid (zs.getD k1 0 = z) := ⟨_, rfl⟩
          rw [HY.out] at hcp
          by_cases hyz : y < z
          · have hyz' : ¬ (y ≥ z) := by omega
            have HP2 : Hid (∀ i, i < k + 1 → (0 ≤ zs.getD i 0 ∧ zs.getD i 0 < 3 * f + 1) ∧ (0 < i → zs.getD (i - 1) 0 < zs.getD i 0)) := fun i hi => by
              by_cases ei : i = k
              · subst ei
                rw [show i - 1 = k1 by have := HK1.out; omega, HZ.out, HY.out]
                exact ⟨hz, fun _ => hyz⟩
              · exact HP.out i (by omega)
            clear hc R1 hbel hz HP hyz
            go_wp2_with fail
            refine Calls.mono KN.out ?_
            rintro e w1 ⟨rfl, b1⟩
            have hcp1 := (b1.cell (p := ⟨b, off + k1, none⟩) lb).trans hcp
            have KB1 : Hid (Below w0.heap.size w0 w1) := below2 KB.out b1
            clear b1 KN x0 x1 x2 hcp hck
            go_wp2
            go_roundw
            case rel => exact ⟨k + 1, by omega, by go_num, HP2, KB1.out⟩
            case measure => simp [intOf]; omega
          · have hyz' : y ≥ z := by omega
            have HN : Hid (numB f zs = false) := numB_no fun h => by
              have := (h k (by omega)).2 (by omega)
              rw [show k - 1 = k1 by have := HK1.out; omega, HZ.out, HY.out] at this
              omega
            clear hc R1 hbel hz HP hyz
            go_wp2_with fail
            refine Calls.mono KN.out ?_
            rintro e w1 ⟨rfl, b1⟩
            have hcp1 := (b1.cell (p := ⟨b, off + k1, none⟩) lb).trans hcp
            have KB1 : Hid (Below w.heap.size w w1) := below2 KB0.out (below2 KB.out b1)
            clear b1 KN x0 x1 x2 hcp hck
            go_wp2
            go_ret
            exact ⟨ret_bool HN.out.symm, KB1.out⟩
      · rw [decide_eq_false hz] at KN
        have HN : Hid (numB f zs = false) := numB_no fun h => hz (by have := (h k (by omega)).1; rw [HZ.out] at this; exact this)
        clear hc R1 hbel hz HP
        go_wp2_with fail
        refine Calls.mono KN.out ?_
        rintro e w1 ⟨rfl, b1⟩
        have KB1 : Hid (Below w.heap.size w w1) := below2 KB0.out (below2 KB.out b1)
        clear b1 KN x0 x1 x2 hck
        go_wp2
        go_ret
        exact ⟨ret_bool HN.out.symm, KB1.out⟩
    · obtain rfl : k = n := by omega
      have HN : Hid (numB f zs = true) := numB_yes fun i hi => HP.out i (by omega)
      have KB1 : Hid (Below w.heap.size w wr) := below2 KB0.out hbel
      clear hbel
      go_wp2
      go_ret
      exact ⟨ret_bool HN.out.symm, KB1.out⟩
end Go.Proofs.YtpomffkpjldloaaGreat
/- The place of a root among slots, in the program and in the model. Conditions: at most 2^20 slots. -/
namespace Go.Proofs.YtpomffkpjldloaaGreat
set_option maxRecDepth 2000
open Go.ChangeShapes Go.WideShapes Go.ChangeAt Go.RowKit

/-- The first place from k on, of f, whose slot is of the root. -/
def plF (S : Nat → Sl) (root : ByteArray) : Nat → Nat → Option Nat
  | 0, _ => none
  | f + 1, k => if (S k).r = root then some k else plF S root f (k + 1)
def plc (S : Nat → Sl) (root : ByteArray) (n : Nat) : Option Nat := plF S root n 0
theorem plF_some {S : Nat → Sl} {root : ByteArray} : ∀ {f k x : Nat}, plF S root f k = some x → k ≤ x ∧ x < k + f ∧ (S x).r = root ∧ ∀ i, k ≤ i → i < x → (S i).r ≠ root
  | 0, _, _, h => by cases h
  | f + 1, k, x, h => by
    unfold plF at h
    by_cases e : (S k).r = root
    · rw [if_pos e] at h
      cases h
      exact ⟨Nat.le_refl _, by omega, e, fun i h1 h2 => by omega⟩
    · rw [if_neg e] at h
      obtain ⟨h1, h2, h3, h4⟩ := plF_some h
      refine ⟨by omega, by omega, h3, fun i hi hx => ?_⟩
      by_cases ei : i = k
      · rw [ei]; exact e
      · exact h4 i (by omega) hx
theorem plF_none {S : Nat → Sl} {root : ByteArray} : ∀ {f k : Nat}, plF S root f k = none → ∀ i, k ≤ i → i < k + f → (S i).r ≠ root
  | 0, _, _, i, h1, h2 => by omega
  | f + 1, k, h, i, h1, h2 => by
    unfold plF at h
    by_cases e : (S k).r = root
    · rw [if_pos e] at h; cases h
    · rw [if_neg e] at h
      by_cases ei : i = k
      · rw [ei]; exact e
      · exact plF_none h i (by omega) (by omega)
def plX (S : Nat → Sl) (root : ByteArray) (n : Nat) : Int := match plc S root n with
  | some x => (x : Int)
  | none => -1
def eqR (s root : ByteArray) : Bool := decide (s = root)
theorem eqR_yes {s root : ByteArray} (h : s = root) : eqR s root = true := decide_eq_true h
theorem eqR_no {s root : ByteArray} (h : s ≠ root) : eqR s root = false := decide_eq_false h
set_option maxHeartbeats 1000000 in
theorem placeFn_any (s : Sl) (v6 v11 v12 : Value) (R : Nat) (root : ByteArray) (w : World) (hR : w.cell? ⟨R, 0, none⟩ = some (.string root)) :
    Calls Tryz.prog 75 #[slV s v6 v11 v12, .pointer (some ⟨R, 0, none⟩)] w fun e w' => e = .returned (.bool (eqR s.r root)) ∧ Below w.heap.size w w' := by
  have lR := block_lt_of_cell hR
  have KB : Hid (Below w.heap.size w (w.alloc (.cells (slC s v6 v11 v12) 103))) := (Below.refl _ _).alloc (Nat.le_refl _) _
  by_cases h : s.r = root
  · rw [eqR_yes h]
    have hb : (s.r.toList == root.toList) = true := by rw [h]; simp
    go_enter Tryz.func75, Tryz.ntmps75
    go_wp2
    go_ret
    exact ⟨rfl, KB.out⟩
  · rw [eqR_no h]
    have hb := ba_ne h
    go_enter Tryz.func75, Tryz.ntmps75
    go_wp2
    go_ret
    exact ⟨rfl, KB.out⟩
set_option maxHeartbeats 2000000 in
theorem index_any (a : Option Addr) (n cap : Nat) (S : Nat → Sl) (R : Nat) (root : ByteArray) (w : World) (h : Rd w (slsD n S) (.slice a n cap)) (hn : n ≤ 1048576) (hR : w.cell? ⟨R, 0, none⟩ = some (.string root)) :
    Calls Tryz.prog 74 #[.slice a n cap, .func (.func 75) #[] #[.pointer (some ⟨R, 0, none⟩)]] w fun e w' => e = .returned (.int .i64 (plX S root n)) ∧ Below w.heap.size w w' := by
  have KH : Hid (Rd w (slsD n S) (.slice a n cap)) := h
  have KR : Hid (w.cell? ⟨R, 0, none⟩ = some (.string root)) := hR
  clear h hR
  go_enter Tryz.func74, Tryz.ntmps74
  go_wp2
  go_loopw [8] (fun vi wr => ∃ k : Nat, k ≤ n ∧ vi = .int .i64 (k : Int) ∧ Hid (plF S root (n - k) k = plc S root n) ∧ Below w.heap.size w wr) (fun vi _ => n - (intOf vi).toNat)
  case atStart => exact ⟨0, Nat.zero_le _, rfl, rfl, Below.refl _ _⟩
  case round =>
    obtain ⟨k, hk, rfl, HP, hbel⟩ := hrel
    by_cases hlt : k < n
    · have hki : (k : Int) < (n : Int) := by omega
      obtain ⟨b1, f1, y1, p6, p11, p12, q6, q11, q12, rfl, hc1, e1, _, _, _⟩ := slot_row (KH.out.below hbel) hlt
      have hRr := (hbel.cell (p := ⟨R, 0, none⟩) (block_lt_of_cell KR.out)).trans KR.out
      have KC := placeFn_any (S k) (.slice p6 (S k).p.m q6) (.slice p11 (S k).ze.length q11) (.slice p12 (S k).zr.length q12) R root wr hRr
      rw [← e1] at KC
      have KF : Hid _ := KC
      obtain ⟨_, x⟩ := one_row (sz := 12) wr (Below.refl _ _) hc1
      have R1 : Hid (wr.rangeAt b1 (f1 + k * 13) [y1 0, y1 1, y1 2, y1 3, y1 4, y1 5, y1 6, y1 7, y1 8, y1 9, y1 10, y1 11, y1 12]) := range13 x
      have KB : Hid (Below w.heap.size w wr) := hbel
      have e2 : n - k = (n - (k + 1)) + 1 := by omega
      have HP' := HP.out
      rw [e2] at HP'
      unfold plF at HP'
      clear KC hc1 e1 x hbel hRr HP e2
      by_cases hr : (S k).r = root
      · rw [if_pos hr] at HP'
        have HI : Hid (plX S root n = (k : Int)) := by show _ = _; unfold plX; rw [← HP']
        rw [eqR_yes hr] at KF
        clear HP' hr
        go_wp2_with (refine wpList_load_mid (by rfl) 103 _ (by rfl) b1 (f1 + k * 13) (by rfl) [y1 0, y1 1, y1 2, y1 3, y1 4, y1 5, y1 6, y1 7, y1 8, y1 9, y1 10, y1 11, y1 12] _ ?_ Tryz.underlying103 (by rfl) Tryz.infoSl ?_; exact R1.out)
        refine Calls.mono KF.out ?_
        rintro e w1 ⟨rfl, b1'⟩
        have KB1 : Hid (Below w.heap.size w w1) := below2 KB.out b1'
        clear b1'
        go_wp2
        go_ret
        exact ⟨ret_int HI.out.symm, KB1.out⟩
      · rw [if_neg hr] at HP'
        have HP2 : Hid (plF S root (n - (k + 1)) (k + 1) = plc S root n) := HP'
        rw [eqR_no hr] at KF
        clear HP' hr
        go_wp2_with (refine wpList_load_mid (by rfl) 103 _ (by rfl) b1 (f1 + k * 13) (by rfl) [y1 0, y1 1, y1 2, y1 3, y1 4, y1 5, y1 6, y1 7, y1 8, y1 9, y1 10, y1 11, y1 12] _ ?_ Tryz.underlying103 (by rfl) Tryz.infoSl ?_; exact R1.out)
        refine Calls.mono KF.out ?_
        rintro e w1 ⟨rfl, b1'⟩
        have KB1 : Hid (Below w.heap.size w w1) := below2 KB.out b1'
        clear b1' KF R1
        go_wp2
        go_roundw
        case rel => exact ⟨k + 1, by omega, by go_num, HP2, KB1.out⟩
        case measure => simp [intOf]; omega
    · obtain rfl : k = n := by omega
      have HI : Hid (plX S root k = -1) := by
        have := HP.out
        rw [Nat.sub_self] at this
        show _ = _
        unfold plX
        rw [← this]
        rfl
      go_wp2
      go_ret
      exact ⟨ret_int HI.out.symm, hbel⟩
set_option maxHeartbeats 1000000 in
theorem placeOf_any (id f : Int) (a : Option Addr) (n cap : Nat) (S : Nat → Sl) (root : ByteArray) (w : World) (h : Rd w (slsD n S) (.slice a n cap)) (hn : n ≤ 1048576) :
    Calls Tryz.prog 63 #[ndV id f (.slice a n cap), .string root] w fun e w' => e = .returned (.int .i64 (plX S root n)) ∧ Below w.heap.size w w' := by
  have hmf : ∀ (fn : Fn) (first cap : Array Value) (w : World), (Instr.makeFunc fn first cap).run Tryz.prog w = .ok (.func fn first cap) w := fun _ _ _ _ => rfl
  obtain ⟨R, HR⟩ : ∃ x, Hid (x = w.heap.size + 1) := ⟨_, rfl⟩
  obtain ⟨w0, HW0⟩ : ∃ x, Hid (x = (w.alloc (.cells #[.int .i64 id, .int .i64 f, .slice a n cap] 68)).alloc (.cells #[.string root] 9)) := ⟨_, rfl⟩
  have hb0 : Below w.heap.size w w0 := by rw [HW0.out]; exact ((Below.refl _ _).alloc (Nat.le_refl _) _).alloc (by simp) _
  have KB0 : Hid (Below w.heap.size w w0) := hb0
  have hc : w0.cell? ⟨R, 0, none⟩ = some (.string root) := by rw [HW0.out, HR.out]; simp
  have KI : Hid _ := index_any a n cap S R root w0 (h.below hb0) hn hc
  clear h hb0 hc
  go_enter Tryz.func63, Tryz.ntmps63
  go_wp2_with fail
  rw [← HW0.out, ← HR.out]
  refine Calls.mono KI.out ?_
  rintro e w1 ⟨rfl, b1⟩
  go_wp2
  go_ret
  exact ⟨rfl, below2 KB0.out b1⟩
end Go.Proofs.YtpomffkpjldloaaGreat
/- Lists of nodes' numbers in the model. Conditions: F from 1 to 3, lists of at most 2^20. -/
namespace Go.Proofs.YtpomffkpjldloaaGreat
set_option maxRecDepth 2000
open Go.ChangeShapes Go.WideShapes Go.ChangeAt Go.RowKit

set_option maxHeartbeats 4000000 in
theorem sNums_any (f : Int) (a : Option Addr) (n cap : Nat) (zs : List Int) (w : World) (h : IntsAt w a n zs) (hf : 1 ≤ f ∧ f ≤ 3) (hn : n ≤ 1048576) :
    Calls Tryz.prog 27 #[.slice a n cap, .int .i64 f] w fun e w' => e = .returned (.bool (numB f zs)) ∧ Below w.heap.size w w' := by
  have KI : Hid (IntsAt w a n zs) := h
  have hl : zs.length = n := h.1
  have KA : Hid (∀ W, Calls Tryz.prog 28 #[.int .i64 f] W fun e w' => e = .returned (.int .i64 (3 * f + 1)) ∧ w' = W) := fun W => sAllN_any f W hf
  obtain ⟨m, HM⟩ : ∃ m : Int, Hid (3 * f + 1 = m) := ⟨_, rfl⟩
  rw [HM.out] at KA
  have HF : Hid (1 ≤ f ∧ f ≤ 3) := hf
  have em : IntKind.i64.wrap (m - 1) = 3 * f := by have := HM.out; rw [IntKind.wrap_i64]; omega
  obtain ⟨m1, HM1⟩ : ∃ m1 : Int, Hid (3 * f = m1) := ⟨_, rfl⟩
  rw [HM1.out] at em
  clear h hf
  go_enter Tryz.func27, Tryz.ntmps27
  go_wp2
  go_loopw [5] (fun vi wr => ∃ k : Nat, k ≤ n ∧ vi = .int .i64 (k : Int) ∧ Hid (∀ i, i < k → (0 ≤ zs.getD i 0 ∧ zs.getD i 0 < 3 * f + 1) ∧ (0 < i → zs.getD (i - 1) 0 < zs.getD i 0)) ∧ Below w.heap.size w wr) (fun vi _ => n - (intOf vi).toNat)
  case atStart => exact ⟨0, Nat.zero_le _, rfl, fun i hi => absurd hi (Nat.not_lt_zero _), Below.refl _ _⟩
  case round =>
    obtain ⟨k, hk, rfl, HP, hbel⟩ := hrel
    by_cases hlt : k < n
    · have hki : (k : Int) < (n : Int) := by omega
      obtain ⟨b, off, rfl, hc⟩ := (KI.out.below hbel).some (by omega)
      have hck := hc k hlt
      obtain ⟨z, HZ⟩ : ∃ z, Hid (zs.getD k 0 = z) := ⟨_, rfl⟩
      rw [HZ.out] at hck
      by_cases hz : 0 ≤ z ∧ z < 3 * f + 1
      case neg =>
        have hin : inB z 0 m1 = false := by have := HM1.out; unfold inB; simp; omega
        have HN : Hid (numB f zs = false) := numB_no fun h => hz (by have := (h k (by omega)).1; rw [HZ.out] at this; exact this)
        clear hc hz HP
        go_wp2_with fail
        go_quiet (first | (go_at_call 28; exact Calls.quiet_of_same (KA.out _)) | (go_at_call 26; exact Calls.quiet_of_same (sIn_any _ _ _ _)))
        go_wp2
        go_ret
        exact ⟨ret_bool HN.out.symm, below_drewN hbel _⟩
      have hin : inB z 0 m1 = true := by have := HM1.out; unfold inB; simp; omega
      by_cases k0 : k = 0
      · subst k0
        have HP2 : Hid (∀ i, i < 0 + 1 → (0 ≤ zs.getD i 0 ∧ zs.getD i 0 < 3 * f + 1) ∧ (0 < i → zs.getD (i - 1) 0 < zs.getD i 0)) := fun i hi => by
          obtain rfl : i = 0 := by omega
          rw [HZ.out]
          exact ⟨hz, fun h => absurd h (by omega)⟩
        simp only [Nat.add_zero] at hck
        clear hc hz HP
        go_wp2_with fail
        go_quiet (first | (go_at_call 28; exact Calls.quiet_of_same (KA.out _)) | (go_at_call 26; exact Calls.quiet_of_same (sIn_any _ _ _ _)))
        go_wp2
        go_roundw
        case rel => exact ⟨0 + 1, by omega, by go_num, HP2, below_drewN hbel _⟩
        case measure => simp [intOf]; omega
      · have k0i : 0 < k := by omega
        have k0d : decide (0 < k) = true := decide_eq_true k0i
        have hcp := hc (k - 1) (by omega)
        obtain ⟨k1, HK1⟩ : ∃ k1, Hid (k = k1 + 1) := ⟨k - 1, by show k = _; omega⟩
        have e1 : IntKind.i64.wrap ((k : Int) - 1) = (k1 : Int) := by have := HK1.out; rw [IntKind.wrap_i64]; omega
        have hk1i : (k1 : Int) < (n : Int) := by have := HK1.out; omega
        have hk1n : (0 : Int) ≤ (k1 : Int) := by omega
        rw [show k - 1 = k1 by have := HK1.out; omega] at hcp
        obtain ⟨y, HY⟩ : ∃ z, Hid (zs.getD k1 0 = z) := ⟨_, rfl⟩
        rw [HY.out] at hcp
        by_cases hyz : y < z
        · have hyz' : ¬ (z ≤ y) := by omega
          have HP2 : Hid (∀ i, i < k + 1 → (0 ≤ zs.getD i 0 ∧ zs.getD i 0 < 3 * f + 1) ∧ (0 < i → zs.getD (i - 1) 0 < zs.getD i 0)) := fun i hi => by
            by_cases ei : i = k
            · subst ei
              rw [show i - 1 = k1 by have := HK1.out; omega, HZ.out, HY.out]
              exact ⟨hz, fun _ => hyz⟩
            · exact HP.out i (by omega)
          clear hc hz HP hyz
          go_wp2_with fail
          go_quiet (first | (go_at_call 28; exact Calls.quiet_of_same (KA.out _)) | (go_at_call 26; exact Calls.quiet_of_same (sIn_any _ _ _ _)))
          go_wp2
          go_roundw
          case rel => exact ⟨k + 1, by omega, by go_num, HP2, below_drewN hbel _⟩
          case measure => simp [intOf]; omega
        · have hyz' : z ≤ y := by omega
          have HN : Hid (numB f zs = false) := numB_no fun h => by
            have := (h k (by omega)).2 (by omega)
            rw [show k - 1 = k1 by have := HK1.out; omega, HZ.out, HY.out] at this
            omega
          clear hc hz HP hyz
          go_wp2_with fail
          go_quiet (first | (go_at_call 28; exact Calls.quiet_of_same (KA.out _)) | (go_at_call 26; exact Calls.quiet_of_same (sIn_any _ _ _ _)))
          go_wp2
          go_ret
          exact ⟨ret_bool HN.out.symm, below_drewN hbel _⟩
    · obtain rfl : k = n := by omega
      have HN : Hid (numB f zs = true) := numB_yes fun i hi => HP.out i (by omega)
      go_wp2
      go_ret
      exact ⟨ret_bool HN.out.symm, hbel⟩
end Go.Proofs.YtpomffkpjldloaaGreat
