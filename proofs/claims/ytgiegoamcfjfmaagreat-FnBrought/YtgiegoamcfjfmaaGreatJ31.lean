/- Slots, nodes and sayings by plain values, and as the machine holds them. Definitions and lemmas; no walk. -/
import Derived.Test.YtgiegoamcfjfmaaGreatJ11
import Derived.Test.YtgiegoamcfjfmaaGreatJ30
import Derived.Test.YtgiegoamcfjfmaaGreatJ8
import Derived.Test.YtgiegoamcfjfmaaGreatJ6
import Derived.Deep.RegionHeld3
import Derived.Test.YtgiegoamcfjfmaaGreatJ28
import Derived.BigQuiet
import Derived.Test.YtgiegoamcfjfmaaGreatRows
import Derived.Deep.Slices
import Derived.Test.YtgiegoamcfjfmaaGreatJ12
namespace Go.Proofs.YtgiegoamcfjfmaaGreat
set_option maxRecDepth 2000
open Go.ChangeShapes Go.WideShapes Go.ChangeAt Go.RowKit

/-- A slot by plain values. -/
structure Sl where
  r : ByteArray
  p : Pc
  h : Bool
  e : Bool
  d : Bool
  o : Bool
  ze : List Int
  zr : List Int
def slD (s : Sl) : Nat → Dt
  | 0 => .val (.string s.r)
  | 1 => .val (.string s.p.r)
  | 2 => .val (.int .i64 s.p.k)
  | 3 => .val (.int .i64 s.p.n)
  | 4 => .val (.int .i64 s.p.i)
  | 5 => .val (.string s.p.b)
  | 6 => txD s.p.m s.p.S
  | 7 => .val (.bool s.h)
  | 8 => .val (.bool s.e)
  | 9 => .val (.bool s.d)
  | 10 => .val (.bool s.o)
  | 11 => inD s.ze
  | _ => inD s.zr
abbrev slC (s : Sl) (v6 v11 v12 : Value) : Array Value := #[.string s.r, .string s.p.r, .int .i64 s.p.k, .int .i64 s.p.n, .int .i64 s.p.i, .string s.p.b, v6, .bool s.h, .bool s.e, .bool s.d, .bool s.o, v11, v12]
abbrev slV (s : Sl) (v6 v11 v12 : Value) : Value := .agg (slC s v6 v11 v12)
/-- A saying by plain values. -/
structure Sy where
  k : Int
  f : Int
  t : Int
  r : ByteArray
  p : Pc
def syD (s : Sy) : Nat → Dt
  | 0 => .val (.int .i64 s.k)
  | 1 => .val (.int .i64 s.f)
  | 2 => .val (.int .i64 s.t)
  | 3 => .val (.string s.r)
  | 4 => .val (.string s.p.r)
  | 5 => .val (.int .i64 s.p.k)
  | 6 => .val (.int .i64 s.p.n)
  | 7 => .val (.int .i64 s.p.i)
  | 8 => .val (.string s.p.b)
  | _ => txD s.p.m s.p.S
abbrev syC (s : Sy) (v : Value) : Array Value := #[.int .i64 s.k, .int .i64 s.f, .int .i64 s.t, .string s.r, .string s.p.r, .int .i64 s.p.k, .int .i64 s.p.n, .int .i64 s.p.i, .string s.p.b, v]
abbrev syV (s : Sy) (v : Value) : Value := .agg (syC s v)
/-- A struct's value by its cells. -/
abbrev ag13 (y : Nat → Value) : Value := .agg #[y 0, y 1, y 2, y 3, y 4, y 5, y 6, y 7, y 8, y 9, y 10, y 11, y 12]
abbrev ag10 (y : Nat → Value) : Value := .agg #[y 0, y 1, y 2, y 3, y 4, y 5, y 6, y 7, y 8, y 9]
/-- Lists of slots and of sayings. -/
def slsD (n : Nat) (S : Nat → Sl) : Dt := .lst 62 13 n fun i => slD (S i)
def sysD (n : Nat) (S : Nat → Sy) : Dt := .lst 41 10 n fun i => syD (S i)
/-- A slot that is read, with its cells. -/
theorem slot_row {w : World} {n : Nat} {S : Nat → Sl} {a : Option Addr} {cap : Nat} (h : Rd w (slsD n S) (.slice a n cap)) {i : Nat} (hi : i < n) :
    ∃ (b off : Nat) (y : Nat → Value) (a6 a11 a12 : Option Addr) (c6 c11 c12 : Nat), a = some ⟨b, off, none⟩ ∧ (∀ q, q < 13 → w.cell? ⟨b, off + (i * 13 + q), none⟩ = some (y q)) ∧ ag13 y = slV (S i) (.slice a6 (S i).p.m c6) (.slice a11 (S i).ze.length c11) (.slice a12 (S i).zr.length c12) ∧ TxtAt w a6 (S i).p.m (S i).p.S ∧ IntsAt w a11 (S i).ze.length (S i).ze ∧ IntsAt w a12 (S i).zr.length (S i).zr := by
  obtain ⟨b, off, y, ea, hc, hr⟩ := h.row hi
  obtain ⟨a6, c6, e6⟩ := (hr 6 (by omega)).shape
  have r6 : Rd w (txD (S i).p.m (S i).p.S) (y 6) := hr 6 (by omega)
  rw [e6] at r6
  obtain ⟨a11, c11, e11⟩ := (hr 11 (by omega)).shape
  have r11 : Rd w (inD (S i).ze) (y 11) := hr 11 (by omega)
  rw [e11] at r11
  obtain ⟨a12, c12, e12⟩ := (hr 12 (by omega)).shape
  have r12 : Rd w (inD (S i).zr) (y 12) := hr 12 (by omega)
  rw [e12] at r12
  have g0 := hr 0 (by omega)
  have g1 := hr 1 (by omega)
  have g2 := hr 2 (by omega)
  have g3 := hr 3 (by omega)
  have g4 := hr 4 (by omega)
  have g5 := hr 5 (by omega)
  have g7 := hr 7 (by omega)
  have g8 := hr 8 (by omega)
  have g9 := hr 9 (by omega)
  have g10 := hr 10 (by omega)
  simp only [Rd, slD] at g0 g1 g2 g3 g4 g5 g7 g8 g9 g10
  exact ⟨b, off, y, a6, a11, a12, c6, c11, c12, ea, hc, by simp only [ag13, slV, slC, g0, g1, g2, g3, g4, g5, g7, g8, g9, g10, e6, e11, e12], rd_txt.1 r6, rd_ints.1 r11, rd_ints.1 r12⟩
/-- A saying that is read, with its cells. -/
theorem say_row {w : World} {n : Nat} {S : Nat → Sy} {a : Option Addr} {cap : Nat} (h : Rd w (sysD n S) (.slice a n cap)) {i : Nat} (hi : i < n) :
    ∃ (b off : Nat) (y : Nat → Value) (a9 : Option Addr) (c9 : Nat), a = some ⟨b, off, none⟩ ∧ (∀ q, q < 10 → w.cell? ⟨b, off + (i * 10 + q), none⟩ = some (y q)) ∧ ag10 y = syV (S i) (.slice a9 (S i).p.m c9) ∧ TxtAt w a9 (S i).p.m (S i).p.S := by
  obtain ⟨b, off, y, ea, hc, hr⟩ := h.row hi
  obtain ⟨a9, c9, e9⟩ := (hr 9 (by omega)).shape
  have r9 : Rd w (txD (S i).p.m (S i).p.S) (y 9) := hr 9 (by omega)
  rw [e9] at r9
  have g0 := hr 0 (by omega)
  have g1 := hr 1 (by omega)
  have g2 := hr 2 (by omega)
  have g3 := hr 3 (by omega)
  have g4 := hr 4 (by omega)
  have g5 := hr 5 (by omega)
  have g6 := hr 6 (by omega)
  have g7 := hr 7 (by omega)
  have g8 := hr 8 (by omega)
  simp only [Rd, syD] at g0 g1 g2 g3 g4 g5 g6 g7 g8
  exact ⟨b, off, y, a9, c9, ea, hc, by simp only [ag10, syV, syC, g0, g1, g2, g3, g4, g5, g6, g7, g8, e9], rd_txt.1 r9⟩
theorem range13 {w : World} {b o : Nat} {y : Nat → Value} (h : ∀ q, q < 13 → w.cell? ⟨b, o + q, none⟩ = some (y q)) : w.rangeAt b o [y 0, y 1, y 2, y 3, y 4, y 5, y 6, y 7, y 8, y 9, y 10, y 11, y 12] := fun j v hv => by
  have hj : j < 13 := (List.getElem?_eq_some_iff.1 hv).1
  rw [h j hj, ← hv]
  match j, hj with
  | 0, _ | 1, _ | 2, _ | 3, _ | 4, _ | 5, _ | 6, _ | 7, _ | 8, _ | 9, _ | 10, _ | 11, _ | 12, _ => rfl
theorem range10 {w : World} {b o : Nat} {y : Nat → Value} (h : ∀ q, q < 10 → w.cell? ⟨b, o + q, none⟩ = some (y q)) : w.rangeAt b o [y 0, y 1, y 2, y 3, y 4, y 5, y 6, y 7, y 8, y 9] := fun j v hv => by
  have hj : j < 10 := (List.getElem?_eq_some_iff.1 hv).1
  rw [h j hj, ← hv]
  match j, hj with
  | 0, _ | 1, _ | 2, _ | 3, _ | 4, _ | 5, _ | 6, _ | 7, _ | 8, _ | 9, _ => rfl
theorem Tryz.infoSl : (Tryz.prog.info? 62).map (·.size) = some 13 := by kernel_rfl
theorem Tryz.infoNd : (Tryz.prog.info? 34).map (·.size) = some 3 := by kernel_rfl
theorem Tryz.infoSy : (Tryz.prog.info? 41).map (·.size) = some 10 := by kernel_rfl
end Go.Proofs.YtgiegoamcfjfmaaGreat
/- Slots, lists of slots and nodes, compared by the exact laws: equal ones. Conditions: no list is longer than 2^20. -/
namespace Go.Proofs.YtgiegoamcfjfmaaGreat
set_option maxRecDepth 2000
open Go.ChangeShapes Go.WideShapes Go.ChangeAt Go.RowKit

/-- The lists of a slot are of a size that the laws bear. -/
def SlS (s : Sl) : Prop := s.p.m ≤ 1048576 ∧ s.ze.length ≤ 1048576 ∧ s.zr.length ≤ 1048576
/-- The cells of one struct of each of two lists, in every world that grew out of the first. -/
theorem one_row {w : World} {b off i sz : Nat} {y : Nat → Value} (W : World) (hW : Below w.heap.size w W) (h : ∀ q, q < sz + 1 → w.cell? ⟨b, off + (i * (sz + 1) + q), none⟩ = some (y q)) :
    W.cell? ⟨b, off + i * (sz + 1), none⟩ = some (y 0) ∧ (∀ q, q < sz + 1 → W.cell? ⟨b, off + i * (sz + 1) + q, none⟩ = some (y q)) := by
  have k : ∀ q, q < sz + 1 → W.cell? ⟨b, off + i * (sz + 1) + q, none⟩ = some (y q) := fun q hq => by
    have := h q hq
    rw [← Nat.add_assoc] at this
    exact (hW.cell (p := ⟨b, off + i * (sz + 1) + q, none⟩) (block_lt_of_cell this)).trans this
  exact ⟨k 0 (by omega), k⟩
theorem two_rows {w : World} {b off b' off' i sz : Nat} {y y' : Nat → Value} (W : World) (hW : Below w.heap.size w W) (h : ∀ q, q < sz + 1 → w.cell? ⟨b, off + (i * (sz + 1) + q), none⟩ = some (y q)) (h' : ∀ q, q < sz + 1 → w.cell? ⟨b', off' + (i * (sz + 1) + q), none⟩ = some (y' q)) :
    W.cell? ⟨b, off + i * (sz + 1), none⟩ = some (y 0) ∧ (∀ q, q < sz + 1 → W.cell? ⟨b, off + i * (sz + 1) + q, none⟩ = some (y q)) ∧ W.cell? ⟨b', off' + i * (sz + 1), none⟩ = some (y' 0) ∧ (∀ q, q < sz + 1 → W.cell? ⟨b', off' + i * (sz + 1) + q, none⟩ = some (y' q)) := by
  obtain ⟨h1, h2⟩ := one_row W hW h
  obtain ⟨h3, h4⟩ := one_row W hW h'
  exact ⟨h1, h2, h3, h4⟩
end Go.Proofs.YtgiegoamcfjfmaaGreat
/- Sayings and lists of them, compared by the exact laws: equal ones. Conditions: no list is longer than 2^20. Written by mknsay.py. -/
namespace Go.Proofs.YtgiegoamcfjfmaaGreat
set_option maxRecDepth 2000
open Go.ChangeShapes Go.WideShapes Go.ChangeAt Go.RowKit

end Go.Proofs.YtgiegoamcfjfmaaGreat
/- A new node, in the program and in the model; a node's F and number. No condition. -/
namespace Go.Proofs.YtgiegoamcfjfmaaGreat
set_option maxRecDepth 2000
open Go.ChangeShapes Go.WideShapes Go.ChangeAt Go.RowKit

/-- F and the number are so. -/
def seB (id f : Int) : Bool := decide (1 ≤ f ∧ f ≤ 3 ∧ 0 ≤ id ∧ id < 3 * f + 1)
def fB (f : Int) : Bool := decide (1 ≤ f ∧ f ≤ 3)
abbrev ndV (id f : Int) (v : Value) : Value := .agg #[.int .i64 id, .int .i64 f, v]
theorem three_wrap {f : Int} (h : 1 ≤ f ∧ f ≤ 3) : IntKind.i64.wrap (3 * f) = 3 * f ∧ IntKind.i64.wrap (3 * f + 1) = 3 * f + 1 := by
  constructor <;> (rw [IntKind.wrap_i64]; omega)
set_option maxHeartbeats 1000000 in
theorem isF_any (f : Int) (w : World) : Calls Tryz.prog 87 #[.int .i64 f] w fun e w' => e = .returned (.bool (fB f)) ∧ w' = w := by
  by_cases h1 : 1 ≤ f
  · by_cases h2 : f ≤ 3
    · have e : fB f = true := decide_eq_true ⟨h1, h2⟩
      rw [e]
      go_enter Tryz.func87, Tryz.ntmps87
      go_wp2
      go_ret
      exact ⟨rfl, rfl⟩
    · have e : fB f = false := decide_eq_false (fun h => h2 h.2)
      rw [e]
      go_enter Tryz.func87, Tryz.ntmps87
      go_wp2
      go_ret
      exact ⟨rfl, rfl⟩
  · have e : fB f = false := decide_eq_false (fun h => h1 h.1)
    rw [e]
    go_enter Tryz.func87, Tryz.ntmps87
    go_wp2
    go_ret
    exact ⟨rfl, rfl⟩
theorem nodeCount_any (f : Int) (w : World) (h : 1 ≤ f ∧ f ≤ 3) : Calls Tryz.prog 90 #[.int .i64 f] w fun e w' => e = .returned (.int .i64 (3 * f + 1)) ∧ w' = w := by
  obtain ⟨e1, e2⟩ := three_wrap h
  go_enter Tryz.func90, Tryz.ntmps90
  go_wp2
  go_ret
  exact ⟨rfl, rfl⟩
theorem pieceNeed_any (f : Int) (w : World) (h : 1 ≤ f ∧ f ≤ 3) : Calls Tryz.prog 89 #[.int .i64 f] w fun e w' => e = .returned (.int .i64 (f + 1)) ∧ w' = w := by
  have e1 : IntKind.i64.wrap (f + 1) = f + 1 := by rw [IntKind.wrap_i64]; omega
  go_enter Tryz.func89, Tryz.ntmps89
  go_wp2
  go_ret
  exact ⟨rfl, rfl⟩
theorem sAllN_any (f : Int) (w : World) (h : 1 ≤ f ∧ f ≤ 3) : Calls Tryz.prog 66 #[.int .i64 f] w fun e w' => e = .returned (.int .i64 (3 * f + 1)) ∧ w' = w := by
  obtain ⟨e1, e2⟩ := three_wrap h
  go_enter Tryz.func66, Tryz.ntmps66
  go_wp2
  go_ret
  exact ⟨rfl, rfl⟩
set_option maxHeartbeats 1000000 in
theorem knows_any (id f x : Int) (v : Value) (w : World) (h : 1 ≤ f ∧ f ≤ 3) : Calls Tryz.prog 133 #[ndV id f v, .int .i64 x] w fun e w' => e = .returned (.bool (decide (0 ≤ x ∧ x < 3 * f + 1))) ∧ Below w.heap.size w w' := by
  have KN : Hid (∀ W, Calls Tryz.prog 90 #[.int .i64 f] W fun e w' => e = .returned (.int .i64 (3 * f + 1)) ∧ w' = W) := fun W => nodeCount_any f W h
  have KB : Hid (Below w.heap.size w (w.alloc (.cells #[.int .i64 id, .int .i64 f, v] 34))) := (Below.refl _ _).alloc (Nat.le_refl _) _
  obtain ⟨m, HM⟩ : ∃ m, Hid (3 * f + 1 = m) := ⟨_, rfl⟩
  rw [HM.out] at KN ⊢
  by_cases h1 : 0 ≤ x
  · have h1' : x ≥ 0 := h1
    by_cases h2 : x < m
    · have e : decide (0 ≤ x ∧ x < m) = true := decide_eq_true ⟨h1, h2⟩
      rw [e]
      go_enter Tryz.func133, Tryz.ntmps133
      go_wp2_with (go_at_call 90; refine Calls.mono (KN.out _) ?_; rintro e w' ⟨rfl, hw⟩; obtain rfl := hw.symm; clear hw)
      go_ret
      exact ⟨rfl, KB.out⟩
    · have e : decide (0 ≤ x ∧ x < m) = false := decide_eq_false (fun h => h2 h.2)
      rw [e]
      go_enter Tryz.func133, Tryz.ntmps133
      go_wp2_with (go_at_call 90; refine Calls.mono (KN.out _) ?_; rintro e w' ⟨rfl, hw⟩; obtain rfl := hw.symm; clear hw)
      go_ret
      exact ⟨by simp [h2], KB.out⟩
  · have h1' : ¬ x ≥ 0 := h1
    have e : decide (0 ≤ x ∧ x < m) = false := decide_eq_false (fun h => h1 h.1)
    rw [e]
    go_enter Tryz.func133, Tryz.ntmps133
    go_wp2_with (go_at_call 90; refine Calls.mono (KN.out _) ?_; rintro e w' ⟨rfl, hw⟩; obtain rfl := hw.symm; clear hw)
    go_ret
    exact ⟨rfl, KB.out⟩
set_option maxHeartbeats 1000000 in
theorem isSeated_any (id f : Int) (v : Value) (w : World) : Calls Tryz.prog 93 #[ndV id f v] w fun e w' => e = .returned (.bool (seB id f)) ∧ Below w.heap.size w w' := by
  obtain ⟨w0, HW0⟩ : ∃ x, Hid (x = w.alloc (.cells #[.int .i64 id, .int .i64 f, v] 34)) := ⟨_, rfl⟩
  have KB : Hid (Below w.heap.size w w0) := by show Below _ _ _; rw [HW0.out]; exact (Below.refl _ _).alloc (Nat.le_refl _) _
  obtain ⟨A, HA⟩ : ∃ x, Hid (x = w.heap.size) := ⟨_, rfl⟩
  have HR : Hid (Row w0 A 34 #[.int .i64 id, .int .i64 f, v]) := by show Row _ _ _ _; rw [HW0.out, HA.out]; exact Row.new w _ _
  have KF : Hid (∀ W, Calls Tryz.prog 87 #[.int .i64 f] W fun e w' => e = .returned (.bool (fB f)) ∧ w' = W) := isF_any f
  by_cases hf : 1 ≤ f ∧ f ≤ 3
  · have e : fB f = true := decide_eq_true hf
    have HE : Hid (decide (0 ≤ id ∧ id < 3 * f + 1) = seB id f) := by
      show _ = _
      unfold seB
      simp [hf.1, hf.2]
    have KK : Hid (Calls Tryz.prog 133 #[ndV id f v, .int .i64 id] w0 fun e w' => e = .returned (.bool (seB id f)) ∧ Below w0.heap.size w0 w') := by
      have := knows_any id f id v w0 hf
      rw [HE.out] at this
      exact this
    rw [e] at KF
    have x0 := HR.out.cell 0
    have x1 := HR.out.cell 1
    have x2 := HR.out.cell 2
    simp at x0 x1 x2
    go_enter Tryz.func93, Tryz.ntmps93
    go_wp2_with fail
    rw [← HW0.out, ← HA.out]
    refine Calls.mono (KF.out _) ?_
    rintro e w' ⟨rfl, hw⟩
    obtain rfl := hw.symm
    clear hw
    go_wp2_with fail
    refine Calls.mono KK.out ?_
    rintro e w1 ⟨rfl, b1⟩
    go_wp2
    go_ret
    exact ⟨rfl, below2 KB.out b1⟩
  · have e : fB f = false := decide_eq_false hf
    have e2 : seB id f = false := decide_eq_false (fun h => hf ⟨h.1, h.2.1⟩)
    rw [e] at KF
    rw [e2]
    go_enter Tryz.func93, Tryz.ntmps93
    go_wp2_with fail
    rw [← HW0.out, ← HA.out]
    refine Calls.mono (KF.out _) ?_
    rintro e w' ⟨rfl, hw⟩
    obtain rfl := hw.symm
    clear hw
    go_wp2
    go_ret
    exact ⟨rfl, KB.out⟩
set_option maxHeartbeats 1000000 in
theorem nodeStart_any (id f : Int) (w : World) : Calls Tryz.prog 28 #[.int .i64 id, .int .i64 f] w fun e w' => ∃ a : Option Addr, e = .returned (.tuple #[ndV (if seB id f then id else 0) (if seB id f then f else 0) (.slice a 0 0), .bool (seB id f)]) ∧ w'.ownsRow w.heap.size 62 13 (.slice a 0 0) 0 [] ∧ Below w.heap.size w w' := by
  obtain ⟨D, HD⟩ : ∃ x, Hid (x = w.heap.size) := ⟨_, rfl⟩
  obtain ⟨G, HG⟩ : ∃ x, Hid (x = w.heap.size + 1) := ⟨_, rfl⟩
  obtain ⟨V, HV⟩ : ∃ x, Hid (x = w.heap.size + 1 + 1) := ⟨_, rfl⟩
  obtain ⟨w0, HW0⟩ : ∃ x, Hid (x = ((w.alloc (.cells #[.int .i64 0, .int .i64 0, .slice none 0 0] 34)).alloc (.cells #[] 62)).alloc (.cells #[.int .i64 id, .int .i64 f, .slice (some ⟨G, 0, none⟩) 0 0] 34)) := ⟨_, rfl⟩
  have RD : Hid (Row w0 D 34 #[.int .i64 0, .int .i64 0, .slice none 0 0]) := by show Row _ _ _ _; rw [HW0.out, HD.out]; exact Row.alloc (Row.alloc (Row.new w _ _) _) _
  have RV : Hid (Row w0 V 34 #[.int .i64 id, .int .i64 f, .slice (some ⟨G, 0, none⟩) 0 0]) := by
    show Row _ _ _ _
    rw [HW0.out, HV.out, HG.out]
    have := Row.new ((w.alloc (.cells #[.int .i64 0, .int .i64 0, .slice none 0 0] 34)).alloc (.cells #[] 62)) #[.int .i64 id, .int .i64 f, .slice (some ⟨w.heap.size + 1, 0, none⟩) 0 0] 34
    simpa using this
  have OG : Hid (w0.ownsRow w.heap.size 62 13 (.slice (some ⟨G, 0, none⟩) 0 0) 0 []) := by
    show World.ownsRow _ _ _ _ _ _ _
    rw [HW0.out, HG.out]
    have := World.ownsRow_lit (e := 62) (size := 13) (base := w.heap.size) (w.alloc (.cells #[.int .i64 0, .int .i64 0, .slice none 0 0] 34)) #[] 0 (by simp) (by unfold maxLen; omega) (by simp)
    have := World.ownsRow.alloc this (.cells #[.int .i64 id, .int .i64 f, .slice (some ⟨w.heap.size + 1, 0, none⟩) 0 0] 34)
    simpa using this
  have b0 : Below w.heap.size w w0 := by rw [HW0.out]; exact (((Below.refl _ _).alloc (Nat.le_refl _) _).alloc (by simp) _).alloc (by simp; omega) _
  have hDw : w.heap.size ≤ D := by rw [HD.out]; exact Nat.le_refl _
  have hGD : Hid (G ≠ D) := by have := HG.out; have := HD.out; show G ≠ D; omega
  have KB0 : Hid (Below w.heap.size w w0) := b0
  have lD := RD.out.lt
  have KS : Hid _ := isSeated_any id f (.slice (some ⟨G, 0, none⟩) 0 0) w0
  have y0 := RV.out.cell 0
  have y1 := RV.out.cell 1
  have y2 := RV.out.cell 2
  simp at y0 y1 y2
  cases hse : seB id f with
  | true =>
    rw [hse] at KS
    clear b0
    go_enter Tryz.func28, Tryz.ntmps28
    go_wp2_with fail
    rw [← HV.out, ← HG.out, ← HW0.out, ← HD.out]
    refine Calls.mono KS.out ?_
    rintro e w1 ⟨rfl, b1⟩
    have R1 := RD.out.below b1 lD
    have V1 := RV.out.below b1 RV.out.lt
    have x0 := R1.cell 0
    have x1 := R1.cell 1
    have x2 := R1.cell 2
    have f0 := R1.free 0
    have f1 := R1.free 1
    have f2 := R1.free 2
    have z0 := V1.cell 0
    have z1 := V1.cell 1
    have z2 := V1.cell 2
    simp at x0 x1 x2 z0 z1 z2
    have HR3 : Hid (Row (((w1.setCell ⟨D, 0, none⟩ (.int .i64 id)).setCell ⟨D, 1, none⟩ (.int .i64 f)).setCell ⟨D, 2, none⟩ (.slice (some ⟨G, 0, none⟩) 0 0)) D 34 #[.int .i64 id, .int .i64 f, .slice (some ⟨G, 0, none⟩) 0 0]) := ((R1.set 0 _).set 1 _).set 2 _
    have HB3 : Hid (Below w.heap.size w (((w1.setCell ⟨D, 0, none⟩ (.int .i64 id)).setCell ⟨D, 1, none⟩ (.int .i64 f)).setCell ⟨D, 2, none⟩ (.slice (some ⟨G, 0, none⟩) 0 0))) := Below.setCell (Below.setCell (Below.setCell (below2 KB0.out b1) hDw _) hDw _) hDw _
    have O1 : Hid (w1.ownsRow w.heap.size 62 13 (.slice (some ⟨G, 0, none⟩) 0 0) 0 []) := ownsRow_below OG.out b1
    have hfar : ∀ x, (some ⟨G, 0, none⟩ : Option Addr) = some x → x.block ≠ D := fun x e => by cases e; exact hGD.out
    have O3 : Hid ((((w1.setCell ⟨D, 0, none⟩ (.int .i64 id)).setCell ⟨D, 1, none⟩ (.int .i64 f)).setCell ⟨D, 2, none⟩ (.slice (some ⟨G, 0, none⟩) 0 0)).ownsRow w.heap.size 62 13 (.slice (some ⟨G, 0, none⟩) 0 0) 0 []) := own_kept (own_kept (own_kept O1.out (grown_set _ _ _ _) hfar) (grown_set _ _ _ _) hfar) (grown_set _ _ _ _) hfar
    clear R1 V1 b1 y0 y1 y2 hfar
    go_wp2
    refine bodyPost_ret (v := .tuple #[ndV id f (.slice (some ⟨G, 0, none⟩) 0 0), .bool true]) (by
      have p0 := HR3.out.cell 0
      have p1 := HR3.out.cell 1
      have p2 := HR3.out.cell 2
      simp at p0 p1 p2
      simp [results, Tryz.results28, go_sem, p0, p1, p2]) rfl ⟨some ⟨G, 0, none⟩, rfl, O3.out, HB3.out⟩
  | false =>
    rw [hse] at KS
    clear b0
    go_enter Tryz.func28, Tryz.ntmps28
    go_wp2_with fail
    rw [← HV.out, ← HG.out, ← HW0.out, ← HD.out]
    refine Calls.mono KS.out ?_
    rintro e w1 ⟨rfl, b1⟩
    have R1 := RD.out.below b1 lD
    have V1 := RV.out.below b1 RV.out.lt
    have x0 := R1.cell 0
    have x1 := R1.cell 1
    have x2 := R1.cell 2
    have f0 := R1.free 0
    have f1 := R1.free 1
    have f2 := R1.free 2
    have z0 := V1.cell 0
    have z1 := V1.cell 1
    have z2 := V1.cell 2
    simp at x0 x1 x2 z0 z1 z2
    have HR3 : Hid (Row (((w1.setCell ⟨D, 0, none⟩ (.int .i64 0)).setCell ⟨D, 1, none⟩ (.int .i64 0)).setCell ⟨D, 2, none⟩ (.slice none 0 0)) D 34 #[.int .i64 0, .int .i64 0, .slice none 0 0]) := ((R1.set 0 _).set 1 _).set 2 _
    have HB3 : Hid (Below w.heap.size w (((w1.setCell ⟨D, 0, none⟩ (.int .i64 0)).setCell ⟨D, 1, none⟩ (.int .i64 0)).setCell ⟨D, 2, none⟩ (.slice none 0 0))) := Below.setCell (Below.setCell (Below.setCell (below2 KB0.out b1) hDw _) hDw _) hDw _
    have O1 : Hid (w1.ownsRow w.heap.size 62 13 (.slice (some ⟨G, 0, none⟩) 0 0) 0 []) := ownsRow_below OG.out b1
    have hfar : ∀ x, (some ⟨G, 0, none⟩ : Option Addr) = some x → x.block ≠ D := fun x e => by cases e; exact hGD.out
    have O3 : Hid ((((w1.setCell ⟨D, 0, none⟩ (.int .i64 0)).setCell ⟨D, 1, none⟩ (.int .i64 0)).setCell ⟨D, 2, none⟩ (.slice none 0 0)).ownsRow w.heap.size 62 13 (.slice (some ⟨G, 0, none⟩) 0 0) 0 []) := own_kept (own_kept (own_kept O1.out (grown_set _ _ _ _) hfar) (grown_set _ _ _ _) hfar) (grown_set _ _ _ _) hfar
    clear R1 V1 b1 y0 y1 y2 hfar
    go_wp2
    refine bodyPost_ret (v := .tuple #[ndV 0 0 (.slice none 0 0), .bool false]) (by
      have p0 := HR3.out.cell 0
      have p1 := HR3.out.cell 1
      have p2 := HR3.out.cell 2
      simp at p0 p1 p2
      simp [results, Tryz.results28, go_sem, p0, p1, p2]) rfl ⟨none, rfl, World.ownsRow_nil _ _ _ _, HB3.out⟩
set_option maxHeartbeats 1000000 in
theorem sNodeStart_any (id f : Int) (w : World) : Calls Tryz.prog 29 #[.int .i64 id, .int .i64 f] w fun e w' => e = .returned (.tuple #[ndV (if seB id f then id else 0) (if seB id f then f else 0) (.slice none 0 0), .bool (seB id f)]) ∧ Below w.heap.size w w' := by
  have KI : Hid (∀ x a b W, Calls Tryz.prog 65 #[.int .i64 x, .int .i64 a, .int .i64 b] W fun e w' => e = .returned (.bool (inB x a b)) ∧ w' = W) := fun x a b W => sIn_any x a b W
  by_cases hf : 1 ≤ f ∧ f ≤ 3
  · obtain ⟨e1, e2⟩ := three_wrap hf
    have KA : Hid (∀ W, Calls Tryz.prog 66 #[.int .i64 f] W fun e w' => e = .returned (.int .i64 (3 * f + 1)) ∧ w' = W) := fun W => sAllN_any f W hf
    have i1 : inB f 1 3 = true := decide_eq_true hf
    have e3 : IntKind.i64.wrap (3 * f + 1 - 1) = 3 * f := by rw [IntKind.wrap_i64]; omega
    have i2 : inB id 0 (3 * f) = seB id f := by
      unfold inB seB
      rw [decide_eq_decide]
      omega
    obtain ⟨m, HM⟩ : ∃ m, Hid (3 * f + 1 = m) := ⟨_, rfl⟩
    obtain ⟨m1, HM1⟩ : ∃ m, Hid (3 * f = m) := ⟨_, rfl⟩
    rw [HM.out] at KA e3
    rw [HM1.out] at e3 i2
    have K1 : Hid (∀ W, Calls Tryz.prog 65 #[.int .i64 f, .int .i64 1, .int .i64 3] W fun e w' => e = .returned (.bool true) ∧ w' = W) := fun W => by have := KI.out f 1 3 W; rw [i1] at this; exact this
    have K2 : Hid (∀ W, Calls Tryz.prog 65 #[.int .i64 id, .int .i64 0, .int .i64 m1] W fun e w' => e = .returned (.bool (seB id f)) ∧ w' = W) := fun W => by have := KI.out id 0 m1 W; rw [i2] at this; exact this
    clear e1 e2 i1 i2
    cases hse : seB id f with
    | true =>
      rw [hse] at K2
      go_enter Tryz.func29, Tryz.ntmps29
      go_wp2_with (first | (go_at_call 66; refine Calls.mono (KA.out _) ?_; rintro e w' ⟨rfl, hw⟩; obtain rfl := hw.symm; clear hw; have DONE : Hid True := trivial) | (guard_hyp DONE; go_at_call 65; refine Calls.mono (K2.out _) ?_; rintro e w' ⟨rfl, hw⟩; obtain rfl := hw.symm; clear hw) | (go_at_call 65; refine Calls.mono (K1.out _) ?_; rintro e w' ⟨rfl, hw⟩; obtain rfl := hw.symm; clear hw))
      refine bodyPost_ret (v := .tuple #[ndV id f (.slice none 0 0), .bool true]) (by simp [results, Tryz.results29, go_sem]) rfl ⟨rfl, (Below.refl _ _).alloc (Nat.le_refl _) _⟩
    | false =>
      rw [hse] at K2
      go_enter Tryz.func29, Tryz.ntmps29
      go_wp2_with (first | (go_at_call 66; refine Calls.mono (KA.out _) ?_; rintro e w' ⟨rfl, hw⟩; obtain rfl := hw.symm; clear hw; have DONE : Hid True := trivial) | (guard_hyp DONE; go_at_call 65; refine Calls.mono (K2.out _) ?_; rintro e w' ⟨rfl, hw⟩; obtain rfl := hw.symm; clear hw) | (go_at_call 65; refine Calls.mono (K1.out _) ?_; rintro e w' ⟨rfl, hw⟩; obtain rfl := hw.symm; clear hw))
      refine bodyPost_ret (v := .tuple #[ndV 0 0 (.slice none 0 0), .bool false]) (by simp [results, Tryz.results29, go_sem]) rfl ⟨rfl, (Below.refl _ _).alloc (Nat.le_refl _) _⟩
  · have e2 : seB id f = false := decide_eq_false (fun h => hf ⟨h.1, h.2.1⟩)
    have i1 : inB f 1 3 = false := decide_eq_false hf
    have K1 : Hid (∀ W, Calls Tryz.prog 65 #[.int .i64 f, .int .i64 1, .int .i64 3] W fun e w' => e = .returned (.bool false) ∧ w' = W) := fun W => by have := KI.out f 1 3 W; rw [i1] at this; exact this
    rw [e2]
    go_enter Tryz.func29, Tryz.ntmps29
    go_wp2_with (go_at_call 65; refine Calls.mono (K1.out _) ?_; rintro e w' ⟨rfl, hw⟩; obtain rfl := hw.symm; clear hw)
    refine bodyPost_ret (v := .tuple #[ndV 0 0 (.slice none 0 0), .bool false]) (by simp [results, Tryz.results29, go_sem]) rfl ⟨rfl, (Below.refl _ _).alloc (Nat.le_refl _) _⟩
end Go.Proofs.YtgiegoamcfjfmaaGreat
/- What the exact laws count of slots and nodes. Conditions: what each says. -/
namespace Go.Proofs.YtgiegoamcfjfmaaGreat
set_option maxRecDepth 2000
open Go.ChangeShapes Go.WideShapes Go.ChangeAt Go.RowKit

/-- What the form tells of a slot that came in. -/
structure SlI (w : World) (s : Sl) (a6 : Option Addr) : Prop where
  r : s.r.size ≤ maxLen
  pr : s.p.r.size ≤ maxLen
  pb : s.p.b.size ≤ maxLen
  tx : IsTxt w a6 s.p.m s.p.S
  ne : s.ze.length ≤ maxLen
  nr : s.zr.length ≤ maxLen
/-- The same without its memory. -/
structure SlB (s : Sl) : Prop where
  r : s.r.size ≤ maxLen
  pr : s.p.r.size ≤ maxLen
  pb : s.p.b.size ≤ maxLen
  m : s.p.m ≤ maxLen
  tx : ∀ i, i < s.p.m → (s.p.S i).size ≤ maxLen
  ne : s.ze.length ≤ maxLen
  nr : s.zr.length ≤ maxLen
theorem SlB.i {s : Sl} (h : SlB s) {w : World} {a6 : Option Addr} (ht : TxtAt w a6 s.p.m s.p.S) : SlI w s a6 := ⟨h.r, h.pr, h.pb, ⟨ht, h.m, h.tx⟩, h.ne, h.nr⟩
end Go.Proofs.YtgiegoamcfjfmaaGreat
/- Lists of nodes' numbers, how far a slot is brought, and whose a piece is: in the program and in the model. Conditions: F from 1 to 3, lists of at most 2^20. -/
namespace Go.Proofs.YtgiegoamcfjfmaaGreat
set_option maxRecDepth 2000
open Go.ChangeShapes Go.WideShapes Go.ChangeAt Go.RowKit

/-- Nodes' numbers, ascending. -/
def NumP (f : Int) (zs : List Int) : Prop := ∀ i, i < zs.length → (0 ≤ zs.getD i 0 ∧ zs.getD i 0 < 3 * f + 1) ∧ (0 < i → zs.getD (i - 1) 0 < zs.getD i 0)
noncomputable def numB (f : Int) (zs : List Int) : Bool := @decide (NumP f zs) (Classical.propDecidable _)
theorem numB_yes {f : Int} {zs : List Int} (h : NumP f zs) : numB f zs = true := by unfold numB; exact @decide_eq_true _ (Classical.propDecidable _) h
theorem numB_no {f : Int} {zs : List Int} (h : ¬ NumP f zs) : numB f zs = false := by unfold numB; exact @decide_eq_false _ (Classical.propDecidable _) h
set_option maxHeartbeats 4000000 in
theorem areNodes_any (id f : Int) (v : Value) (a : Option Addr) (n cap : Nat) (zs : List Int) (w : World) (h : IntsAt w a n zs) (hf : 1 ≤ f ∧ f ≤ 3) (hn : n ≤ 1048576) :
    Calls Tryz.prog 157 #[ndV id f v, .slice a n cap] w fun e w' => e = .returned (.bool (numB f zs)) ∧ Below w.heap.size w w' := by
  obtain ⟨A, HA⟩ : ∃ x, Hid (x = w.heap.size) := ⟨_, rfl⟩
  obtain ⟨w0, HW0⟩ : ∃ x, Hid (x = w.alloc (.cells #[.int .i64 id, .int .i64 f, v] 34)) := ⟨_, rfl⟩
  have HR : Hid (Row w0 A 34 #[.int .i64 id, .int .i64 f, v]) := by show Row _ _ _ _; rw [HW0.out, HA.out]; exact Row.new w _ _
  have hb0 : Below w.heap.size w w0 := by rw [HW0.out]; exact (Below.refl _ _).alloc (Nat.le_refl _) _
  have KB0 : Hid (Below w.heap.size w w0) := hb0
  have KI : Hid (IntsAt w0 a n zs) := h.below hb0
  have hl : zs.length = n := h.1
  have KK : Hid (∀ x W, Calls Tryz.prog 133 #[ndV id f v, .int .i64 x] W fun e w' => e = .returned (.bool (decide (0 ≤ x ∧ x < 3 * f + 1))) ∧ Below W.heap.size W w') := fun x W => knows_any id f x v W hf
  clear h hb0 hf
  go_enter Tryz.func157, Tryz.ntmps157
  go_wp2
  rw [← HW0.out, ← HA.out]
  go_loopw [9] (fun vi wr => ∃ k : Nat, k ≤ n ∧ vi = .int .i64 (k : Int) ∧ Hid (∀ i, i < k → (0 ≤ zs.getD i 0 ∧ zs.getD i 0 < 3 * f + 1) ∧ (0 < i → zs.getD (i - 1) 0 < zs.getD i 0)) ∧ Below w0.heap.size w0 wr) (fun vi _ => n - (intOf vi).toNat)
  case atStart => exact ⟨0, Nat.zero_le _, rfl, fun i hi => absurd hi (Nat.not_lt_zero _), Below.refl _ _⟩
  case round =>
    obtain ⟨k, hk, rfl, HP, hbel⟩ := hrel
    by_cases hlt : k < n
    · have hki : (k : Int) < (n : Int) := by omega
      obtain ⟨b, off, rfl, hc⟩ := (KI.out.below hbel).some (by omega)
      have hck := hc k hlt
      have R1 := HR.out.below hbel HR.out.lt
      have x0 := R1.cell 0
      have x1 := R1.cell 1
      have x2 := R1.cell 2
      simp at x0 x1 x2
      have KB : Hid (Below w0.heap.size w0 wr) := hbel
      have lb := block_lt_of_cell hck
      obtain ⟨z, HZ⟩ : ∃ z, Hid (zs.getD k 0 = z) := ⟨_, rfl⟩
      rw [HZ.out] at hck
      have KN : Hid _ := KK.out z wr
      by_cases hz : 0 ≤ z ∧ z < 3 * f + 1
      · rw [decide_eq_true hz] at KN
        by_cases k0 : k = 0
        · subst k0
          have HP2 : Hid (∀ i, i < 0 + 1 → (0 ≤ zs.getD i 0 ∧ zs.getD i 0 < 3 * f + 1) ∧ (0 < i → zs.getD (i - 1) 0 < zs.getD i 0)) := fun i hi => by
            obtain rfl : i = 0 := by omega
            rw [HZ.out]
            exact ⟨hz, fun h => absurd h (by omega)⟩
          simp only [Nat.add_zero] at hck
          clear hc R1 hbel hz HP
          go_wp2_with fail
          refine Calls.mono KN.out ?_
          rintro e w1 ⟨rfl, b1⟩
          have KB1 : Hid (Below w0.heap.size w0 w1) := below2 KB.out b1
          clear b1 KN x0 x1 x2
          go_wp2
          go_roundw
          case rel => exact ⟨0 + 1, by omega, by go_num, HP2, KB1.out⟩
          case measure => simp [intOf]; omega
        · have k0i : (k : Int) > 0 := by omega
          have hcp := hc (k - 1) (by omega)
          obtain ⟨k1, HK1⟩ : ∃ k1, Hid (k = k1 + 1) := ⟨k - 1, by show k = _; omega⟩
          have e1 : IntKind.i64.wrap ((k : Int) - 1) = (k1 : Int) := by have := HK1.out; rw [IntKind.wrap_i64]; omega
          have hk1i : (k1 : Int) < (n : Int) := by have := HK1.out; omega
          have hk1n : (0 : Int) ≤ (k1 : Int) := by omega
          rw [show k - 1 = k1 by have := HK1.out; omega] at hcp
          obtain ⟨y, HY⟩ : ∃ z, Hid (zs.getD k1 0 = z) := ⟨_, rfl⟩
          rw [HY.out] at hcp
          by_cases hyz : y < z
          · have hyz' : ¬ (y ≥ z) := by omega
            have HP2 : Hid (∀ i, i < k + 1 → (0 ≤ zs.getD i 0 ∧ zs.getD i 0 < 3 * f + 1) ∧ (0 < i → zs.getD (i - 1) 0 < zs.getD i 0)) := fun i hi => by
              by_cases ei : i = k
              · subst ei
                rw [show i - 1 = k1 by have := HK1.out; omega, HZ.out, HY.out]
                exact ⟨hz, fun _ => hyz⟩
              · exact HP.out i (by omega)
            clear hc R1 hbel hz HP hyz
            go_wp2_with fail
            refine Calls.mono KN.out ?_
            rintro e w1 ⟨rfl, b1⟩
            have hcp1 := (b1.cell (p := ⟨b, off + k1, none⟩) lb).trans hcp
            have KB1 : Hid (Below w0.heap.size w0 w1) := below2 KB.out b1
            clear b1 KN x0 x1 x2 hcp hck
            go_wp2
            go_roundw
            case rel => exact ⟨k + 1, by omega, by go_num, HP2, KB1.out⟩
            case measure => simp [intOf]; omega
          · have hyz' : y ≥ z := by omega
            have HN : Hid (numB f zs = false) := numB_no fun h => by
              have := (h k (by omega)).2 (by omega)
              rw [show k - 1 = k1 by have := HK1.out; omega, HZ.out, HY.out] at this
              omega
            clear hc R1 hbel hz HP hyz
            go_wp2_with fail
            refine Calls.mono KN.out ?_
            rintro e w1 ⟨rfl, b1⟩
            have hcp1 := (b1.cell (p := ⟨b, off + k1, none⟩) lb).trans hcp
            have KB1 : Hid (Below w.heap.size w w1) := below2 KB0.out (below2 KB.out b1)
            clear b1 KN x0 x1 x2 hcp hck
            go_wp2
            go_ret
            exact ⟨ret_bool HN.out.symm, KB1.out⟩
      · rw [decide_eq_false hz] at KN
        have HN : Hid (numB f zs = false) := numB_no fun h => hz (by have := (h k (by omega)).1; rw [HZ.out] at this; exact this)
        clear hc R1 hbel hz HP
        go_wp2_with fail
        refine Calls.mono KN.out ?_
        rintro e w1 ⟨rfl, b1⟩
        have KB1 : Hid (Below w.heap.size w w1) := below2 KB0.out (below2 KB.out b1)
        clear b1 KN x0 x1 x2 hck
        go_wp2
        go_ret
        exact ⟨ret_bool HN.out.symm, KB1.out⟩
    · obtain rfl : k = n := by omega
      have HN : Hid (numB f zs = true) := numB_yes fun i hi => HP.out i (by omega)
      have KB1 : Hid (Below w.heap.size w wr) := below2 KB0.out hbel
      clear hbel
      go_wp2
      go_ret
      exact ⟨ret_bool HN.out.symm, KB1.out⟩
end Go.Proofs.YtgiegoamcfjfmaaGreat
/- Lists of structs that are handed in, read as the form reads them; slots and nodes. No condition. -/
namespace Go.Proofs.YtgiegoamcfjfmaaGreat
set_option maxRecDepth 2000
open Go.ChangeShapes Go.WideShapes Go.ChangeAt Go.RowKit

end Go.Proofs.YtgiegoamcfjfmaaGreat
/- The place of a root among slots, in the program and in the model. Conditions: at most 2^20 slots. -/
namespace Go.Proofs.YtgiegoamcfjfmaaGreat
set_option maxRecDepth 2000
open Go.ChangeShapes Go.WideShapes Go.ChangeAt Go.RowKit

/-- The first place from k on, of f, whose slot is of the root. -/
def plF (S : Nat → Sl) (root : ByteArray) : Nat → Nat → Option Nat
  | 0, _ => none
  | f + 1, k => if (S k).r = root then some k else plF S root f (k + 1)
def plc (S : Nat → Sl) (root : ByteArray) (n : Nat) : Option Nat := plF S root n 0
theorem plF_some {S : Nat → Sl} {root : ByteArray} : ∀ {f k x : Nat}, plF S root f k = some x → k ≤ x ∧ x < k + f ∧ (S x).r = root ∧ ∀ i, k ≤ i → i < x → (S i).r ≠ root
  | 0, _, _, h => by cases h
  | f + 1, k, x, h => by
    unfold plF at h
    by_cases e : (S k).r = root
    · rw [if_pos e] at h
      cases h
      exact ⟨Nat.le_refl _, by omega, e, fun i h1 h2 => by omega⟩
    · rw [if_neg e] at h
      obtain ⟨h1, h2, h3, h4⟩ := plF_some h
      refine ⟨by omega, by omega, h3, fun i hi hx => ?_⟩
      by_cases ei : i = k
      · rw [ei]; exact e
      · exact h4 i (by omega) hx
theorem plF_none {S : Nat → Sl} {root : ByteArray} : ∀ {f k : Nat}, plF S root f k = none → ∀ i, k ≤ i → i < k + f → (S i).r ≠ root
  | 0, _, _, i, h1, h2 => by omega
  | f + 1, k, h, i, h1, h2 => by
    unfold plF at h
    by_cases e : (S k).r = root
    · rw [if_pos e] at h; cases h
    · rw [if_neg e] at h
      by_cases ei : i = k
      · rw [ei]; exact e
      · exact plF_none h i (by omega) (by omega)
def plX (S : Nat → Sl) (root : ByteArray) (n : Nat) : Int := match plc S root n with
  | some x => (x : Int)
  | none => -1
def eqR (s root : ByteArray) : Bool := decide (s = root)
theorem eqR_yes {s root : ByteArray} (h : s = root) : eqR s root = true := decide_eq_true h
theorem eqR_no {s root : ByteArray} (h : s ≠ root) : eqR s root = false := decide_eq_false h
set_option maxHeartbeats 1000000 in
theorem placeFn_any (s : Sl) (v6 v11 v12 : Value) (R : Nat) (root : ByteArray) (w : World) (hR : w.cell? ⟨R, 0, none⟩ = some (.string root)) :
    Calls Tryz.prog 151 #[slV s v6 v11 v12, .pointer (some ⟨R, 0, none⟩)] w fun e w' => e = .returned (.bool (eqR s.r root)) ∧ Below w.heap.size w w' := by
  have lR := block_lt_of_cell hR
  have KB : Hid (Below w.heap.size w (w.alloc (.cells (slC s v6 v11 v12) 62))) := (Below.refl _ _).alloc (Nat.le_refl _) _
  by_cases h : s.r = root
  · rw [eqR_yes h]
    have hb : (s.r.toList == root.toList) = true := by rw [h]; simp
    go_enter Tryz.func151, Tryz.ntmps151
    go_wp2
    go_ret
    exact ⟨rfl, KB.out⟩
  · rw [eqR_no h]
    have hb := ba_ne h
    go_enter Tryz.func151, Tryz.ntmps151
    go_wp2
    go_ret
    exact ⟨rfl, KB.out⟩
set_option maxHeartbeats 2000000 in
theorem index_any (a : Option Addr) (n cap : Nat) (S : Nat → Sl) (R : Nat) (root : ByteArray) (w : World) (h : Rd w (slsD n S) (.slice a n cap)) (hn : n ≤ 1048576) (hR : w.cell? ⟨R, 0, none⟩ = some (.string root)) :
    Calls Tryz.prog 150 #[.slice a n cap, .func (.func 151) #[] #[.pointer (some ⟨R, 0, none⟩)]] w fun e w' => e = .returned (.int .i64 (plX S root n)) ∧ Below w.heap.size w w' := by
  have KH : Hid (Rd w (slsD n S) (.slice a n cap)) := h
  have KR : Hid (w.cell? ⟨R, 0, none⟩ = some (.string root)) := hR
  clear h hR
  go_enter Tryz.func150, Tryz.ntmps150
  go_wp2
  go_loopw [8] (fun vi wr => ∃ k : Nat, k ≤ n ∧ vi = .int .i64 (k : Int) ∧ Hid (plF S root (n - k) k = plc S root n) ∧ Below w.heap.size w wr) (fun vi _ => n - (intOf vi).toNat)
  case atStart => exact ⟨0, Nat.zero_le _, rfl, rfl, Below.refl _ _⟩
  case round =>
    obtain ⟨k, hk, rfl, HP, hbel⟩ := hrel
    by_cases hlt : k < n
    · have hki : (k : Int) < (n : Int) := by omega
      obtain ⟨b1, f1, y1, p6, p11, p12, q6, q11, q12, rfl, hc1, e1, _, _, _⟩ := slot_row (KH.out.below hbel) hlt
      have hRr := (hbel.cell (p := ⟨R, 0, none⟩) (block_lt_of_cell KR.out)).trans KR.out
      have KC := placeFn_any (S k) (.slice p6 (S k).p.m q6) (.slice p11 (S k).ze.length q11) (.slice p12 (S k).zr.length q12) R root wr hRr
      rw [← e1] at KC
      have KF : Hid _ := KC
      obtain ⟨_, x⟩ := one_row (sz := 12) wr (Below.refl _ _) hc1
      have R1 : Hid (wr.rangeAt b1 (f1 + k * 13) [y1 0, y1 1, y1 2, y1 3, y1 4, y1 5, y1 6, y1 7, y1 8, y1 9, y1 10, y1 11, y1 12]) := range13 x
      have KB : Hid (Below w.heap.size w wr) := hbel
      have e2 : n - k = (n - (k + 1)) + 1 := by omega
      have HP' := HP.out
      rw [e2] at HP'
      unfold plF at HP'
      clear KC hc1 e1 x hbel hRr HP e2
      by_cases hr : (S k).r = root
      · rw [if_pos hr] at HP'
        have HI : Hid (plX S root n = (k : Int)) := by show _ = _; unfold plX; rw [← HP']
        rw [eqR_yes hr] at KF
        clear HP' hr
        go_wp2_with (refine wpList_load_mid (by rfl) 62 _ (by rfl) b1 (f1 + k * 13) (by rfl) [y1 0, y1 1, y1 2, y1 3, y1 4, y1 5, y1 6, y1 7, y1 8, y1 9, y1 10, y1 11, y1 12] _ ?_ Tryz.underlying62 (by rfl) Tryz.infoSl ?_; exact R1.out)
        refine Calls.mono KF.out ?_
        rintro e w1 ⟨rfl, b1'⟩
        have KB1 : Hid (Below w.heap.size w w1) := below2 KB.out b1'
        clear b1'
        go_wp2
        go_ret
        exact ⟨ret_int HI.out.symm, KB1.out⟩
      · rw [if_neg hr] at HP'
        have HP2 : Hid (plF S root (n - (k + 1)) (k + 1) = plc S root n) := HP'
        rw [eqR_no hr] at KF
        clear HP' hr
        go_wp2_with (refine wpList_load_mid (by rfl) 62 _ (by rfl) b1 (f1 + k * 13) (by rfl) [y1 0, y1 1, y1 2, y1 3, y1 4, y1 5, y1 6, y1 7, y1 8, y1 9, y1 10, y1 11, y1 12] _ ?_ Tryz.underlying62 (by rfl) Tryz.infoSl ?_; exact R1.out)
        refine Calls.mono KF.out ?_
        rintro e w1 ⟨rfl, b1'⟩
        have KB1 : Hid (Below w.heap.size w w1) := below2 KB.out b1'
        clear b1' KF R1
        go_wp2
        go_roundw
        case rel => exact ⟨k + 1, by omega, by go_num, HP2, KB1.out⟩
        case measure => simp [intOf]; omega
    · obtain rfl : k = n := by omega
      have HI : Hid (plX S root k = -1) := by
        have := HP.out
        rw [Nat.sub_self] at this
        show _ = _
        unfold plX
        rw [← this]
        rfl
      go_wp2
      go_ret
      exact ⟨ret_int HI.out.symm, hbel⟩
set_option maxHeartbeats 1000000 in
theorem placeOf_any (id f : Int) (a : Option Addr) (n cap : Nat) (S : Nat → Sl) (root : ByteArray) (w : World) (h : Rd w (slsD n S) (.slice a n cap)) (hn : n ≤ 1048576) :
    Calls Tryz.prog 96 #[ndV id f (.slice a n cap), .string root] w fun e w' => e = .returned (.int .i64 (plX S root n)) ∧ Below w.heap.size w w' := by
  have hmf : ∀ (fn : Fn) (first cap : Array Value) (w : World), (Instr.makeFunc fn first cap).run Tryz.prog w = .ok (.func fn first cap) w := fun _ _ _ _ => rfl
  obtain ⟨R, HR⟩ : ∃ x, Hid (x = w.heap.size + 1) := ⟨_, rfl⟩
  obtain ⟨w0, HW0⟩ : ∃ x, Hid (x = (w.alloc (.cells #[.int .i64 id, .int .i64 f, .slice a n cap] 34)).alloc (.cells #[.string root] 9)) := ⟨_, rfl⟩
  have hb0 : Below w.heap.size w w0 := by rw [HW0.out]; exact ((Below.refl _ _).alloc (Nat.le_refl _) _).alloc (by simp) _
  have KB0 : Hid (Below w.heap.size w w0) := hb0
  have hc : w0.cell? ⟨R, 0, none⟩ = some (.string root) := by rw [HW0.out, HR.out]; simp
  have KI : Hid _ := index_any a n cap S R root w0 (h.below hb0) hn hc
  clear h hb0 hc
  go_enter Tryz.func96, Tryz.ntmps96
  go_wp2_with fail
  rw [← HW0.out, ← HR.out]
  refine Calls.mono KI.out ?_
  rintro e w1 ⟨rfl, b1⟩
  go_wp2
  go_ret
  exact ⟨rfl, below2 KB0.out b1⟩
end Go.Proofs.YtgiegoamcfjfmaaGreat
/- Marks laid into lists of sayings, and asked for. Conditions: at most 64 sayings, whose proofs have at most 1000 texts. Written by mkmark.py. -/
namespace Go.Proofs.YtgiegoamcfjfmaaGreat
set_option maxRecDepth 2000
open Go.ChangeShapes Go.WideShapes Go.ChangeAt Go.RowKit

end Go.Proofs.YtgiegoamcfjfmaaGreat
/- Slots, lists of slots and nodes, copied by the exact laws: the copies lie in new memory. Conditions: no list is longer than 2^20. Written by mknto.py. -/
namespace Go.Proofs.YtgiegoamcfjfmaaGreat
set_option maxRecDepth 2000
open Go.ChangeShapes Go.WideShapes Go.ChangeAt Go.RowKit

/-- A row of numbers that is ours, as a datum. -/
theorem ow_ints {w : World} {B : Nat} {a : Option Addr} {cap : Nat} {zs : List Int} {F : Nat → Prop} (h : w.ownsRow B 3 1 (.slice a zs.length cap) zs.length (zs.map (Value.int .i64))) (hF : ∀ x, a = some x → F x.block) : Ow w B (inD zs) (.slice a zs.length cap) F := by
  refine ⟨a, cap, fun i _ => .int .i64 (zs.getD i 0), fun _ _ _ => False, rfl, ?_, ⟨hF, fun _ _ _ _ _ h => h.elim, fun _ _ _ _ _ _ h => h, fun _ _ _ _ _ _ _ _ _ h => h.elim⟩, fun _ _ _ _ => rfl⟩
  have : cL 1 (fun i _ => Value.int .i64 (zs.getD i 0)) zs.length = zs.map (Value.int .i64) := by
    apply List.ext_getElem?
    intro i
    by_cases hi : i < zs.length
    · have := cL_get 1 (fun i _ => Value.int .i64 (zs.getD i 0)) zs.length i 0 hi (by omega)
      rw [Nat.mul_one, Nat.add_zero] at this
      rw [this]
      simp [hi]
    · rw [List.getElem?_eq_none (by rw [cL_len]; omega), List.getElem?_eq_none (by simp; omega)]
  rw [this]
  exact h
theorem ints_ow {w : World} {B : Nat} {v : Value} {zs : List Int} {F : Nat → Prop} (h : Ow w B (inD zs) v F) : ∃ a cap, v = .slice a zs.length cap ∧ w.ownsRow B 3 1 (.slice a zs.length cap) zs.length (zs.map (Value.int .i64)) ∧ ∀ x, a = some x → F x.block := by
  obtain ⟨a, cap, c, G, e, ho, hs, hr⟩ := h
  refine ⟨a, cap, e, ?_, hs.head⟩
  have : cL 1 c zs.length = zs.map (Value.int .i64) := by
    apply List.ext_getElem?
    intro i
    by_cases hi : i < zs.length
    · have := cL_get 1 c zs.length i 0 hi (by omega)
      rw [Nat.mul_one, Nat.add_zero] at this
      rw [this]
      have h2 : c i 0 = .int .i64 (zs.getD i 0) := hr i 0 hi (by omega)
      rw [h2]
      simp [hi]
    · rw [List.getElem?_eq_none (by rw [cL_len]; omega), List.getElem?_eq_none (by simp; omega)]
  rw [← this]
  exact ho
theorem grown_row (w : World) (g : Nat) (cs : Array Value) : w.grownBy (w.setRow g cs) (some g) := ⟨rfl, rfl, rfl, by simp, fun i _ hi => setRow_other _ _ _ _ (fun e => hi (by simp [e]))⟩
theorem World.size_setCells (b : Nat) : ∀ (vs : List Value) (o : Nat) (w : World), (w.setCells b o vs).heap.size = w.heap.size
  | [], _, _ => rfl
  | v :: r, o, w => by rw [World.setCells, World.size_setCells b r (o + 1) _]; simp
end Go.Proofs.YtgiegoamcfjfmaaGreat
