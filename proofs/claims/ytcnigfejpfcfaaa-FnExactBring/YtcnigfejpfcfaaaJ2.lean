/- Longs by plain bits: turned both ways, one round of mixing and its way back, longs of up to eight bytes, and the sum of a text. No condition; nothing of the program is named. -/
import Derived.WalkKit
import Derived.ProofKit
import Derived.Laws.BitsAllLaws
import Derived.Laws.Bits64
import Derived.Laws.Bits64b
import Derived.Test.YtcnigfejpfcfaaaRows
import Derived.Test.YtcnigfejpfcfaaaJ1
import Derived.Laws.Shifts
import Derived.Below
import Derived.Laws.Rows
import Derived.Laws.Tables
import Derived.BigQuiet
import Derived.Deep.QuietTactic
import Derived.StillTailTactics
namespace Go.Proofs.Ytcnigfejpfcfaaa
set_option maxRecDepth 2000
open Go.ChangeShapes Go.WideShapes Go.ChangeAt Go.RowKit

namespace Gs
/-- A long as the number that it is. -/
def U (x : BitVec 64) : Int := (x.toNat : Int)
theorem U_nn (x : BitVec 64) : 0 ≤ U x := Int.natCast_nonneg _
theorem U_lt (x : BitVec 64) : U x < 18446744073709551616 := by have := x.isLt; unfold U; omega
theorem U_inj {x y : BitVec 64} (h : U x = U y) : x = y := BitVec.eq_of_toNat_eq (by unfold U at h; omega)
theorem U_of {a : Int} (h0 : 0 ≤ a) (h1 : a < 18446744073709551616) : ∃ x, a = U x := by
  refine ⟨BitVec.ofNat 64 a.toNat, ?_⟩
  unfold U
  rw [BitVec.toNat_ofNat, Nat.mod_eq_of_lt (by omega)]
  omega
theorem U_nat {n : Nat} (h : n < 18446744073709551616) : ((n : Nat) : Int) = U (BitVec.ofNat 64 n) := by
  unfold U
  rw [BitVec.toNat_ofNat, Nat.mod_eq_of_lt (by omega)]

theorem wrap_nat (n : Nat) : IntKind.u64.wrap (n : Int) = ((n % 18446744073709551616 : Nat) : Int) := by
  rw [IntKind.wrap_u64]
  omega
theorem U_add (x y : BitVec 64) : IntKind.u64.wrap (U x + U y) = U (x + y) := by
  unfold U
  rw [BitVec.toNat_add, ← Int.natCast_add, wrap_nat]
theorem U_sub (x y : BitVec 64) : IntKind.u64.wrap (U x - U y) = U (x - y) := by
  unfold U
  have := x.isLt
  have := y.isLt
  rw [BitVec.toNat_sub, IntKind.wrap_u64]
  omega
theorem U_xor (x y : BitVec 64) : bits .xor .u64 (U x) (U y) = U (x ^^^ y) := by
  unfold U
  rw [bits_xor_u64_nat _ _ x.isLt y.isLt, BitVec.toNat_xor]
theorem U_or (x y : BitVec 64) : bits .or .u64 (U x) (U y) = U (x ||| y) := by
  unfold U
  rw [bits_or_u64_nat _ _ x.isLt y.isLt, BitVec.toNat_or]
theorem U_shl (x : BitVec 64) (k : Nat) : IntKind.u64.wrap (U x * 2 ^ k) = U (x <<< k) := by
  unfold U
  rw [BitVec.toNat_shiftLeft, Nat.shiftLeft_eq, ← wrap_nat]
  simp
theorem U_shr (x : BitVec 64) (k : Nat) : U x / 2 ^ k = U (x >>> k) := by
  unfold U
  rw [BitVec.toNat_ushiftRight, Nat.shiftRight_eq_div_pow]
  simp

/-! ### A long turned -/
def rol (x : BitVec 64) (r : Nat) : BitVec 64 := x.rotateLeft r
theorem rol_bit (x : BitVec 64) (r i : Nat) (hi : i < 64) : (rol x r).getLsbD i = x.getLsbD ((i + (64 - r % 64)) % 64) := by
  unfold rol
  rw [BitVec.getLsbD_rotateLeft]
  by_cases h : i < r % 64
  · simp only [h, decide_true, cond_true]
    congr 1
    omega
  · simp only [h, decide_false, cond_false, hi, decide_true, Bool.true_and]
    congr 1
    omega
theorem rol_rol (x : BitVec 64) (r q : Nat) : rol (rol x r) q = rol x (r + q) := by
  apply BitVec.eq_of_getLsbD_eq
  intro i hi
  rw [rol_bit _ _ _ hi, rol_bit _ _ _ (Nat.mod_lt _ (by omega)), rol_bit _ _ _ hi]
  congr 1
  omega
theorem rol_mod (x : BitVec 64) (r q : Nat) (h : r % 64 = q % 64) : rol x r = rol x q := by
  apply BitVec.eq_of_getLsbD_eq
  intro i hi
  rw [rol_bit _ _ _ hi, rol_bit _ _ _ hi, h]
theorem rol_zero (x : BitVec 64) : rol x 0 = x := by
  apply BitVec.eq_of_getLsbD_eq
  intro i hi
  rw [rol_bit _ _ _ hi]
  congr 1
  omega
/-- A long turned by a whole number. -/
def rolI (x : BitVec 64) (n : Int) : BitVec 64 := rol x (n % 64).toNat
theorem rolI_rolI (x : BitVec 64) (n m : Int) (h : (n + m) % 64 = 0) : rolI (rolI x n) m = x := by
  unfold rolI
  rw [rol_rol, rol_mod x _ 0 (by omega), rol_zero]
theorem rol_shifts (x : BitVec 64) (s : Nat) (hs : s < 64) : x <<< s ||| x >>> (64 - s) = rol x s := by
  unfold rol
  rw [BitVec.rotateLeft_def, Nat.mod_eq_of_lt hs]
theorem rol_one (x : BitVec 64) (r : Nat) : rol x r <<< 1 ||| rol x r >>> 63 = rol x (r + 1) := by
  rw [← rol_rol]
  exact rol_shifts _ 1 (by omega)

/-! ### Four longs, and a round -/
structure V4 where
  a : BitVec 64
  b : BitVec 64
  c : BitVec 64
  d : BitVec 64
def mx (v : V4) : V4 :=
  let a0 := v.a + v.b
  let c0 := v.c + v.d
  let b0 := rolI v.b 13 ^^^ a0
  let d0 := rolI v.d 16 ^^^ c0
  let a1 := rolI a0 32 + d0
  let c1 := c0 + b0
  ⟨a1, rolI b0 17 ^^^ c1, rolI c1 32, rolI d0 21 ^^^ a1⟩
theorem xor_back (x y : BitVec 64) : (x ^^^ y) ^^^ y = x := by
  rw [BitVec.xor_assoc, BitVec.xor_self, BitVec.xor_zero]
theorem add_back (x y : BitVec 64) : x + y - y = x := BitVec.add_sub_cancel x y
/-- A long taken in. -/
def inn (v : V4) (x : BitVec 64) : V4 :=
  let u := mx (mx ⟨v.a, v.b, v.c, v.d ^^^ x⟩)
  ⟨u.a ^^^ x, u.b, u.c, u.d⟩
def all4 (v : V4) : BitVec 64 := v.a ^^^ v.b ^^^ v.c ^^^ v.d
def fin (v : V4) : V4 := mx (mx (mx (mx ⟨v.a, v.b, v.c ^^^ 255#64, v.d⟩)))
def key (a b : BitVec 64) : V4 := ⟨a ^^^ 8317987319222330741#64, b ^^^ 7237128888997146477#64, a ^^^ 7816392313619706465#64, b ^^^ 8387220255154660723#64⟩

/-! ### Longs of bytes, the lowest first -/
def le (T : Nat → Nat) (o : Nat) : Nat → Nat
  | 0 => 0
  | k + 1 => le T o k + T (o + k) * 256 ^ k
theorem le_lt {T : Nat → Nat} (hT : ∀ i, T i < 256) (o k : Nat) : le T o k < 256 ^ k := by
  induction k with
  | zero => simp [le]
  | succ k ih =>
    have := hT (o + k)
    have h2 : T (o + k) * 256 ^ k ≤ 255 * 256 ^ k := Nat.mul_le_mul_right _ (by omega)
    rw [Nat.pow_succ]
    simp only [le]
    omega
theorem le_lt64 {T : Nat → Nat} (hT : ∀ i, T i < 256) (o k : Nat) (hk : k ≤ 8) : le T o k < 18446744073709551616 := by
  have h1 := le_lt hT o k
  have h2 : 256 ^ k ≤ 256 ^ 8 := Nat.pow_le_pow_right (by omega) hk
  have h3 : (256 : Nat) ^ 8 = 18446744073709551616 := by decide
  omega
theorem le_congr {T S : Nat → Nat} {o q : Nat} (k : Nat) (h : ∀ j, j < k → T (o + j) = S (q + j)) : le T o k = le S q k := by
  induction k with
  | zero => rfl
  | succ k ih => simp only [le]; rw [ih (fun j hj => h j (by omega)), h k (by omega)]
/-- the first byte apart -/
theorem le_first (T : Nat → Nat) (o k : Nat) : le T o (k + 1) = le T (o + 1) k * 256 + T o := by
  induction k with
  | zero => simp [le]
  | succ k ih =>
    rw [le, ih, le]
    have e : o + (k + 1) = o + 1 + k := by omega
    rw [e, Nat.pow_succ, Nat.add_mul, ← Nat.mul_assoc]
    omega
/-- a byte more, put above by shifts -/
theorem le_or {T : Nat → Nat} (hT : ∀ i, T i < 256) (o k : Nat) : le T o k ||| T (o + k) * 2 ^ (8 * k) = le T o (k + 1) := by
  have e : (2 : Nat) ^ (8 * k) = 256 ^ k := by rw [Nat.pow_mul]
  have h := Nat.two_pow_add_eq_or_of_lt (i := 8 * k) (b := le T o k) (by rw [e]; exact le_lt hT o k) (T (o + k))
  simp only [le]
  rw [Nat.or_comm, Nat.mul_comm (T (o + k)), ← h, e, Nat.mul_comm (256 ^ k)]
  omega
def blk (T : Nat → Nat) (v : V4) : Nat → V4
  | 0 => v
  | q + 1 => inn (blk T v q) (BitVec.ofNat 64 (le T (8 * q) 8))
/-- the last long: what is left, and the length above -/
def lst (T : Nat → Nat) (n : Nat) : BitVec 64 := BitVec.ofNat 64 (le T (8 * (n / 8)) (n % 8)) ||| (BitVec.ofNat 64 (n % 256) <<< 56)
def sip (T : Nat → Nat) (a b : BitVec 64) (n : Nat) : BitVec 64 := all4 (fin (inn (blk T (key a b) (n / 8)) (lst T n)))
theorem shl56 (n : Nat) : BitVec.ofNat 64 n <<< 56 = BitVec.ofNat 64 (n % 256) <<< 56 := by
  apply BitVec.eq_of_toNat_eq
  simp only [BitVec.toNat_shiftLeft, BitVec.toNat_ofNat, Nat.shiftLeft_eq]
  omega
theorem blk_congr {T S : Nat → Nat} (v : V4) (q : Nat) (h : ∀ i, i < 8 * q → T i = S i) : blk T v q = blk S v q := by
  induction q with
  | zero => rfl
  | succ q ih => simp only [blk]; rw [ih (fun i hi => h i (by omega)), le_congr (o := 8 * q) (q := 8 * q) 8 (fun j hj => h _ (by omega))]
end Gs
end Go.Proofs.Ytcnigfejpfcfaaa

/- A long turned by any whole number: what the library's function, the program's and its model answer. No condition. -/
namespace Go.Proofs.Ytcnigfejpfcfaaa
set_option maxRecDepth 2000
open Go.ChangeShapes Go.WideShapes Go.ChangeAt Go.RowKit
open Gs (U rolI)

theorem U_wf {a : Int} (h : (Lit.int .u64 a).wf = true) : ∃ x, a = U x := by
  simp [Lit.wf, IntKind.min, IntKind.max, IntKind.signed, IntKind.bits] at h
  exact Gs.U_of (by omega) (by omega)

set_option maxHeartbeats 400000 in
theorem rotate_any (x : BitVec 64) (n : Int) (w : World) : Calls Try.prog 156 #[.int .u64 (U x), .int .i64 n] w fun e w' => e = .returned (.int .u64 (U (rolI x n))) ∧ w' = w := by
  obtain ⟨s, HS⟩ : ∃ s : Nat, Hid (s = (n % 64).toNat) := ⟨_, rfl⟩
  have hs64 : s < 64 := by have := HS.out; omega
  have ha : bits .and .u64 (IntKind.u64.wrap n) 63 = (s : Int) := by
    obtain ⟨m, hm⟩ : ∃ m : Nat, IntKind.u64.wrap n = (m : Int) := ⟨(IntKind.u64.wrap n).toNat, by rw [IntKind.wrap_u64]; omega⟩
    have hm2 := hm
    rw [IntKind.wrap_u64] at hm2
    rw [hm]
    have := bits_and_u64_nat m 63 (by omega) (by omega)
    rw [show ((63 : Nat) : Int) = 63 from rfl] at this
    rw [this, show (63 : Nat) = 2 ^ 6 - 1 from rfl, Nat.and_two_pow_sub_one_eq_mod]
    have := HS.out
    omega
  go_enter Try.func156, Try.ntmps156
  go_wp2
  go_ret
  refine ⟨ret_int ?_, rfl⟩
  rw [ Gs.U_shl, Gs.U_shr, Gs.U_or, Gs.rol_shifts _ _ hs64, HS.out]
  rfl

set_option maxHeartbeats 400000 in
theorem roll_any (x : BitVec 64) (n : Int) (w : World) : Calls Try.prog 155 #[.int .u64 (U x), .int .i64 n] w fun e w' => e = .returned (.int .u64 (U (rolI x n))) ∧ w' = w := by
  go_enter Try.func155, Try.ntmps155
  go_wp2_with fail
  refine (rotate_any x n _).mono ?_
  rintro e w' ⟨rfl, hw⟩
  obtain rfl := hw.symm
  go_wp2
  go_ret
  exact ⟨rfl, rfl⟩

theorem tmod64 (n : Int) : n.tmod 64 = n % 64 ∨ n.tmod 64 = n % 64 - 64 ∧ n % 64 ≠ 0 ∧ n < 0 := by
  rw [Int.tmod_eq_emod]
  split
  · omega
  · simp only [show (64 : Int).natAbs = 64 from rfl]
    omega
theorem shl1 (x : BitVec 64) : IntKind.u64.wrap (U x * 2) = U (x <<< 1) := Gs.U_shl x 1
theorem shr63 (x : BitVec 64) : U x / (9223372036854775808 : Int) = U (x >>> 63) := Gs.U_shr x 63

set_option maxHeartbeats 800000 in
theorem sRoll_any (x : BitVec 64) (n : Int) (w : World) : Calls Try.prog 151 #[.int .u64 (U x), .int .i64 n] w fun e w' => e = .returned (.int .u64 (U (rolI x n))) ∧ w' = w := by
  obtain ⟨r, HR⟩ : ∃ r : Nat, Hid (r = (n % 64).toNat) := ⟨_, rfl⟩
  have hr64 : r < 64 := by have := HR.out; omega
  by_cases hn : n.tmod 64 < 0
  · have hr : n.tmod 64 + 64 = (r : Int) := by have := HR.out; have := tmod64 n; omega
    go_enter Try.func151, Try.ntmps151
    go_wp2
    go_loop [0, 6] (fun v i => ∃ k : Nat, k ≤ r ∧ i = .int .i64 k ∧ v = .int .u64 (U (Gs.rol x k))) (fun _ i => r - (intOf i).toNat)
    case atStart => exact ⟨0, Nat.zero_le _, rfl, by rw [Gs.rol_zero]⟩
    case round =>
      obtain ⟨k, hk, rfl, rfl⟩ := hrel
      by_cases hlt : k < r
      · have hlti : (k : Int) < (r : Int) := by omega
        go_wp2
        exact ⟨⟨k + 1, by omega, by go_num, by rw [shl1, shr63, Gs.U_or, Gs.rol_one]⟩, by simp [intOf]; omega⟩
      · have e : k = r := by omega
        subst e
        go_wp2
        go_ret
        have e2 : rolI x n = Gs.rol x k := by unfold rolI; rw [← HR.out]
        exact ⟨by rw [e2]; rfl, rfl⟩
  · have hr : n.tmod 64 = (r : Int) := by have := HR.out; have := tmod64 n; omega
    go_enter Try.func151, Try.ntmps151
    go_wp2
    go_loop [0, 6] (fun v i => ∃ k : Nat, k ≤ r ∧ i = .int .i64 k ∧ v = .int .u64 (U (Gs.rol x k))) (fun _ i => r - (intOf i).toNat)
    case atStart => exact ⟨0, Nat.zero_le _, rfl, by rw [Gs.rol_zero]⟩
    case round =>
      obtain ⟨k, hk, rfl, rfl⟩ := hrel
      by_cases hlt : k < r
      · have hlti : (k : Int) < (r : Int) := by omega
        go_wp2
        exact ⟨⟨k + 1, by omega, by go_num, by rw [shl1, shr63, Gs.U_or, Gs.rol_one]⟩, by simp [intOf]; omega⟩
      · have e : k = r := by omega
        subst e
        go_wp2
        go_ret
        have e2 : rolI x n = Gs.rol x k := by unfold rolI; rw [← HR.out]
        exact ⟨by rw [e2]; rfl, rfl⟩
end Go.Proofs.Ytcnigfejpfcfaaa

/- One block of cells that a call has for itself: what is read of it, what a store makes of it. No condition but what each says; nothing of the program is named. -/
namespace Go.Proofs.Ytcnigfejpfcfaaa
set_option maxRecDepth 2000
open Go.ChangeShapes Go.WideShapes Go.ChangeAt Go.RowKit

/-- Block 'g' holds just these cells. -/
def Row (w : World) (g : Nat) (t : TypeId) (cs : Array Value) : Prop := w.heap[g]? = some (.cells cs t (0, 0))
theorem Row.cell {w : World} {g : Nat} {t : TypeId} {cs : Array Value} (h : Row w g t cs) (i : Nat) : w.cell? ⟨g, i, none⟩ = cs[i]? := by
  unfold Row at h
  simp [World.cell?, h]
theorem Row.free {w : World} {g : Nat} {t : TypeId} {cs : Array Value} (h : Row w g t cs) (i : Nat) : w.frozen? ⟨g, i, none⟩ = false := by
  unfold Row at h
  simp [World.frozen?, h]
theorem Row.lt {w : World} {g : Nat} {t : TypeId} {cs : Array Value} (h : Row w g t cs) : g < w.heap.size := (Array.getElem?_eq_some_iff.1 h).1
theorem Row.new (w : World) (cs : Array Value) (t : TypeId) : Row (w.alloc (.cells cs t)) w.heap.size t cs := heap_alloc_new w _
theorem Row.alloc {w : World} {g : Nat} {t : TypeId} {cs : Array Value} (h : Row w g t cs) (o : Obj) : Row (w.alloc o) g t cs := by
  unfold Row
  rw [Below.heap_alloc _ _ _ h.lt]
  exact h
theorem Row.drew {w : World} {g : Nat} {t : TypeId} {cs : Array Value} (h : Row w g t cs) : Row w.drew g t cs := h
theorem Row.below {w w' : World} {g B : Nat} {t : TypeId} {cs : Array Value} (h : Row w g t cs) (hb : Below B w w') (hg : g < B) : Row w' g t cs := by
  unfold Row
  rw [hb.block g hg]
  exact h
theorem Row.set {w : World} {g : Nat} {t : TypeId} {cs : Array Value} (h : Row w g t cs) (i : Nat) (x : Value) : Row (w.setCell ⟨g, i, none⟩ x) g t (cs.setIfInBounds i x) := by
  unfold Row at *
  simp [World.setCell, Array.getElem?_modify, h]
theorem Row.other {w : World} {g k : Nat} {t : TypeId} {cs : Array Value} (h : Row w g t cs) (i : Nat) (x : Value) (hk : g ≠ k) : Row (w.setCell ⟨k, i, none⟩ x) g t cs := by
  unfold Row
  rw [Below.heap_setCell _ _ _ _ hk]
  exact h
theorem Row.row {w : World} {g : Nat} {t : TypeId} {cs ds : Array Value} (h : Row w g t cs) : Row (w.setRow g ds) g t ds := setRow_heap w g cs ds t (0, 0) h
theorem Row.otherRow {w : World} {g k : Nat} {t : TypeId} {cs ds : Array Value} (h : Row w g t cs) (hk : g ≠ k) : Row (w.setRow k ds) g t cs := by
  unfold Row
  rw [setRow_other _ _ _ _ hk]
  exact h
theorem belowSetRow {B g : Nat} {w0 w : World} (hb : Below B w0 w) (hBg : B ≤ g) (cs : Array Value) : Below B w0 (w.setRow g cs) :=
  hb.trans ⟨rfl, rfl, rfl, by simp, fun k hk => setRow_other _ _ _ _ (by omega)⟩
theorem below_drew (w : World) : Below w.heap.size w w.drew := ⟨rfl, rfl, rfl, Nat.le_refl _, fun _ _ => rfl⟩
theorem fold_drew (w : World) : ({ heap := w.heap, tape := w.tape, drawn := w.drawn + 1, os := w.os, output := w.output } : World) = w.drew := rfl
end Go.Proofs.Ytcnigfejpfcfaaa

/- A round of mixing, in the program and in its model: what each answers at every four longs. No condition. -/
namespace Go.Proofs.Ytcnigfejpfcfaaa
set_option maxRecDepth 2000
open Go.ChangeShapes Go.WideShapes Go.ChangeAt Go.RowKit
open Gs (U rolI V4 mx)

/-- Four longs as the value that they are. -/
abbrev A4 (v : V4) : Value := .agg #[.int .u64 (U v.a), .int .u64 (U v.b), .int .u64 (U v.c), .int .u64 (U v.d)]

theorem belowDrewN {B : Nat} {a w : World} (h : Below B a w) (n : Nat) : Below B a (w.drewN n) := ⟨h.os, h.tape, h.output, h.size, h.block⟩

set_option maxHeartbeats 2000000 in
theorem mix_any (v : V4) (w : World) : Calls Try.prog 154 #[A4 v] w fun e w' => e = .returned (A4 (mx v)) ∧ Below w.heap.size w w' := by
  obtain ⟨a, b, c, d⟩ := v
  have hadd := Gs.U_add
  have hxor := Gs.U_xor
  go_enter Try.func154, Try.ntmps154
  go_wp2_with fail
  go_quiet (fail)
  go_wp2_with (go_at_call 155; refine (roll_any _ _ _).mono ?_; rintro e w' ⟨rfl, hw⟩; obtain rfl := hw.symm)
  refine bodyPost_ret (v := A4 (mx ⟨a, b, c, d⟩)) (by simp [results, Try.results154, go_sem, mx]) rfl ⟨rfl, ?_⟩
  refine Below.setCell (Below.setCell (Below.setCell (Below.setCell ?_ (by simp) _) (by simp) _) (by simp) _) (by simp) _
  exact belowDrewN (((Below.refl _ _).alloc (Nat.le_refl _) _).alloc (by simp) _) nq

theorem Try.info4 : (Try.prog.info? 155).map (·.size) = some 4 := by kernel_rfl
theorem Try.mixed : Try.prog.follows .mixedOrders = true := by kernel_rfl

/-- Four longs as the cells that they are. -/
abbrev C4 (v : V4) : Array Value := #[.int .u64 (U v.a), .int .u64 (U v.b), .int .u64 (U v.c), .int .u64 (U v.d)]
/-- Of the call's own: the four longs at 'g'. -/
structure Own4 (w0 w : World) (g : Nat) (v : V4) : Prop where
  row : Row w g 155 (C4 v)
  res : ∃ z, Row w (g + 1) 155 (C4 z)
  bel : Below g w0 w
theorem Own4.set0 {w0 w : World} {g : Nat} {a b c d : BitVec 64} (h : Own4 w0 w g ⟨a, b, c, d⟩) (x : BitVec 64) : Own4 w0 (w.setCell ⟨g, 0, none⟩ (.int .u64 (U x))) g ⟨x, b, c, d⟩ :=
  ⟨h.row.set 0 _, by obtain ⟨z, hz⟩ := h.res; exact ⟨z, hz.other _ _ (by omega)⟩, h.bel.setCell (Nat.le_refl _) _⟩
theorem Own4.set1 {w0 w : World} {g : Nat} {a b c d : BitVec 64} (h : Own4 w0 w g ⟨a, b, c, d⟩) (x : BitVec 64) : Own4 w0 (w.setCell ⟨g, 1, none⟩ (.int .u64 (U x))) g ⟨a, x, c, d⟩ :=
  ⟨h.row.set 1 _, by obtain ⟨z, hz⟩ := h.res; exact ⟨z, hz.other _ _ (by omega)⟩, h.bel.setCell (Nat.le_refl _) _⟩
theorem Own4.set2 {w0 w : World} {g : Nat} {a b c d : BitVec 64} (h : Own4 w0 w g ⟨a, b, c, d⟩) (x : BitVec 64) : Own4 w0 (w.setCell ⟨g, 2, none⟩ (.int .u64 (U x))) g ⟨a, b, x, d⟩ :=
  ⟨h.row.set 2 _, by obtain ⟨z, hz⟩ := h.res; exact ⟨z, hz.other _ _ (by omega)⟩, h.bel.setCell (Nat.le_refl _) _⟩
theorem Own4.set3 {w0 w : World} {g : Nat} {a b c d : BitVec 64} (h : Own4 w0 w g ⟨a, b, c, d⟩) (x : BitVec 64) : Own4 w0 (w.setCell ⟨g, 3, none⟩ (.int .u64 (U x))) g ⟨a, b, c, x⟩ :=
  ⟨h.row.set 3 _, by obtain ⟨z, hz⟩ := h.res; exact ⟨z, hz.other _ _ (by omega)⟩, h.bel.setCell (Nat.le_refl _) _⟩
theorem Own4.drew {w0 w : World} {g : Nat} {v : V4} (h : Own4 w0 w g v) : Own4 w0 w.drew g v := ⟨h.row, h.res, h.bel.drew⟩
theorem Own4.cells {w0 w : World} {g : Nat} {a b c d : BitVec 64} (h : Own4 w0 w g ⟨a, b, c, d⟩) :
    w.cell? ⟨g, 0, none⟩ = some (.int .u64 (U a)) ∧ w.cell? ⟨g, 1, none⟩ = some (.int .u64 (U b)) ∧ w.cell? ⟨g, 2, none⟩ = some (.int .u64 (U c)) ∧ w.cell? ⟨g, 3, none⟩ = some (.int .u64 (U d)) ∧ w.frozen? ⟨g, 0, none⟩ = false ∧ w.frozen? ⟨g, 1, none⟩ = false ∧ w.frozen? ⟨g, 2, none⟩ = false ∧ w.frozen? ⟨g, 3, none⟩ = false :=
  ⟨h.row.cell 0, h.row.cell 1, h.row.cell 2, h.row.cell 3, h.row.free 0, h.row.free 1, h.row.free 2, h.row.free 3⟩

set_option maxHeartbeats 1000000 in
theorem sMix_any (v : V4) (w : World) : Calls Try.prog 145 #[A4 v] w fun e w' => e = .returned (A4 (mx v)) ∧ Below w.heap.size w w' := by
  obtain ⟨a, b, c, d⟩ := v
  have hadd := Gs.U_add
  have hxor := Gs.U_xor
  obtain ⟨w1, HW1⟩ : ∃ w1, Hid (w1 = (w.alloc (.cells (C4 ⟨a + b, b, c, d⟩) 155)).alloc (.cells #[.int .u64 0, .int .u64 0, .int .u64 0, .int .u64 0] 155)) := ⟨_, rfl⟩
  have K1 : Hid (Own4 w w1 w.heap.size ⟨a + b, b, c, d⟩) := by
    rw [HW1.out]
    refine ⟨(Row.new w _ _).alloc _, ⟨⟨0, 0, 0, 0⟩, ?_⟩, ((Below.refl _ _).alloc (Nat.le_refl _) _).alloc (by simp) _⟩
    have := Row.new (w.alloc (.cells (C4 ⟨a + b, b, c, d⟩) 155)) #[.int .u64 0, .int .u64 0, .int .u64 0, .int .u64 0] 155
    rw [show (w.alloc (.cells (C4 ⟨a + b, b, c, d⟩) 155)).heap.size = w.heap.size + 1 by simp] at this
    exact this
  go_enter Try.func145, Try.ntmps145
  go_wp2_with fail
  rw [← HW1.out]
  obtain ⟨w2, HW2⟩ : ∃ w2, Hid (w2 = (((w1.drew.setCell ⟨w.heap.size, 1, none⟩ (.int .u64 (U ((rolI b 13 ^^^ (a + b)))))).setCell ⟨w.heap.size, 0, none⟩ (.int .u64 (U (rolI (a + b) 32)))).setCell ⟨w.heap.size, 2, none⟩ (.int .u64 (U (c + d))))) := ⟨_, rfl⟩
  have K2 : Hid (Own4 w w2 w.heap.size ⟨rolI (a + b) 32, (rolI b 13 ^^^ (a + b)), c + d, d⟩) := by rw [HW2.out]; exact (((K1.out.drew.set1 ((rolI b 13 ^^^ (a + b)))).set0 (rolI (a + b) 32)).set2 (c + d))
  obtain ⟨x1, HX1⟩ : ∃ x, Hid (x = w1.drew) := ⟨_, rfl⟩
  have J1 : Hid (Own4 w x1 w.heap.size ⟨a + b, b, c, d⟩) := by rw [HX1.out]; exact K1.out.drew
  obtain ⟨c0, c1, c2, c3, f0, f1, f2, f3⟩ := K1.out.cells
  go_still_tail 7, Try.mixed
  still_call (sRoll_any b 13 _)
  repeat still_step
  refine wpStill_nil ?_
  rw [fold_drew, ← HX1.out]
  clear c0 c1 c2 c3 f0 f1 f2 f3
  obtain ⟨w2, HW2⟩ : ∃ w2, Hid (w2 = (((x1.setCell ⟨w.heap.size, 1, none⟩ (.int .u64 (U ((rolI b 13 ^^^ (a + b)))))).setCell ⟨w.heap.size, 0, none⟩ (.int .u64 (U (rolI (a + b) 32)))).setCell ⟨w.heap.size, 2, none⟩ (.int .u64 (U (c + d))))) := ⟨_, rfl⟩
  have K2 : Hid (Own4 w w2 w.heap.size ⟨rolI (a + b) 32, (rolI b 13 ^^^ (a + b)), c + d, d⟩) := by rw [HW2.out]; exact (((J1.out.set1 ((rolI b 13 ^^^ (a + b)))).set0 (rolI (a + b) 32)).set2 (c + d))
  obtain ⟨c0, c1, c2, c3, f0, f1, f2, f3⟩ := J1.out.cells
  go_wp2_with (go_at_call 151; refine (sRoll_any _ _ _).mono ?_; rintro e w' ⟨rfl, hw⟩; obtain rfl := hw.symm)
  clear c0 c1 c2 c3 f0 f1 f2 f3
  rw [← HW2.out]
  obtain ⟨x2, HX2⟩ : ∃ x, Hid (x = w2.drew) := ⟨_, rfl⟩
  have J2 : Hid (Own4 w x2 w.heap.size ⟨rolI (a + b) 32, (rolI b 13 ^^^ (a + b)), c + d, d⟩) := by rw [HX2.out]; exact K2.out.drew
  obtain ⟨c0, c1, c2, c3, f0, f1, f2, f3⟩ := K2.out.cells
  go_still_tail 7, Try.mixed
  still_call (sRoll_any d 16 _)
  repeat still_step
  refine wpStill_nil ?_
  rw [fold_drew, ← HX2.out]
  clear c0 c1 c2 c3 f0 f1 f2 f3
  obtain ⟨w3, HW3⟩ : ∃ w3, Hid (w3 = ((x2.setCell ⟨w.heap.size, 3, none⟩ (.int .u64 (U ((rolI d 16 ^^^ (c + d)))))).setCell ⟨w.heap.size, 0, none⟩ (.int .u64 (U ((rolI (a + b) 32 + (rolI d 16 ^^^ (c + d)))))))) := ⟨_, rfl⟩
  have K3 : Hid (Own4 w w3 w.heap.size ⟨(rolI (a + b) 32 + (rolI d 16 ^^^ (c + d))), (rolI b 13 ^^^ (a + b)), c + d, (rolI d 16 ^^^ (c + d))⟩) := by rw [HW3.out]; exact ((J2.out.set3 ((rolI d 16 ^^^ (c + d)))).set0 ((rolI (a + b) 32 + (rolI d 16 ^^^ (c + d)))))
  obtain ⟨c0, c1, c2, c3, f0, f1, f2, f3⟩ := J2.out.cells
  go_wp2_with (go_at_call 151; refine (sRoll_any _ _ _).mono ?_; rintro e w' ⟨rfl, hw⟩; obtain rfl := hw.symm)
  clear c0 c1 c2 c3 f0 f1 f2 f3
  rw [← HW3.out]
  obtain ⟨x3, HX3⟩ : ∃ x, Hid (x = w3.drew) := ⟨_, rfl⟩
  have J3 : Hid (Own4 w x3 w.heap.size ⟨(rolI (a + b) 32 + (rolI d 16 ^^^ (c + d))), (rolI b 13 ^^^ (a + b)), c + d, (rolI d 16 ^^^ (c + d))⟩) := by rw [HX3.out]; exact K3.out.drew
  obtain ⟨c0, c1, c2, c3, f0, f1, f2, f3⟩ := K3.out.cells
  go_still_tail 7, Try.mixed
  still_call (sRoll_any (rolI d 16 ^^^ (c + d)) 21 _)
  repeat still_step
  refine wpStill_nil ?_
  rw [fold_drew, ← HX3.out]
  clear c0 c1 c2 c3 f0 f1 f2 f3
  obtain ⟨w4, HW4⟩ : ∃ w4, Hid (w4 = ((x3.setCell ⟨w.heap.size, 3, none⟩ (.int .u64 (U ((rolI (rolI d 16 ^^^ (c + d)) 21 ^^^ (rolI (a + b) 32 + (rolI d 16 ^^^ (c + d)))))))).setCell ⟨w.heap.size, 2, none⟩ (.int .u64 (U (((c + d) + (rolI b 13 ^^^ (a + b)))))))) := ⟨_, rfl⟩
  have K4 : Hid (Own4 w w4 w.heap.size ⟨(rolI (a + b) 32 + (rolI d 16 ^^^ (c + d))), (rolI b 13 ^^^ (a + b)), ((c + d) + (rolI b 13 ^^^ (a + b))), (rolI (rolI d 16 ^^^ (c + d)) 21 ^^^ (rolI (a + b) 32 + (rolI d 16 ^^^ (c + d))))⟩) := by rw [HW4.out]; exact ((J3.out.set3 ((rolI (rolI d 16 ^^^ (c + d)) 21 ^^^ (rolI (a + b) 32 + (rolI d 16 ^^^ (c + d)))))).set2 (((c + d) + (rolI b 13 ^^^ (a + b)))))
  obtain ⟨c0, c1, c2, c3, f0, f1, f2, f3⟩ := J3.out.cells
  go_wp2_with (go_at_call 151; refine (sRoll_any _ _ _).mono ?_; rintro e w' ⟨rfl, hw⟩; obtain rfl := hw.symm)
  clear c0 c1 c2 c3 f0 f1 f2 f3
  rw [← HW4.out]
  obtain ⟨x4, HX4⟩ : ∃ x, Hid (x = w4.drew) := ⟨_, rfl⟩
  have J4 : Hid (Own4 w x4 w.heap.size ⟨(rolI (a + b) 32 + (rolI d 16 ^^^ (c + d))), (rolI b 13 ^^^ (a + b)), ((c + d) + (rolI b 13 ^^^ (a + b))), (rolI (rolI d 16 ^^^ (c + d)) 21 ^^^ (rolI (a + b) 32 + (rolI d 16 ^^^ (c + d))))⟩) := by rw [HX4.out]; exact K4.out.drew
  obtain ⟨c0, c1, c2, c3, f0, f1, f2, f3⟩ := K4.out.cells
  go_still_tail 7, Try.mixed
  still_call (sRoll_any (rolI b 13 ^^^ (a + b)) 17 _)
  repeat still_step
  refine wpStill_nil ?_
  rw [fold_drew, ← HX4.out]
  clear c0 c1 c2 c3 f0 f1 f2 f3
  obtain ⟨c0, c1, c2, c3, f0, f1, f2, f3⟩ := J4.out.cells
  obtain ⟨w5, HW5⟩ : ∃ w5, Hid (w5 = ((x4.setCell ⟨w.heap.size, 1, none⟩ (.int .u64 (U ((rolI (rolI b 13 ^^^ (a + b)) 17 ^^^ ((c + d) + (rolI b 13 ^^^ (a + b)))))))).setCell ⟨w.heap.size, 2, none⟩ (.int .u64 (U (rolI ((c + d) + (rolI b 13 ^^^ (a + b))) 32))))) := ⟨_, rfl⟩
  have K5 : Hid (Own4 w w5 w.heap.size ⟨(rolI (a + b) 32 + (rolI d 16 ^^^ (c + d))), (rolI (rolI b 13 ^^^ (a + b)) 17 ^^^ ((c + d) + (rolI b 13 ^^^ (a + b)))), rolI ((c + d) + (rolI b 13 ^^^ (a + b))) 32, (rolI (rolI d 16 ^^^ (c + d)) 21 ^^^ (rolI (a + b) 32 + (rolI d 16 ^^^ (c + d))))⟩) := by rw [HW5.out]; exact (J4.out.set1 _).set2 _
  have R5 : Hid (Row w5 w.heap.size 155 (C4 ⟨(rolI (a + b) 32 + (rolI d 16 ^^^ (c + d))), (rolI (rolI b 13 ^^^ (a + b)) 17 ^^^ ((c + d) + (rolI b 13 ^^^ (a + b)))), rolI ((c + d) + (rolI b 13 ^^^ (a + b))) 32, (rolI (rolI d 16 ^^^ (c + d)) 21 ^^^ (rolI (a + b) 32 + (rolI d 16 ^^^ (c + d))))⟩)) := K5.out.row
  obtain ⟨z, hz⟩ := K5.out.res
  have Z5 : Hid (Row w5 (w.heap.size + 1) 155 (C4 z)) := hz
  clear hz
  go_wp2_with fail
  refine (sRoll_any _ _ _).mono ?_
  rintro e w' ⟨rfl, hw⟩
  obtain rfl := hw.symm
  have ZR : Hid (Row ((((w5.setCell ⟨w.heap.size + 1, 0, none⟩ (.int .u64 (U (rolI (a + b) 32 + (rolI d 16 ^^^ (c + d)))))).setCell ⟨w.heap.size + 1, 1, none⟩ (.int .u64 (U (rolI (rolI b 13 ^^^ (a + b)) 17 ^^^ ((c + d) + (rolI b 13 ^^^ (a + b))))))).setCell ⟨w.heap.size + 1, 2, none⟩ (.int .u64 (U (rolI ((c + d) + (rolI b 13 ^^^ (a + b))) 32)))).setCell ⟨w.heap.size + 1, 3, none⟩ (.int .u64 (U (rolI (rolI d 16 ^^^ (c + d)) 21 ^^^ (rolI (a + b) 32 + (rolI d 16 ^^^ (c + d))))))) (w.heap.size + 1) 155 (C4 (mx ⟨a, b, c, d⟩))) := (((Z5.out.set 0 _).set 1 _).set 2 _).set 3 _
  have q0 := Z5.out.cell 0
  have q1 := Z5.out.cell 1
  have q2 := Z5.out.cell 2
  have q3 := Z5.out.cell 3
  have g0 := Z5.out.free 0
  have g1 := Z5.out.free 1
  have g2 := Z5.out.free 2
  have g3 := Z5.out.free 3
  simp at q0 q1 q2 q3
  go_wp2_with (rw [← HW5.out]; refine wpList_load_row (by rfl) 155 _ (by rfl) w.heap.size (by rfl) 155 _ (0, 0) _ R5.out Try.underlying155 (by rfl) Try.info4 ?_; clear c0 c1 c2 c3 f0 f1 f2 f3)
  clear q0 q1 q2 q3 g0 g1 g2 g3
  refine bodyPost_ret (v := A4 (mx ⟨a, b, c, d⟩)) (results_cell_row Try.results145 _ _ (w.heap.size + 1) 155 _ (0, 0) _ (by simp) ZR.out Try.underlying155 (by rfl) Try.info4) rfl ⟨rfl, ?_⟩
  exact Below.setCell (Below.setCell (Below.setCell (Below.setCell K5.out.bel (by simp) _) (by simp) _) (by simp) _) (by simp) _
end Go.Proofs.Ytcnigfejpfcfaaa

/- The program's hash: what its parts answer and make of it. Condition: a length of at most 2^20. -/
namespace Go.Proofs.Ytcnigfejpfcfaaa
set_option maxRecDepth 2000
open Go.ChangeShapes Go.WideShapes Go.ChangeAt Go.RowKit
open Gs (U rolI V4 mx inn key all4 fin)

/-- A hash as the cells that it is: the long that is gathered, how many bytes were put, the state. -/
abbrev H6 (L n : Nat) (v : V4) : Array Value := #[.int .u64 (L : Int), .int .i64 (n : Int), .int .u64 (U v.a), .int .u64 (U v.b), .int .u64 (U v.c), .int .u64 (U v.d)]

set_option maxHeartbeats 1000000 in
theorem keyed_any (a b : BitVec 64) (w : World) : Calls Try.prog 146 #[.int .u64 (U a), .int .u64 (U b)] w fun e w' => e = .returned (.pointer (some ⟨w.heap.size, 0, none⟩)) ∧ w' = w.alloc (.cells (H6 0 0 (key a b)) 165) := by
  have h1 : bits .xor .u64 (U a) 8317987319222330741 = U (a ^^^ 8317987319222330741#64) := Gs.U_xor a 8317987319222330741#64
  have h2 : bits .xor .u64 (U b) 7237128888997146477 = U (b ^^^ 7237128888997146477#64) := Gs.U_xor b 7237128888997146477#64
  have h3 : bits .xor .u64 (U a) 7816392313619706465 = U (a ^^^ 7816392313619706465#64) := Gs.U_xor a 7816392313619706465#64
  have h4 : bits .xor .u64 (U b) 8387220255154660723 = U (b ^^^ 8387220255154660723#64) := Gs.U_xor b 8387220255154660723#64
  go_enter Try.func146, Try.ntmps146
  go_wp2
  go_ret
  exact ⟨rfl, rfl⟩

theorem put_or (L x k : Nat) (hL : L < 18446744073709551616) (hx : x < 256) (hk : k < 8) : bits .or .u64 (L : Int) (IntKind.u64.wrap ((x : Int) * 2 ^ (8 * k))) = ((L ||| x * 2 ^ (8 * k) : Nat) : Int) := by
  have hp : x * 2 ^ (8 * k) < 18446744073709551616 := by
    have h1 : (2 : Nat) ^ (8 * k) ≤ 2 ^ 56 := Nat.pow_le_pow_right (by omega) (by omega)
    have h2 : x * 2 ^ (8 * k) ≤ 255 * 2 ^ 56 := Nat.mul_le_mul (by omega) h1
    omega
  have e : IntKind.u64.wrap ((x : Int) * 2 ^ (8 * k)) = ((x * 2 ^ (8 * k) : Nat) : Int) := by
    have := Gs.wrap_nat (x * 2 ^ (8 * k))
    rw [Nat.mod_eq_of_lt hp] at this
    rw [← this]
    simp
  rw [e, bits_or_u64_nat _ _ hL hp]

set_option maxHeartbeats 1000000 in
theorem put_any (g L n x : Nat) (v : V4) (w : World) (h : Row w g 165 (H6 L n v)) (hn : n ≤ 4194304) (hL : L < 18446744073709551616) (hx : x < 256) :
    Calls Try.prog 147 #[.pointer (some ⟨g, 0, none⟩), .int .u8 (x : Int)] w fun e w' => e = .returned (.bool (decide ((n + 1) % 8 = 0))) ∧ Row w' g 165 (H6 (L ||| x * 2 ^ (8 * (n % 8))) (n + 1) v) ∧ Below g w w' := by
  have c0 := h.cell 0
  have c1 := h.cell 1
  have f0 := h.free 0
  have f1 := h.free 1
  simp at c0 c1
  obtain ⟨k, HK⟩ : ∃ k, Hid (k = n % 8) := ⟨_, rfl⟩
  have hk8 : k < 8 := by have := HK.out; omega
  have hm0 : (n : Int) % 8 = (k : Int) := by have := HK.out; omega
  have hm : (n : Int).tmod 8 = (k : Int) := by rw [Int.tmod_eq_emod_of_nonneg (by omega)]; exact hm0
  have hsh := put_or L x k hL hx hk8
  have hw8 : IntKind.u64.wrap (x : Int) = (x : Int) := by rw [IntKind.wrap_u64]; omega
  have h88 : IntKind.i64.wrap (8 * (k : Int)) = ((8 * k : Nat) : Int) := by rw [IntKind.wrap_i64]; omega
  go_enter Try.func147, Try.ntmps147
  go_wp2_with fail
  go_still_tail 16, Try.mixed
  rw [fold_drew]
  obtain ⟨w1, HW1⟩ : ∃ x, Hid (x = w.drew) := ⟨_, rfl⟩
  rw [← HW1.out]
  have K1 : Hid (Row w1 g 165 (H6 L n v)) := by show Row _ _ _ _; rw [HW1.out]; exact h.drew
  have B1 : Hid (Below g w w1) := by show Below _ _ _; rw [HW1.out]; exact (Below.refl _ _).drew
  clear c0 c1 f0 f1
  have c0 := K1.out.cell 0
  have c1 := K1.out.cell 1
  have f0 := K1.out.free 0
  have f1 := K1.out.free 1
  simp at c0 c1
  go_wp2
  go_ret
  refine ⟨ret_bool ?_, ?_, (B1.out.setCell (Nat.le_refl _) _).setCell (Nat.le_refl _) _⟩
  · rw [Bool.eq_iff_iff]
    simp
    omega
  · rw [← HK.out]
    exact (K1.out.set 0 _).set 1 _

set_option maxHeartbeats 1000000 in
theorem take_any (g L n : Nat) (v : V4) (w : World) (h : Row w g 165 (H6 L n v)) :
    Calls Try.prog 149 #[.pointer (some ⟨g, 0, none⟩)] w fun e w' => e = .returned (.int .u64 (L : Int)) ∧ Row w' g 165 (H6 0 n v) ∧ Below g w w' := by
  have c0 := h.cell 0
  have f0 := h.free 0
  simp at c0
  have K : Hid (Row w g 165 (H6 L n v)) := h
  clear h
  go_enter Try.func149, Try.ntmps149
  go_wp2
  go_ret
  exact ⟨rfl, K.out.set 0 _, Below.setCell (Below.refl g _) (p := ⟨g, 0, none⟩) (Nat.le_refl _) _⟩

set_option maxHeartbeats 1000000 in
theorem last_any (g L n : Nat) (v : V4) (w : World) (h : Row w g 165 (H6 L n v)) (hn : n ≤ 4194304) (hL : L < 18446744073709551616) :
    Calls Try.prog 153 #[.pointer (some ⟨g, 0, none⟩)] w fun e w' => e = .returned (.int .u64 (U (BitVec.ofNat 64 L ||| (BitVec.ofNat 64 n <<< 56)))) ∧ Row w' g 165 (H6 L n v) ∧ Below g w w' := by
  have c0 := h.cell 0
  have c1 := h.cell 1
  simp at c0 c1
  have K : Hid (Row w g 165 (H6 L n v)) := h
  clear h
  have hw8 : IntKind.u64.wrap (n : Int) = (n : Int) := by rw [IntKind.wrap_u64]; omega
  have hor : bits .or .u64 (L : Int) (IntKind.u64.wrap ((n : Int) * 72057594037927936)) = U (BitVec.ofNat 64 L ||| (BitVec.ofNat 64 n <<< 56)) := by
    rw [Gs.U_nat (n := n) (by omega), show (72057594037927936 : Int) = 2 ^ 56 by decide, Gs.U_shl, Gs.U_nat hL, Gs.U_or]
  go_enter Try.func153, Try.ntmps153
  go_wp2_with fail
  go_quiet (fail)
  go_wp2
  go_ret
  exact ⟨rfl, K.out, belowDrewN (Below.refl _ _) _⟩

/-- Rounds, one behind the other. -/
def mxs (v : V4) : Nat → V4
  | 0 => v
  | k + 1 => mx (mxs v k)

set_option maxHeartbeats 1000000 in
theorem mixes_any (g L n r : Nat) (v : V4) (w : World) (h : Row w g 165 (H6 L n v)) (hr : r ≤ 4) :
    Calls Try.prog 152 #[.pointer (some ⟨g, 0, none⟩), .int .i64 (r : Int)] w fun e w' => e = .returned (.tuple #[]) ∧ Row w' g 165 (H6 L n (mxs v r)) ∧ Below g w w' := by
  go_enter Try.func152, Try.ntmps152
  go_wp2
  go_loopw [5] (fun i wr => ∃ k : Nat, k ≤ r ∧ i = .int .i64 k ∧ Row wr g 165 (H6 L n (mxs v k)) ∧ Below g w wr) (fun i _ => r - (intOf i).toNat)
  case atStart => exact ⟨0, Nat.zero_le _, rfl, h, Below.refl _ _⟩
  case round =>
    obtain ⟨k, hk, rfl, hrow, hb⟩ := hrel
    clear h
    by_cases hlt : k < r
    · have hlti : (k : Int) < (r : Int) := by omega
      obtain ⟨a, b, c, d, HV⟩ : ∃ a b c d, Hid (mxs v k = ⟨a, b, c, d⟩) := ⟨_, _, _, _, rfl⟩
      rw [HV.out] at hrow
      have c2 := hrow.cell 2
      have c3 := hrow.cell 3
      have c4 := hrow.cell 4
      have c5 := hrow.cell 5
      simp at c2 c3 c4 c5
      have K : Hid (Row wr g 165 (H6 L n ⟨a, b, c, d⟩)) := hrow
      clear hrow
      have hM := mix_any ⟨a, b, c, d⟩ wr
      have HS : Hid (mxs v (k + 1) = mx ⟨a, b, c, d⟩) := by show _ = _; rw [mxs, HV.out]
      generalize mx ⟨a, b, c, d⟩ = m at hM HS
      obtain ⟨p, q, s, t⟩ := m
      have KM : Hid _ := hM
      clear hM
      go_wp2_with fail
      refine Calls.mono KM.out ?_
      rintro e w2 ⟨rfl, hb2⟩
      have hgl := K.out.lt
      have K2 : Hid (Row w2 g 165 (H6 L n ⟨a, b, c, d⟩)) := K.out.below hb2 hgl
      have HB : Hid (Below g w w2) := hb.trans (hb2.mono (by omega))
      have KN : Hid (Row ((((w2.setCell ⟨g, 2, none⟩ (.int .u64 (U p))).setCell ⟨g, 3, none⟩ (.int .u64 (U q))).setCell ⟨g, 4, none⟩ (.int .u64 (U s))).setCell ⟨g, 5, none⟩ (.int .u64 (U t))) g 165 (H6 L n (mxs v (k + 1)))) := by
        show Row _ _ _ _
        rw [HS.out]
        exact (((K2.out.set 2 _).set 3 _).set 4 _).set 5 _
      have BN : Hid (Below g w ((((w2.setCell ⟨g, 2, none⟩ (.int .u64 (U p))).setCell ⟨g, 3, none⟩ (.int .u64 (U q))).setCell ⟨g, 4, none⟩ (.int .u64 (U s))).setCell ⟨g, 5, none⟩ (.int .u64 (U t)))) := Below.setCell (Below.setCell (Below.setCell (Below.setCell HB.out (by simp) _) (by simp) _) (by simp) _) (by simp) _
      clear c2 c3 c4 c5
      have c2 := K2.out.cell 2
      have c3 := K2.out.cell 3
      have c4 := K2.out.cell 4
      have c5 := K2.out.cell 5
      have f2 := K2.out.free 2
      have f3 := K2.out.free 3
      have f4 := K2.out.free 4
      have f5 := K2.out.free 5
      simp at c2 c3 c4 c5
      go_wp2
      go_roundw
      case rel => exact ⟨k + 1, by omega, by go_num, KN.out, BN.out⟩
      case measure => simp [intOf]; omega
    · obtain rfl : k = r := by omega
      have K : Hid (Row wr g 165 (H6 L n (mxs v k))) := hrow
      clear hrow
      go_wp2
      go_end0
      exact ⟨rfl, K.out, hb⟩

set_option maxHeartbeats 1000000 in
theorem add_any (g L n : Nat) (v : V4) (x : BitVec 64) (w : World) (h : Row w g 165 (H6 L n v)) :
    Calls Try.prog 148 #[.pointer (some ⟨g, 0, none⟩), .int .u64 (U x)] w fun e w' => e = .returned (.tuple #[]) ∧ Row w' g 165 (H6 L n (inn v x)) ∧ Below g w w' := by
  obtain ⟨a, b, c, d⟩ := v
  have hxor := Gs.U_xor
  have c5 := h.cell 5
  have f5 := h.free 5
  simp at c5
  have K0 : Hid (Row w g 165 (H6 L n ⟨a, b, c, d⟩)) := h
  clear h
  go_enter Try.func148, Try.ntmps148
  go_wp2_with fail
  go_still_tail 10, Try.mixed
  rw [fold_drew]
  obtain ⟨w1, HW1⟩ : ∃ x, Hid (x = w.drew) := ⟨_, rfl⟩
  rw [← HW1.out]
  have K1 : Hid (Row w1 g 165 (H6 L n ⟨a, b, c, d⟩)) := by show Row _ _ _ _; rw [HW1.out]; exact K0.out.drew
  have B1 : Hid (Below g w w1) := by show Below _ _ _; rw [HW1.out]; exact (Below.refl _ _).drew
  clear c5 f5
  have c5 := K1.out.cell 5
  have f5 := K1.out.free 5
  simp at c5
  obtain ⟨w2, HW2⟩ : ∃ w2, Hid (w2 = w1.setCell ⟨g, 5, none⟩ (.int .u64 (U (d ^^^ x)))) := ⟨_, rfl⟩
  have K2 : Hid (Row w2 g 165 (H6 L n ⟨a, b, c, d ^^^ x⟩)) := by show Row _ _ _ _; rw [HW2.out]; exact K1.out.set 5 _
  have B2 : Hid (Below g w w2) := by show Below _ _ _; rw [HW2.out]; exact Below.setCell B1.out (by simp) _
  go_wp2_with fail
  rw [← HW2.out]
  have hm := mixes_any g L n 2 ⟨a, b, c, d ^^^ x⟩ w2 K2.out (by omega)
  refine Calls.mono hm ?_
  rintro e w3 ⟨rfl, h3, hb3⟩
  clear hm c5 f5
  have HI : Hid (inn ⟨a, b, c, d⟩ x = ⟨(mxs ⟨a, b, c, d ^^^ x⟩ 2).a ^^^ x, (mxs ⟨a, b, c, d ^^^ x⟩ 2).b, (mxs ⟨a, b, c, d ^^^ x⟩ 2).c, (mxs ⟨a, b, c, d ^^^ x⟩ 2).d⟩) := rfl
  generalize mxs ⟨a, b, c, d ^^^ x⟩ 2 = m at h3 HI
  obtain ⟨p, q, s, t⟩ := m
  have K3 : Hid (Row w3 g 165 (H6 L n ⟨p, q, s, t⟩)) := h3
  have B3 : Hid (Below g w w3) := B2.out.trans hb3
  clear h3 hb3
  have c2 := K3.out.cell 2
  have f2 := K3.out.free 2
  simp at c2
  go_wp2_with fail
  go_still_tail 10, Try.mixed
  rw [fold_drew]
  obtain ⟨w4, HW4⟩ : ∃ x, Hid (x = w3.drew) := ⟨_, rfl⟩
  rw [← HW4.out]
  have K4 : Hid (Row w4 g 165 (H6 L n ⟨p, q, s, t⟩)) := by show Row _ _ _ _; rw [HW4.out]; exact K3.out.drew
  have B4 : Hid (Below g w w4) := by show Below _ _ _; rw [HW4.out]; exact B3.out.drew
  clear c2 f2
  have c2 := K4.out.cell 2
  have f2 := K4.out.free 2
  simp at c2
  go_wp2
  go_end0
  refine ⟨rfl, ?_, Below.setCell B4.out (by simp) _⟩
  rw [HI.out]
  exact K4.out.set 2 _
end Go.Proofs.Ytcnigfejpfcfaaa
