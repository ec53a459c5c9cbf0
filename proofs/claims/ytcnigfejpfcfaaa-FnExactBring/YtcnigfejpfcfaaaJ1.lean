/- A law of the walk over any program: an array literal built, a new variable made for it and filled (three operations) is one new block that holds the literal's cells. No condition but that the three are these operations. -/
import Derived.WalkKit
import Derived.ProofKit
import Derived.Laws.Tables
import Derived.Laws.Rows
import Derived.Great.BuildSlice
import Derived.Test.YtcnigfejpfcfaaaChecked
import Derived.Test.YtcnigfejpfcfaaaQGf
import Derived.Outline
import Derived.WalkSpells
import Derived.WalkLawsBesides
import Derived.Laws.BitsAllLaws
import Derived.Test.YtcnigfejpfcfaaaRows
import Derived.OpenShut
import Derived.ShutString
import Derived.ChangeOld
import Derived.Below
import Derived.Laws.OwnMore
import Derived.OwnWalk
import Derived.Laws.BytesArg
import Derived.Deep.QuietTactic
import Derived.BigQuiet
import Derived.Deep.RegionHeld3
import Derived.Deep.AppendLies
import Derived.Shelf.Abstract
import Derived.Deep.Strs
namespace Go.Proofs.Ytcnigfejpfcfaaa
set_option maxRecDepth 2000

theorem setRow_alloc (w : World) (zs cells : Array Value) (t : TypeId) : (w.alloc (.cells zs t)).setRow w.heap.size cells = w.alloc (.cells cells t) := by
  unfold World.setRow World.alloc
  congr 1
  apply Array.ext
  · simp
  · intro i h1 h2
    simp only [Array.getElem_modify, Array.getElem_push]
    split
    · rename_i h
      subst h
      simp
    · rename_i h
      have : i < w.heap.size := by simp at h2; omega
      simp [this]

theorem wpList_table {P : Program} {ops : Array Oper} {rest : List Oper} {o1 o2 o3 : Oper} {a : Act} {w : World} {Q : Exit → Act → World → Prop}
    (g1 : o1.guard = none) (g2 : o2.guard = none) (g3 : o3.guard = none) (t e : TypeId) (n : Nat) (parts : Array (Nat × Operand)) (x y : Operand) (k : IntKind) (zs : List Int)
    (h1 : o1.op = .build t parts) (h2 : o2.op = .alloc t) (h3 : o3.op = .store t x y)
    (hu : P.underlying t = some (.array n e)) (hsz : (P.info? e).map (·.size) = some 1) (hz : ((P.info? t).bind (·.zero)).map (·.cells.size) = some zs.length)
    (hparts : parts.toList = (zs.zipIdx 0).map fun x => (x.2, Operand.const (Value.int k x.1)))
    (hi : (P.info? t).map (·.size) = some zs.length)
    (d1 d2 : Tmp) (e1 : o1.dst = some d1) (e2 : o2.dst = some d2) (e3 : o3.dst = none) (hx : x = .tmp d2) (hy : y = .tmp d1) (hd : d1 ≠ d2) (b1 : d1 < a.tmps.size) (b2 : d2 < a.tmps.size)
    (h : wpList P ops Q rest ((a.put (some d1) (.agg (zs.map (Value.int k)).toArray)).put (some d2) (.pointer (some ⟨w.heap.size, 0, none⟩))) (w.alloc (.cells (zs.map (Value.int k)).toArray t))) :
    wpList P ops Q (o1 :: o2 :: o3 :: rest) a w := by
  refine wpList_buildFlatArrTo g1 t e n parts h1 k zs (some d1) e1 hu hsz hz hparts ?_
  refine wpList_plain g2 fun K hK => ?_
  cases hit : P.info? t with
  | none => simp [hit] at hz
  | some it =>
    cases hzz : it.zero with
    | none => simp [hit, hzz] at hz
    | some z =>
      simp only [hit, hzz, Option.map_some, Option.some.injEq, Option.bind_some] at hz hi
      have hal : (Instr.alloc t true (.tuple #[])).run P w = .ok (.pointer (some ⟨w.heap.size, 0, none⟩)) (w.alloc (.cells z.cells t)) := by
        have ha : (zeroValue t).run P w = .ok z w := by simp [zeroValue, typeInfo, hit, hzz]
        unfold Instr.alloc
        simp only [Sem.run_bind, ha, Result.andThen_ok]
        rfl
      unfold Oper.wp execOp
      simp only [h2, Sem.run_bind, hal, Result.andThen_ok]
      refine hK _ _ ?_
      rw [e2]
      subst hx hy
      refine wpList_store_rowTo g3 t _ _ h3 e3 w.heap.size (zs.map (Value.int k)).toArray ?_ ?_ t z.cells (heap_alloc_new w _) (by simp [hit, hi]) (by simp [hz]) ?_ ?_
      · simp [Act.put, Act.eval, b2]
      · simp [Act.put, Act.eval, b1, Ne.symm hd]
      · simp [Value.oneCell']
      · rw [setRow_alloc]
        exact h
end Go.Proofs.Ytcnigfejpfcfaaa

/- The two functions that keep a table: powerOfTwo answers the power of two at every number, log the logarithm at every byte number; each makes one new block and turns nothing that was there. -/
namespace Go.Proofs.Ytcnigfejpfcfaaa
set_option maxRecDepth 2000
open Go.ChangeShapes Go.WideShapes Go.ChangeAt Go.RowKit

def expZ : List Int := (List.range 255).map fun i => ((Gf.ex i : Nat) : Int)
def logZ : List Int := (List.range 256).map fun i => ((Gf.lg i : Nat) : Int)
def expV : Array Value := (expZ.map (Value.int .u8)).toArray
def logV : Array Value := (logZ.map (Value.int .u8)).toArray

theorem expV_at {i : Nat} (h : i < 255) : expV[i]? = some (.int .u8 ((Gf.ex i : Nat) : Int)) := by
  unfold expV expZ
  simp [h]
theorem logV_at {i : Nat} (h : i < 256) : logV[i]? = some (.int .u8 ((Gf.lg i : Nat) : Int)) := by
  unfold logV logZ
  simp [h]

set_option maxRecDepth 100000 in
set_option maxHeartbeats 400000 in
theorem pow2_pos (n : Int) (r : Nat) (w : World) (hr : r < 255) (h1 : n.tmod 255 = (r : Int)) :
    Calls Try.prog 129 #[.int .i64 n] w fun e w' => e = .returned (.int .u8 (Gf.ex r : Nat)) ∧ w' = w.alloc (.cells expV 153) := by
  have hc : (w.alloc (.cells expV 153)).cell? ⟨w.heap.size, r, none⟩ = some (.int .u8 (Gf.ex r : Nat)) := by
    rw [cell_of_row _ _ _ _ _ _ (heap_alloc_new w _)]; exact expV_at hr
  go_enter Try.func129, Try.ntmps129
  iterate 11 go_step
  refine wpList_table rfl rfl rfl 153 128 255 _ _ _ .u8 expZ rfl rfl rfl (by kernel_rfl) (by kernel_rfl) (by kernel_rfl) (by kernel_rfl) (by kernel_rfl) 5 3 rfl rfl rfl rfl rfl (by decide) (by simp) (by simp) ?_
  rw [show (expZ.map (Value.int .u8)).toArray = expV from rfl]
  refine wpList_frame (a' := { tmps := #[.int .i64 n, undef, .int .u8 0, .pointer (some ⟨w.heap.size, 0, none⟩), undef, .agg expV, undef, undef, undef, undef, undef, undef, undef, undef, undef], defers := [] }) (by kernel_rfl) ?_
  refine wpList_nil ?_
  go_wp2
  go_ret
  exact ⟨rfl, rfl⟩
set_option maxRecDepth 100000 in
set_option maxHeartbeats 400000 in
theorem pow2_neg (n : Int) (r : Nat) (w : World) (hr : r < 255) (h1 : n.tmod 255 = (r : Int) - 255) :
    Calls Try.prog 129 #[.int .i64 n] w fun e w' => e = .returned (.int .u8 (Gf.ex r : Nat)) ∧ w' = w.alloc (.cells expV 153) := by
  have hc : (w.alloc (.cells expV 153)).cell? ⟨w.heap.size, r, none⟩ = some (.int .u8 (Gf.ex r : Nat)) := by
    rw [cell_of_row _ _ _ _ _ _ (heap_alloc_new w _)]; exact expV_at hr
  go_enter Try.func129, Try.ntmps129
  iterate 11 go_step
  refine wpList_table rfl rfl rfl 153 128 255 _ _ _ .u8 expZ rfl rfl rfl (by kernel_rfl) (by kernel_rfl) (by kernel_rfl) (by kernel_rfl) (by kernel_rfl) 5 3 rfl rfl rfl rfl rfl (by decide) (by simp) (by simp) ?_
  rw [show (expZ.map (Value.int .u8)).toArray = expV from rfl]
  refine wpList_frame (a' := { tmps := #[.int .i64 n, undef, .int .u8 0, .pointer (some ⟨w.heap.size, 0, none⟩), undef, .agg expV, undef, undef, undef, undef, undef, undef, undef, undef, undef], defers := [] }) (by kernel_rfl) ?_
  refine wpList_nil ?_
  go_wp2
  go_ret
  exact ⟨rfl, rfl⟩
theorem pow2_any (n : Int) (w : World) :
    Calls Try.prog 129 #[.int .i64 n] w fun e w' => e = .returned (.int .u8 (Gf.ex (n % 255).toNat : Nat)) ∧ Below w.heap.size w w' := by
  have hr : (n % 255).toNat < 255 := by omega
  have hb : Below w.heap.size w (w.alloc (.cells expV 153)) := (Below.refl _ _).alloc (Nat.le_refl _) _
  have ht := Int.tmod_eq_emod (a := n) (b := 255)
  by_cases h : 0 ≤ n ∨ (255 : Int) ∣ n
  · rw [if_pos h] at ht
    refine (pow2_pos n (n % 255).toNat w hr (by omega)).mono ?_
    rintro e w' ⟨rfl, rfl⟩
    exact ⟨rfl, hb⟩
  · rw [if_neg h] at ht
    refine (pow2_neg n (n % 255).toNat w hr (by simp at ht; omega)).mono ?_
    rintro e w' ⟨rfl, rfl⟩
    exact ⟨rfl, hb⟩

set_option maxRecDepth 100000 in
set_option maxHeartbeats 400000 in
theorem log_any (r : Nat) (w : World) (hr : r < 256) :
    Calls Try.prog 130 #[.int .u8 (r : Int)] w fun e w' => e = .returned (.int .i64 (Gf.lg r : Nat)) ∧ Below w.heap.size w w' := by
  have hc : (w.alloc (.cells logV 154)).cell? ⟨w.heap.size, r, none⟩ = some (.int .u8 (Gf.lg r : Nat)) := by
    rw [cell_of_row _ _ _ _ _ _ (heap_alloc_new w _)]; exact logV_at hr
  have hl := Gf.lg_lt' r
  go_enter Try.func130, Try.ntmps130
  iterate 11 go_step
  refine wpList_table rfl rfl rfl 154 5 256 _ _ _ .u8 logZ rfl rfl rfl (by kernel_rfl) (by kernel_rfl) (by kernel_rfl) (by kernel_rfl) (by kernel_rfl) 4 3 rfl rfl rfl rfl rfl (by decide) (by simp) (by simp) ?_
  rw [show (logZ.map (Value.int .u8)).toArray = logV from rfl]
  refine wpList_frame (a' := { tmps := #[.int .u8 (r : Int), undef, .int .i64 0, .pointer (some ⟨w.heap.size, 0, none⟩), .agg logV, undef, undef, undef, undef], defers := [] }) (by kernel_rfl) ?_
  refine wpList_nil ?_
  go_wp2
  go_ret
  exact ⟨rfl, (Below.refl _ _).alloc (Nat.le_refl _) _⟩
end Go.Proofs.Ytcnigfejpfcfaaa

/- What each function of the field answers, in the program and in its model, at every number: sums, products, powers, inverses, quotients, powers of two and logarithms; none turns anything that was there. No condition. -/
namespace Go.Proofs.Ytcnigfejpfcfaaa
set_option maxRecDepth 2000
open Go.ChangeShapes Go.WideShapes Go.ChangeAt Go.RowKit

theorem ret_int {k : IntKind} {a b : Int} (h : a = b) : Ending.returned (.int k a) = .returned (.int k b) := by rw [h]
theorem below3 {a b c d : World} (h1 : Below a.heap.size a b) (h2 : Below b.heap.size b c) (h3 : Below c.heap.size c d) : Below a.heap.size a d :=
  (h1.trans (h2.mono h1.size)).trans (h3.mono (Nat.le_trans h1.size h2.size))
theorem below2 {a b c : World} (h1 : Below a.heap.size a b) (h2 : Below b.heap.size b c) : Below a.heap.size a c :=
  h1.trans (h2.mono h1.size)

theorem ret_bool {a b : Bool} (h : a = b) : Ending.returned (.bool a) = .returned (.bool b) := by rw [h]
theorem xor_i64 (a b : Nat) (ha : a < 4294967296) (hb : b < 4294967296) : bits .xor .i64 (a : Int) (b : Int) = ((a ^^^ b : Nat) : Int) := by
  have hx : a ^^^ b < 2 ^ 32 := Nat.xor_lt_two_pow (by omega) (by omega)
  show IntKind.i64.wrap ((BitVec.ofInt 64 (a : Int) ^^^ BitVec.ofInt 64 (b : Int)).toNat : Int) = _
  rw [BitVec.toNat_xor, ofInt_u64 a (by omega), ofInt_u64 b (by omega), IntKind.wrap_i64]
  omega

/-- A byte number. -/
def isB (a : Int) : Bool := decide (0 ≤ a ∧ a ≤ 255)
theorem isB_nat {a : Int} (h : isB a = true) : ∃ n : Nat, n < 256 ∧ a = (n : Int) := by
  simp [isB] at h
  exact ⟨a.toNat, by omega, by omega⟩
theorem isB_ofNat {n : Nat} (h : n < 256) : isB (n : Int) = true := by simp [isB]; omega
theorem isB_no {a : Int} (h : isB a = false) : a < 0 ∨ 255 < a := by simp [isB] at h; omega

def addI (a b : Int) : Int := if isB a = true ∧ isB b = true then ((a.toNat ^^^ b.toNat : Nat) : Int) else -1
def mulI (a b : Int) : Int := if isB a = true ∧ isB b = true then ((Gf.mul a.toNat b.toNat : Nat) : Int) else -1
def powI (a n : Int) : Int := if isB a = true ∧ 0 ≤ n ∧ n ≤ 1000000 then ((Gf.gpow a.toNat n.toNat : Nat) : Int) else -1
def invI (a : Int) : Int := if 1 ≤ a ∧ a ≤ 255 then ((Gf.inv a.toNat : Nat) : Int) else -1
def divI (a b : Int) : Int := mulI a (invI b)
def expI (n : Int) : Int := ((Gf.ex (n % 255).toNat : Nat) : Int)
def logI (a : Int) : Int := if 1 ≤ a ∧ a ≤ 255 then ((Gf.lg a.toNat : Nat) : Int) else -1

/-! ### The program's small functions -/
set_option maxHeartbeats 400000 in
theorem isByte_any (a : Int) (w : World) : Calls Try.prog 116 #[.int .i64 a] w fun e w' => e = .returned (.bool (isB a)) ∧ w' = w := by
  go_enter Try.func116, Try.ntmps116
  go_wp2
  · go_ret
    exact ⟨ret_bool (by simp [isB, *]), rfl⟩
  · go_ret
    exact ⟨ret_bool (by simp [isB]; omega), rfl⟩

set_option maxHeartbeats 400000 in
theorem plus_any (a b : Nat) (w : World) (ha : a < 256) (hb : b < 256) : Calls Try.prog 113 #[.int .u8 (a : Int), .int .u8 (b : Int)] w fun e w' => e = .returned (.int .u8 ((a ^^^ b : Nat) : Int)) ∧ w' = w := by
  have hx := u8_xor_nat a b ha hb
  go_enter Try.func113, Try.ntmps113
  go_wp2
  go_ret
  exact ⟨rfl, rfl⟩

set_option maxHeartbeats 400000 in
theorem times_any (a b : Nat) (w : World) (ha : a < 256) (hb : b < 256) :
    Calls Try.prog 131 #[.int .u8 (a : Int), .int .u8 (b : Int)] w fun e w' => e = .returned (.int .u8 (Gf.mul a b : Nat)) ∧ Below w.heap.size w w' := by
  by_cases a0 : a = 0
  · subst a0
    have hm := Gf.zero_mul hb
    go_enter Try.func131, Try.ntmps131
    go_wp2
    go_ret
    exact ⟨ret_int (by rw [hm]; rfl), Below.refl _ _⟩
  · have a0' : ((a : Int) == 0) = false := by simp; omega
    by_cases b0 : b = 0
    · subst b0
      have hm := Gf.mul_zero ha
      go_enter Try.func131, Try.ntmps131
      go_wp2
      go_ret
      exact ⟨ret_int (by rw [hm]; rfl), Below.refl _ _⟩
    · have b0' : ((b : Int) == 0) = false := by simp; omega
      have hm : Hid (Gf.mul a b = Gf.ex ((Gf.lg a + Gf.lg b) % 255)) := Gf.mul_nz ha hb a0 b0
      have hl1 := Gf.lg_lt' a
      have hl2 := Gf.lg_lt' b
      go_enter Try.func131, Try.ntmps131
      go_wp2_with fail
      refine (log_any a _ ha).mono ?_
      rintro e w1 ⟨rfl, hb1⟩
      go_wp2_with fail
      refine (log_any b _ hb).mono ?_
      rintro e w2 ⟨rfl, hb2⟩
      go_wp2_with fail
      refine (pow2_any _ _).mono ?_
      rintro e w3 ⟨rfl, hb3⟩
      go_wp2
      go_ret
      exact ⟨ret_int (by rw [hm.out, show (((Gf.lg a : Nat) : Int) + ((Gf.lg b : Nat) : Int)) % 255 = (((Gf.lg a + Gf.lg b) % 255 : Nat) : Int) by omega, Int.toNat_natCast]), below3 hb1 hb2 hb3⟩

set_option maxHeartbeats 400000 in
theorem inverse_any (a : Nat) (w : World) (ha : a < 256) :
    Calls Try.prog 114 #[.int .u8 (a : Int)] w fun e w' => e = .returned (.int .u8 (Gf.inv a : Nat)) ∧ Below w.heap.size w w' := by
  have hl1 := Gf.lg_lt' a
  go_enter Try.func114, Try.ntmps114
  go_wp2_with fail
  refine (log_any a _ ha).mono ?_
  rintro e w1 ⟨rfl, hb1⟩
  go_wp2_with fail
  refine (pow2_any _ _).mono ?_
  rintro e w2 ⟨rfl, hb2⟩
  go_wp2
  go_ret
  refine ⟨ret_int ?_, below2 hb1 hb2⟩
  unfold Gf.inv
  congr 2
  omega

/-! ### The program's functions, at every number -/
/-! ### The model's functions, at every number -/
def inB (x a b : Int) : Bool := decide (a ≤ x ∧ x ≤ b)
set_option maxHeartbeats 400000 in
theorem sIn_any (x a b : Int) (w : World) : Calls Try.prog 26 #[.int .i64 x, .int .i64 a, .int .i64 b] w fun e w' => e = .returned (.bool (inB x a b)) ∧ w' = w := by
  go_enter Try.func26, Try.ntmps26
  go_wp2
  · go_ret
    exact ⟨ret_bool (by simp [inB, *]), rfl⟩
  · go_ret
    exact ⟨ret_bool (by simp [inB]; omega), rfl⟩
set_option maxHeartbeats 400000 in
theorem sIs_any (a : Int) (w : World) : Calls Try.prog 99 #[.int .i64 a] w fun e w' => e = .returned (.bool (isB a)) ∧ w' = w := by
  go_enter Try.func99, Try.ntmps99
  go_wp2_with fail
  refine (sIn_any _ _ _ _).mono ?_
  rintro e w1 ⟨rfl, rfl⟩
  go_wp2
  go_ret
  exact ⟨ret_bool rfl, rfl⟩

end Go.Proofs.Ytcnigfejpfcfaaa

/- What the laws' walks are told of a slice of integers that came in. A definition, no claim. -/
namespace Go.Proofs.Ytcnigfejpfcfaaa
set_option maxRecDepth 2000
/-- It is nil, or it leads to a row of 'cap' cells that hold the numbers 'zs'. -/
def IsRow (k : IntKind) (w : World) (a : Option Addr) (len cap : Nat) (zs : List Int) : Prop :=
  (a = none ∧ len = 0 ∧ cap = 0 ∧ zs = []) ∨
  ∃ x, a = some x ∧ len ≤ cap ∧ cap ≤ maxLen ∧ zs.length = cap ∧ (∀ i, i < zs.length → w.cell? (x.add i) = some (.int k (zs.getD i 0))) ∧ ∀ n ∈ zs, (Lit.int k n).wf = true
end Go.Proofs.Ytcnigfejpfcfaaa

/- The laws' own helpers over lists of numbers: a copy holds the same numbers in new memory; two lists are told equal just where they are. Condition: no list is longer than 2^20. -/
namespace Go.Proofs.Ytcnigfejpfcfaaa
set_option maxRecDepth 2000
open Go.ChangeShapes Go.WideShapes Go.ChangeAt Go.RowKit

/-- The first 'n' cells behind the address hold the numbers 'zs'. -/
def IntsAt (w : World) (a : Option Addr) (n : Nat) (zs : List Int) : Prop :=
  zs.length = n ∧ ∀ i, i < n → ∃ b off, a = some ⟨b, off, none⟩ ∧ w.cell? ⟨b, off + i, none⟩ = some (.int .i64 (zs.getD i 0))
theorem IntsAt.below {w w' : World} {a : Option Addr} {n : Nat} {zs : List Int} (h : IntsAt w a n zs) (hb : Below w.heap.size w w') : IntsAt w' a n zs := by
  refine ⟨h.1, fun i hi => ?_⟩
  obtain ⟨b, off, e, hc⟩ := h.2 i hi
  exact ⟨b, off, e, (hb.cell (p := ⟨b, off + i, none⟩) (block_lt_of_cell hc)).trans hc⟩
theorem IntsAt.mono {B : Nat} {w w' : World} {a : Option Addr} {n : Nat} {zs : List Int} (h : IntsAt w a n zs) (hb : Below B w w') (hB : ∀ x, a = some x → x.block < B) : IntsAt w' a n zs := by
  refine ⟨h.1, fun i hi => ?_⟩
  obtain ⟨b, off, e, hc⟩ := h.2 i hi
  exact ⟨b, off, e, (hb.cell (p := ⟨b, off + i, none⟩) (show b < B from hB _ e)).trans hc⟩
theorem IntsAt.some {w : World} {a : Option Addr} {n : Nat} {zs : List Int} (h : IntsAt w a n zs) (hn : 0 < n) : ∃ b off, a = some ⟨b, off, none⟩ ∧ ∀ i, i < n → w.cell? ⟨b, off + i, none⟩ = .some (.int .i64 (zs.getD i 0)) := by
  obtain ⟨b, off, e, _⟩ := h.2 0 hn
  refine ⟨b, off, e, fun i hi => ?_⟩
  obtain ⟨b', off', e', hc⟩ := h.2 i hi
  rw [e] at e'
  simp at e'
  obtain ⟨rfl, rfl⟩ := e'
  exact hc
theorem IsRow.ints {w : World} {a : Option Addr} {len cap : Nat} {zs : List Int} (h : IsRow .i64 w a len cap zs) : len ≤ cap ∧ IntsAt w a len (zs.take len) ∧ ∀ n ∈ zs.take len, (Lit.int .i64 n).wf = true := by
  rcases h with ⟨rfl, rfl, rfl, rfl⟩ | ⟨x, rfl, hl, hm, hz, hcell, hwz⟩
  · exact ⟨Nat.le_refl _, ⟨rfl, fun i hi => absurd hi (by omega)⟩, by simp⟩
  · refine ⟨hl, ⟨by rw [List.length_take]; omega, fun i hi => ?_⟩, fun n hn => hwz n (List.mem_of_mem_take hn)⟩
    obtain ⟨b, off, spot⟩ := x
    have hc := hcell i (by omega)
    have hspot : spot = none := by simpa [Addr.add] using World.cell?_spot (hcell 0 (by omega))
    subst hspot
    refine ⟨b, off, rfl, ?_⟩
    have e : (zs.take len).getD i 0 = zs.getD i 0 := by simp [hi]
    rw [e]
    have ea : (⟨b, off, none⟩ : Addr).add i = ⟨b, off + i, none⟩ := by unfold Addr.add; split <;> simp_all
    rw [← ea]
    exact hc
theorem ownsRow.ints {w : World} {B E g n cap : Nat} {zs : List Int} (h : w.ownsRow B E 1 (.slice (some ⟨g, 0, none⟩) n cap) n (zs.map (Value.int .i64))) : IntsAt w (some ⟨g, 0, none⟩) n zs := by
  have hl : zs.length = n := by simpa using h.1
  refine ⟨hl, fun i hi => ⟨g, 0, rfl, ?_⟩⟩
  rw [Nat.zero_add, h.cellAt i (by omega)]
  simp [hl, hi]

theorem ownsRow_below {w w' : World} {B e size n : Nat} {v : Value} {xs : List Value} (h : w.ownsRow B e size v n xs) (hb : Below w.heap.size w w') : w'.ownsRow B e size v n xs := by
  refine ⟨h.1, ?_⟩
  rcases h.2 with h' | ⟨g, cap, cur, h1, h2, h3, h4⟩
  · exact .inl h'
  · refine .inr ⟨g, cap, cur, h1, h2, ?_, h4⟩
    rw [hb.block g (Array.getElem?_eq_some_iff.1 h3).1]
    exact h3
theorem take_snoc (xs : List Int) (k : Nat) (h : k < xs.length) : xs.take (k + 1) = xs.take k ++ [xs.getD k 0] := by
  rw [List.take_succ_eq_append_getElem h]
  simp [h]
theorem Try.infoByte : (Try.prog.info? 5).map (fun i => (i.zero, i.size, i.bytes)) = some (some (.int .u8 0), 1, 1) := by kernel_rfl
theorem Try.infoInt : (Try.prog.info? 3).map (fun i => (i.zero, i.size, i.bytes)) = some (some (.int .i64 0), 1, 8) := by kernel_rfl

theorem copied_set (d : IntKind) (zs : List Int) (n k : Nat) (hn : zs.length = n) (hk : k < n) :
    ((zs.take k ++ List.replicate (n - k) 0).map (Value.int d)).set k (.int d (zs.getD k 0)) = (zs.take (k + 1) ++ List.replicate (n - (k + 1)) 0).map (Value.int d) := by
  apply List.ext_getElem?
  intro j
  simp only [List.getElem?_set, List.getElem?_map, List.getElem?_append, List.length_take, List.length_map, List.length_append, List.length_replicate, List.getElem?_take, List.getElem?_replicate]
  by_cases h1 : k = j
  · subst h1
    simp [hn, hk, show min k n = k by omega, show min (k + 1) n = k + 1 by omega, show k < k + (n - k) by omega]
  · by_cases h2 : j < k
    · simp [h1, h2, hn, show j < min k n by omega, show j < min (k + 1) n by omega, show j < k + 1 by omega]
    · by_cases h3 : j < n
      · simp [h1, hn, show ¬ j < min k n by omega, show ¬ j < min (k + 1) n by omega, show j - min k n < n - k by omega, show j - min (k + 1) n < n - (k + 1) by omega]
      · simp [h1, hn, show ¬ j < min k n by omega, show ¬ j < min (k + 1) n by omega, show ¬ j - min k n < n - k by omega, show ¬ j - min (k + 1) n < n - (k + 1) by omega]

set_option maxHeartbeats 1000000 in
theorem toIntS_any (a : Option Addr) (n cap : Nat) (zs : List Int) (w : World) (h : IntsAt w a n zs) (hn : n ≤ 1048576) :
    Calls Try.prog 82 #[.slice a n cap] w fun e w' => e = .returned (.slice (some ⟨w.heap.size, 0, none⟩) n n) ∧ w'.ownsRow w.heap.size 3 1 (.slice (some ⟨w.heap.size, 0, none⟩) n n) n (zs.map (Value.int .i64)) ∧ Below w.heap.size w w' := by
  obtain ⟨i0, hi, hz0, hz1, hz2⟩ := info_parts Try.infoInt
  obtain ⟨hlen, hcells⟩ := h
  have HL : Hid (zs.length = n) := hlen
  clear hlen
  go_enter Try.func82, Try.ntmps82
  go_wp2_with (at_make; refine wpList_make_full _ rfl _ _ 40 rfl w.heap.size 3 i0 (.int .i64 0) 1 Try.underlying40 hi hz0 hz1 .i64 .i64 _ _ n rfl rfl rfl rfl (by rw [hz2]; omega) (by unfold maxLen; omega) (Nat.le_refl _) ?_; intro w1 hown hgrow)
  have hb1 : Below w.heap.size w w1 := (Below.refl _ _).grown hgrow (Nat.le_refl _) (by simp)
  have ho1 : w1.ownsRow w.heap.size 3 1 (.slice (some ⟨w.heap.size, 0, none⟩) n n) n ((zs.take 0 ++ List.replicate (n - 0) 0).map (Value.int .i64)) := by
    simpa [Value.cells, toList_madeCells_one] using hown
  clear hown hgrow
  go_loopw [4] (fun i wr => ∃ k : Nat, k ≤ n ∧ i = .int .i64 k ∧ wr.ownsRow w.heap.size 3 1 (.slice (some ⟨w.heap.size, 0, none⟩) n n) n ((zs.take k ++ List.replicate (n - k) 0).map (Value.int .i64)) ∧ Below w.heap.size w wr) (fun i _ => n - (intOf i).toNat)
  case atStart => exact ⟨0, Nat.zero_le _, rfl, ho1, hb1⟩
  case round =>
    obtain ⟨k, hk, rfl, hown, hbel⟩ := hrel
    clear ho1 hb1
    by_cases hlt : k < n
    · obtain ⟨b, off, rfl, hc⟩ := hcells k hlt
      have hcx : wr.cell? ⟨b, off + k, none⟩ = some (.int .i64 (zs.getD k 0)) := (hbel.cell (p := ⟨b, off + k, none⟩) (block_lt_of_cell hc)).trans hc
      obtain ⟨old, hold⟩ : ∃ v, wr.cell? ⟨w.heap.size, k, none⟩ = some v := by
        rw [hown.cellAt k (by omega)]
        exact ⟨_, List.getElem?_eq_getElem (by rw [hown.1]; omega)⟩
      have hfr := hown.frozenAt k
      have hst := hown.stored k (.int .i64 (zs.getD k 0))
      rw [copied_set .i64 zs n k HL.out hlt] at hst
      have hne : Below w.heap.size w (wr.setCell ⟨w.heap.size, k, none⟩ (.int .i64 (zs.getD k 0))) := hbel.setCell (Nat.le_refl _) _
      have HO : Hid _ := hst.1
      clear hst hown hcells hc
      go_wp2
      go_roundw
      case rel => exact ⟨k + 1, by omega, by go_num, HO.out, hne⟩
      case measure => simp [intOf]; omega
    · have e : k = n := by omega
      subst e
      go_wp2
      go_ret
      refine ⟨rfl, ?_, hbel⟩
      have e2 : zs.take k ++ List.replicate (k - k) 0 = zs := by rw [List.take_of_length_le (by rw [HL.out]; omega)]; simp
      rw [e2] at hown
      exact hown
end Go.Proofs.Ytcnigfejpfcfaaa

/- What the model's functions with loops answer at every number: products, powers, inverses, quotients, powers of two and logarithms; none turns anything that was there. No condition. -/
namespace Go.Proofs.Ytcnigfejpfcfaaa
set_option maxRecDepth 2000
open Go.ChangeShapes Go.WideShapes Go.ChangeAt Go.RowKit

theorem pea_step (k A B X : Nat) : Gf.pea (k + 1) A B X = Gf.pea k (Gf.dbl A) (B / 2) (if B % 2 = 1 then X ^^^ A else X) := rfl

set_option maxHeartbeats 1000000 in
theorem sMul_nat (a b : Nat) (w : World) (ha : a < 256) (hb : b < 256) :
    Calls Try.prog 128 #[.int .i64 (a : Int), .int .i64 (b : Int)] w fun e w' => e = .returned (.int .i64 (Gf.mul a b : Nat)) ∧ w' = w := by
  have ia := isB_ofNat ha
  have ib := isB_ofNat hb
  go_enter Try.func128, Try.ntmps128
  go_wp2_with (go_at_call 99; refine (sIs_any _ _).mono ?_; rintro e w' ⟨rfl, rfl⟩)
  go_loop [0, 1, 5] (fun p q r => ∃ A B X k : Nat, A < 256 ∧ X < 256 ∧ k ≤ 8 ∧ B < 2 ^ k ∧ Hid (Gf.pea k A B X = Gf.mul a b) ∧ p = .int .i64 A ∧ q = .int .i64 B ∧ r = .int .i64 X) (fun _ q _ => (intOf q).toNat)
  case atStart => exact ⟨a, b, 0, 8, ha, by omega, by omega, by omega, rfl, rfl, rfl, rfl⟩
  case round =>
    obtain ⟨A, B, X, k, hA, hX, hk, hB, HP, rfl, rfl, rfl⟩ := hrel
    clear ia ib
    have hB8 : B < 256 := Nat.lt_of_lt_of_le hB (Nat.pow_le_pow_right (by omega) hk)
    by_cases hz : B = 0
    · subst hz
      go_wp2
      go_ret
      exact ⟨ret_int (by rw [← HP.out, Gf.pea_zero]), rfl⟩
    · obtain ⟨j, rfl⟩ : ∃ j, k = j + 1 := ⟨k - 1, by
        rcases Nat.eq_zero_or_pos k with h | h
        · subst h; simp at hB; omega
        · omega⟩
      have hpos : 0 < (B : Int) := by omega
      have hB2 : Hid (B / 2 < 2 ^ j) := by
        have : B < 2 ^ j * 2 := by rw [← Nat.pow_succ]; exact hB
        show B / 2 < 2 ^ j
        omega
      clear hB
      have hxa : bits .xor .i64 (X : Int) (A : Int) = ((X ^^^ A : Nat) : Int) := xor_i64 X A (by omega) (by omega)
      have hxs : bits .xor .i64 (2 * (A : Int)) 285 = (((2 * A) ^^^ 285 : Nat) : Int) := by
        have := xor_i64 (2 * A) 285 (by omega) (by omega)
        simpa using this
      have hlt : Hid (X ^^^ A < 256) := Gf.xor_lt hX hA
      have hdl : Hid (Gf.dbl A < 256) := Gf.dbl_lt hA
      by_cases ho : B % 2 = 1
      · have ho' : ((B : Int) % 2 == 1) = true := by simp; omega
        by_cases hg : 255 < 2 * A
        · have hg' : 255 < 2 * (A : Int) := by omega
          have hd : Hid (Gf.dbl A = (2 * A) ^^^ 285) := by show Gf.dbl A = _; simp [Gf.dbl, hg]
          go_wp2
          go_round
          case rel => exact ⟨Gf.dbl A, B / 2, X ^^^ A, j, hdl.out, hlt.out, by omega, hB2.out, by have h := HP.out; rw [pea_step, if_pos ho] at h; exact h, by rw [hd.out], by go_num, rfl⟩
          case measure => simp [intOf]; omega
        · have hg' : ¬ 255 < 2 * (A : Int) := by omega
          have hd : Hid (Gf.dbl A = 2 * A) := by show Gf.dbl A = _; simp [Gf.dbl, hg]
          go_wp2
          go_round
          case rel => exact ⟨Gf.dbl A, B / 2, X ^^^ A, j, hdl.out, hlt.out, by omega, hB2.out, by have h := HP.out; rw [pea_step, if_pos ho] at h; exact h, by rw [hd.out]; go_num, by go_num, rfl⟩
          case measure => simp [intOf]; omega
      · have ho' : ((B : Int) % 2 == 1) = false := by simp; omega
        by_cases hg : 255 < 2 * A
        · have hg' : 255 < 2 * (A : Int) := by omega
          have hd : Hid (Gf.dbl A = (2 * A) ^^^ 285) := by show Gf.dbl A = _; simp [Gf.dbl, hg]
          go_wp2
          go_round
          case rel => exact ⟨Gf.dbl A, B / 2, X, j, hdl.out, hX, by omega, hB2.out, by have h := HP.out; rw [pea_step, if_neg ho] at h; exact h, by rw [hd.out], by go_num, rfl⟩
          case measure => simp [intOf]; omega
        · have hg' : ¬ 255 < 2 * (A : Int) := by omega
          have hd : Hid (Gf.dbl A = 2 * A) := by show Gf.dbl A = _; simp [Gf.dbl, hg]
          go_wp2
          go_round
          case rel => exact ⟨Gf.dbl A, B / 2, X, j, hdl.out, hX, by omega, hB2.out, by have h := HP.out; rw [pea_step, if_neg ho] at h; exact h, by rw [hd.out]; go_num, by go_num, rfl⟩
          case measure => simp [intOf]; omega

set_option maxHeartbeats 400000 in
theorem sMul_any (a b : Int) (w : World) : Calls Try.prog 128 #[.int .i64 a, .int .i64 b] w fun e w' => e = .returned (.int .i64 (mulI a b)) ∧ w' = w := by
  by_cases ha : isB a = true
  · by_cases hb : isB b = true
    · obtain ⟨A, hA, rfl⟩ := isB_nat ha
      obtain ⟨B, hB, rfl⟩ := isB_nat hb
      refine (sMul_nat A B w hA hB).mono ?_
      rintro e w' ⟨rfl, rfl⟩
      exact ⟨ret_int (by simp [mulI, ha, hb]), rfl⟩
    · have hb' : isB b = false := by simpa using hb
      go_enter Try.func128, Try.ntmps128
      go_wp2_with (go_at_call 99; refine (sIs_any _ _).mono ?_; rintro e w' ⟨rfl, rfl⟩)
      go_ret
      exact ⟨ret_int (by simp [mulI, hb]), rfl⟩
  · have ha' : isB a = false := by simpa using ha
    go_enter Try.func128, Try.ntmps128
    go_wp2_with (go_at_call 99; refine (sIs_any _ _).mono ?_; rintro e w' ⟨rfl, rfl⟩)
    go_ret
    exact ⟨ret_int (by simp [mulI, ha]), rfl⟩

set_option maxHeartbeats 1000000 in
theorem sPow_nat (a n : Nat) (w : World) (ha : a < 256) (hn : n ≤ 1000000) :
    Calls Try.prog 127 #[.int .i64 (a : Int), .int .i64 (n : Int)] w fun e w' => e = .returned (.int .i64 (Gf.gpow a n : Nat)) ∧ w' = w := by
  have ia := isB_ofNat ha
  have ib : inB (n : Int) 0 1000000 = true := by simp [inB]; omega
  go_enter Try.func127, Try.ntmps127
  go_wp2_with (first | (go_at_call 99; refine (sIs_any _ _).mono ?_; rintro e w' ⟨rfl, rfl⟩) | (go_at_call 26; refine (sIn_any _ _ _ _).mono ?_; rintro e w' ⟨rfl, rfl⟩))
  go_loop [0, 1, 5] (fun p q r => ∃ A N X : Nat, A < 256 ∧ X < 256 ∧ N ≤ 1000000 ∧ Hid (Gf.mul X (Gf.gpow A N) = Gf.gpow a n) ∧ p = .int .i64 A ∧ q = .int .i64 N ∧ r = .int .i64 X) (fun _ q _ => (intOf q).toNat)
  case atStart => exact ⟨a, n, 1, ha, by omega, hn, Gf.one_mul (Gf.gpow_lt _ _), rfl, rfl, rfl⟩
  case round =>
    obtain ⟨A, N, X, hA, hX, hN, HP, rfl, rfl, rfl⟩ := hrel
    clear ia ib
    by_cases hz : N = 0
    · subst hz
      go_wp2
      go_ret
      exact ⟨ret_int (by rw [← HP.out, Gf.gpow_zero, Gf.mul_one hX]), rfl⟩
    · have hpos : 0 < (N : Int) := by omega
      have hr : Hid (Gf.mul (if N % 2 = 1 then Gf.mul X A else X) (Gf.gpow (Gf.mul A A) (N / 2)) = Gf.gpow a n) := by
        show _ = _
        rw [Gf.gpow_round hA hX (by omega)]; exact HP.out
      have h1 : Hid (Gf.mul A A < 256) := Gf.mul_lt hA hA
      have h2 : Hid (Gf.mul X A < 256) := Gf.mul_lt hX hA
      by_cases ho : N % 2 = 1
      · have ho' : ((N : Int) % 2 == 1) = true := by simp; omega
        go_wp2_with fail
        refine (sMul_nat X A _ hX hA).mono ?_
        rintro e w1 ⟨rfl, rfl⟩
        go_wp2_with fail
        refine (sMul_nat A A _ hA hA).mono ?_
        rintro e w1 ⟨rfl, rfl⟩
        go_wp2
        go_round
        case rel => exact ⟨Gf.mul A A, N / 2, Gf.mul X A, h1.out, h2.out, by omega, by have h := hr.out; rw [if_pos ho] at h; exact h, rfl, by go_num, rfl⟩
        case measure => simp [intOf]; omega
      · have ho' : ((N : Int) % 2 == 1) = false := by simp; omega
        go_wp2_with fail
        refine (sMul_nat A A _ hA hA).mono ?_
        rintro e w1 ⟨rfl, rfl⟩
        go_wp2
        go_round
        case rel => exact ⟨Gf.mul A A, N / 2, X, h1.out, hX, by omega, by have h := hr.out; rw [if_neg ho] at h; exact h, rfl, by go_num, rfl⟩
        case measure => simp [intOf]; omega

set_option maxHeartbeats 400000 in
theorem sPow_any (a n : Int) (w : World) : Calls Try.prog 127 #[.int .i64 a, .int .i64 n] w fun e w' => e = .returned (.int .i64 (powI a n)) ∧ w' = w := by
  by_cases ha : isB a = true
  · by_cases hb : inB n 0 1000000 = true
    · obtain ⟨A, hA, rfl⟩ := isB_nat ha
      simp [inB] at hb
      obtain ⟨M, rfl⟩ := Int.eq_ofNat_of_zero_le hb.1
      refine (sPow_nat A M w hA (by omega)).mono ?_
      rintro e w' ⟨rfl, rfl⟩
      exact ⟨ret_int (by simp only [powI]; rw [if_pos ⟨ha, by omega, by omega⟩]; simp), rfl⟩
    · have hb' : inB n 0 1000000 = false := by simpa using hb
      have hb2 : ¬ (0 ≤ n ∧ n ≤ 1000000) := by simpa [inB] using hb
      go_enter Try.func127, Try.ntmps127
      go_wp2_with (first | (go_at_call 99; refine (sIs_any _ _).mono ?_; rintro e w' ⟨rfl, rfl⟩) | (go_at_call 26; refine (sIn_any _ _ _ _).mono ?_; rintro e w' ⟨rfl, rfl⟩))
      go_ret
      exact ⟨ret_int (by simp only [powI]; rw [if_neg (fun h => hb2 h.2)]), rfl⟩
  · have ha' : isB a = false := by simpa using ha
    go_enter Try.func127, Try.ntmps127
    go_wp2_with (first | (go_at_call 99; refine (sIs_any _ _).mono ?_; rintro e w' ⟨rfl, rfl⟩) | (go_at_call 26; refine (sIn_any _ _ _ _).mono ?_; rintro e w' ⟨rfl, rfl⟩))
    go_ret
    exact ⟨ret_int (by simp [powI, ha]), rfl⟩

set_option maxHeartbeats 400000 in
theorem sInv_any (a : Int) (w : World) : Calls Try.prog 104 #[.int .i64 a] w fun e w' => e = .returned (.int .i64 (invI a)) ∧ w' = w := by
  by_cases h : 1 ≤ a ∧ a ≤ 255
  · have hi : inB a 1 255 = true := by simp [inB, h]
    have hv : Hid (powI a 254 = invI a) := by
      show _ = _
      simp only [powI, invI]
      rw [if_pos ⟨by simp [isB]; omega, by omega, by omega⟩, if_pos h, show Int.toNat 254 = 254 from rfl, Gf.gpow_inv (by omega) (by omega)]
    go_enter Try.func104, Try.ntmps104
    go_wp2_with (first | (go_at_call 26; refine (sIn_any _ _ _ _).mono ?_; rintro e w' ⟨rfl, rfl⟩) | (go_at_call 127; refine (sPow_any _ _ _).mono ?_; rintro e w' ⟨rfl, rfl⟩))
    go_ret
    exact ⟨ret_int hv.out, rfl⟩
  · have hi : inB a 1 255 = false := by simp [inB]; omega
    go_enter Try.func104, Try.ntmps104
    go_wp2_with (go_at_call 26; refine (sIn_any _ _ _ _).mono ?_; rintro e w' ⟨rfl, rfl⟩)
    go_ret
    exact ⟨ret_int (by simp only [invI]; rw [if_neg h]), rfl⟩

theorem expI_nat {k : Nat} (h : k < 255) : expI (k : Int) = ((Gf.ex k : Nat) : Int) := by
  unfold expI
  congr 2
  omega

end Go.Proofs.Ytcnigfejpfcfaaa

/- Texts scaled and summed byte by byte, in the program and in its model: what each answers at every text and number. Condition: texts of at most 2^20 bytes. -/
namespace Go.Proofs.Ytcnigfejpfcfaaa
set_option maxRecDepth 2000
open Go.ChangeShapes Go.WideShapes Go.ChangeAt Go.RowKit

theorem ret_str {a b : ByteArray} (h : a = b) : Ending.returned (.string a) = .returned (.string b) := by rw [h]
theorem u8_lt (c : UInt8) : c.toNat < 256 := c.toNat_lt

def scaleL (s : ByteArray) (A : Nat) : List Int := s.data.toList.map fun c => ((Gf.mul c.toNat A : Nat) : Int)
def scaleS (s : ByteArray) (a : Int) : ByteArray := if isB a = true then strOfNums (scaleL s a.toNat) else ByteArray.empty
theorem scaleL_len (s : ByteArray) (A : Nat) : (scaleL s A).length = s.size := by simp [scaleL]
theorem scaleL_at (s : ByteArray) (A k : Nat) (h : k < s.size) : (scaleL s A).getD k 0 = ((Gf.mul s[k].toNat A : Nat) : Int) := by
  have h' : k < s.data.toList.length := by simpa using h
  simp only [scaleL, List.getD, List.getElem?_map, List.getElem?_eq_getElem h', Option.map_some, Option.getD_some]
  rfl

set_option maxHeartbeats 1000000 in
theorem sScale_nat (s : ByteArray) (A : Nat) (w : World) (hs : s.size ≤ 1048576) (hA : A < 256) :
    Calls Try.prog 105 #[.string s, .int .i64 (A : Int)] w fun e w' => e = .returned (.string (strOfNums (scaleL s A))) ∧ Below w.heap.size w w' := by
  obtain ⟨i0, hi, hz0, hz1, hz2⟩ := info_parts Try.infoByte
  have ia := isB_ofNat hA
  obtain ⟨xs, HX⟩ : ∃ xs, Hid (xs = scaleL s A) := ⟨_, rfl⟩
  obtain ⟨n, hn⟩ : ∃ n, s.size = n := ⟨_, rfl⟩
  have HL : Hid (xs.length = n) := by show _ = _; rw [HX.out, scaleL_len, hn]
  go_enter Try.func105, Try.ntmps105
  go_wp2_with fail
  refine (sIs_any _ _).mono ?_
  rintro e w' ⟨rfl, hw⟩
  obtain rfl := hw.symm
  go_wp2
  clear hw ia
  have ho1 : (w.alloc (.cells #[] 5)).ownsRow w.heap.size 5 1 (.slice (some ⟨w.heap.size, 0, none⟩) 0 0) 0 ((xs.take 0).map (Value.int .u8)) :=
    World.ownsRow_lit w #[] 0 (Nat.le_refl _) (by unfold maxLen; omega) rfl
  go_loopw [5, 6] (fun v i wr => ∃ k : Nat, k ≤ n ∧ i = .int .i64 k ∧ wr.ownsRow w.heap.size 5 1 v k ((xs.take k).map (Value.int .u8)) ∧ Hid (v ≠ .slice none 0 0) ∧ Below w.heap.size w wr) (fun _ i _ => n - (intOf i).toNat)
  case atStart => exact ⟨0, Nat.zero_le _, rfl, ho1, by simp [Hid], (Below.refl _ _).alloc (Nat.le_refl _) _⟩
  case round =>
    obtain ⟨k, hk, rfl, hown, HV, hbel⟩ := hrel
    clear ho1
    by_cases hlt : k < n
    · have hks : k < s.size := by omega
      have hml := Gf.mul_lt (u8_lt s[k]) hA
      have HE : Hid (xs.take (k + 1) = xs.take k ++ [((Gf.mul s[k].toNat A : Nat) : Int)]) := by
        show _ = _
        rw [take_snoc xs k (by rw [HL.out]; exact hlt), HX.out, scaleL_at s A k hks]
      have hcl := u8_lt s[k]
      go_wp2_with fail
      refine (sMul_nat _ A _ hcl hA).mono ?_
      rintro e w1 ⟨rfl, hw1⟩
      obtain rfl := hw1.symm
      go_wp2_with (at_builtin; refine wpList_append_own _ rfl _ _ 103 rfl w.heap.size 5 i0 (.int .u8 0) 1 1 Try.underlying103 hi hz0 hz1 hz2 rfl (by decide) _ _ _ rfl (hown.alloc _) ⟨wr.heap.size, 0, none⟩ 1 1 [.int .u8 ((Gf.mul s[k].toNat A : Nat) : Int)] rfl rfl ?c1 ?c2 ?c3 ?c4 ?c5 ?_)
      case c1 =>
        intro j u hj
        match j, hj with
        | 0, hj => simp at hj; subst hj; simp [Addr.add]
      case c2 => intro u hu; simp at hu; subst hu; rfl
      case c3 => unfold maxLen; omega
      case c4 => omega
      case c5 => have := hbel.size; simp; omega
      · intro v' w1 hown' hgrow hnil
        have HV' : Hid (v' ≠ .slice none 0 0) := hnil
        have HO : Hid (w1.ownsRow w.heap.size 5 1 v' (k + 1) ((xs.take (k + 1)).map (Value.int .u8))) := by
          rw [HE.out, List.map_append, List.map_take]
          exact hown'
        have hb' : Below w.heap.size w w1 := (hbel.alloc hbel.size _).grown hgrow (by have := hbel.size; simp; omega) (fun j hj => (hown.lt j hj).1)
        clear hown' hgrow hnil hown
        go_wp2
        go_roundw
        case rel => exact ⟨k + 1, by omega, by go_num, HO.out, HV'.out, hb'⟩
        case measure => simp [intOf]; omega
    · have e : k = n := by omega
      subst e
      rw [List.take_of_length_le (by rw [HL.out]; omega)] at hown
      obtain ⟨g, cap, rfl⟩ : ∃ g cap, u5 = .slice (some ⟨g, 0, none⟩) k cap := by
        rcases hown.2 with h | ⟨g, cap, cur, h, _⟩
        · exact absurd h.1 HV.out
        · exact ⟨g, cap, h⟩
      have hcv := run_convert_bytes_arg (P := Try.prog) wr 103 5 Try.underlying103 Try.underlying5 g 0 k cap xs HL.out (fun i hi => by
        rw [Nat.zero_add, hown.cellAt i (by omega)]
        simp [HL.out, hi]) 9 Try.underlying9
      go_wp2
      go_ret
      exact ⟨ret_str (by rw [HX.out]), hbel⟩

set_option maxHeartbeats 400000 in
theorem sScale_any (s : ByteArray) (a : Int) (w : World) (hs : s.size ≤ 1048576) :
    Calls Try.prog 105 #[.string s, .int .i64 a] w fun e w' => e = .returned (.string (scaleS s a)) ∧ Below w.heap.size w w' := by
  by_cases ha : isB a = true
  · obtain ⟨A, hA, rfl⟩ := isB_nat ha
    refine (sScale_nat s A w hs hA).mono ?_
    rintro e w' ⟨rfl, hb⟩
    exact ⟨ret_str (by simp [scaleS, ha]), hb⟩
  · have ha' : isB a = false := by simpa using ha
    go_enter Try.func105, Try.ntmps105
    go_wp2_with (go_at_call 99; refine (sIs_any _ _).mono ?_; rintro e w' ⟨rfl, rfl⟩)
    go_ret
    exact ⟨ret_str (by simp [scaleS, ha]; rfl), Below.refl _ _⟩
end Go.Proofs.Ytcnigfejpfcfaaa

/- Texts summed byte by byte, in the program and in its model: what each answers at every two texts. Condition: texts of at most 2^20 bytes. -/
namespace Go.Proofs.Ytcnigfejpfcfaaa
set_option maxRecDepth 2000
open Go.ChangeShapes Go.WideShapes Go.ChangeAt Go.RowKit

def addL (s t : ByteArray) : List Int := List.zipWith (fun (c d : UInt8) => ((c.toNat ^^^ d.toNat : Nat) : Int)) s.data.toList t.data.toList
def addS (s t : ByteArray) : ByteArray := if s.size = t.size then strOfNums (addL s t) else ByteArray.empty
theorem addL_len (s t : ByteArray) (h : s.size = t.size) : (addL s t).length = s.size := by
  have h' : s.data.toList.length = t.data.toList.length := by simpa using h
  simp [addL] at *
  omega
theorem addL_at (s t : ByteArray) (k : Nat) (h : k < s.size) (h2 : k < t.size) : (addL s t).getD k 0 = ((s[k].toNat ^^^ t[k].toNat : Nat) : Int) := by
  have h' : k < s.data.toList.length := by simpa using h
  have h'' : k < t.data.toList.length := by simpa using h2
  simp only [addL, List.getD, List.getElem?_zipWith, List.getElem?_eq_getElem h', List.getElem?_eq_getElem h'', Option.getD_some]
  rfl

set_option maxHeartbeats 1000000 in
theorem sAddT_same (s t : ByteArray) (w : World) (hs : s.size ≤ 1048576) (ht : s.size = t.size) :
    Calls Try.prog 106 #[.string s, .string t] w fun e w' => e = .returned (.string (strOfNums (addL s t))) ∧ Below w.heap.size w w' := by
  obtain ⟨i0, hi, hz0, hz1, hz2⟩ := info_parts Try.infoByte
  obtain ⟨xs, HX⟩ : ∃ xs, Hid (xs = addL s t) := ⟨_, rfl⟩
  obtain ⟨n, hn⟩ : ∃ n, s.size = n := ⟨_, rfl⟩
  have hn2 : t.size = n := by omega
  have HL : Hid (xs.length = n) := by show _ = _; rw [HX.out, addL_len s t ht, hn]
  clear ht
  go_enter Try.func106, Try.ntmps106
  go_wp2
  have ho1 : (w.alloc (.cells #[] 5)).ownsRow w.heap.size 5 1 (.slice (some ⟨w.heap.size, 0, none⟩) 0 0) 0 ((xs.take 0).map (Value.int .u8)) :=
    World.ownsRow_lit w #[] 0 (Nat.le_refl _) (by unfold maxLen; omega) rfl
  go_loopw [5, 6] (fun v i wr => ∃ k g cap : Nat, k ≤ n ∧ i = .int .i64 k ∧ v = .slice (some ⟨g, 0, none⟩) k cap ∧ wr.ownsRow w.heap.size 5 1 (.slice (some ⟨g, 0, none⟩) k cap) k ((xs.take k).map (Value.int .u8)) ∧ Below w.heap.size w wr) (fun _ i _ => n - (intOf i).toNat)
  case atStart => exact ⟨0, _, _, Nat.zero_le _, rfl, rfl, ho1, (Below.refl _ _).alloc (Nat.le_refl _) _⟩
  case round =>
    obtain ⟨k, g, cap, hk, rfl, rfl, hown, hbel⟩ := hrel
    clear ho1
    by_cases hlt : k < n
    · have hks : k < s.size := by omega
      have hkt : k < t.size := by omega
      have hlti : (k : Int) < (n : Int) := by omega
      have hxr : bits .xor .u8 (s[k].toNat : Int) (t[k].toNat : Int) = ((s[k].toNat ^^^ t[k].toNat : Nat) : Int) := u8_xor_nat _ _ (u8_lt _) (u8_lt _)
      have HE : Hid (xs.take (k + 1) = xs.take k ++ [((s[k].toNat ^^^ t[k].toNat : Nat) : Int)]) := by
        show _ = _
        rw [take_snoc xs k (by rw [HL.out]; exact hlt), HX.out, addL_at s t k hks hkt]
      have hsz := hbel.size
      go_wp2_with fail
      go_region_held3 (fun _ => True) (trivial) ((refine step_append_lies _ (by rfl) _ _ _ (by rfl) w.heap.size 5 i0 _ 1 1 Try.underlying103 hi hz0 hz1 hz2 rfl (by omega) (.slice (some ⟨g, 0, none⟩) k cap) k _ (by rfl) ((hown.alloc _).drew) ⟨wr.heap.size, 0, none⟩ 1 1 [.int .u8 ((s[k].toNat ^^^ t[k].toNat : Nat) : Int)] (by rfl) (by rfl) (World.news_of_block (cs := #[.int .u8 ((s[k].toNat ^^^ t[k].toNat : Nat) : Int)]) (t := 5) (fr := (0, 0)) (heap_alloc_new wr _)) (by simp [Value.oneCell']) (by omega) (by unfold maxLen; omega) (by omega) (by simp; omega) (wr.heap.size + 1) (by simp) ?_; intro gg cap2 w1 hown1 hgrow hat hltg))
      all_goals
        have HO : Hid (w1.ownsRow w.heap.size 5 1 (.slice (some ⟨gg, 0, none⟩) (k + 1) cap2) (k + 1) ((xs.take (k + 1)).map (Value.int .u8))) := by
          rw [HE.out, List.map_append]
          first | exact hown1 | (rw [List.map_take]; exact hown1)
        have hb' : Below w.heap.size w w1 := ((hbel.alloc hsz _).drew).grown hgrow (by simp; omega) (fun j hj => (hown.lt j hj).1)
        clear hown1 hgrow hown hat hltg
        go_wp2
        go_roundw
        case rel => exact ⟨k + 1, gg, cap2, by omega, by go_num, rfl, HO.out, hb'⟩
        case measure => simp [intOf]; omega
    · have e : k = n := by omega
      subst e
      rw [List.take_of_length_le (by rw [HL.out]; omega)] at hown
      have hcv := run_convert_bytes_arg (P := Try.prog) wr 103 5 Try.underlying103 Try.underlying5 g 0 k cap xs HL.out (fun i hi => by
        rw [Nat.zero_add, hown.cellAt i (by omega)]
        simp [HL.out, hi]) 9 Try.underlying9
      go_wp2
      go_ret
      exact ⟨ret_str (by rw [HX.out]), hbel⟩

set_option maxHeartbeats 400000 in
theorem sAddT_any (s t : ByteArray) (w : World) (hs : s.size ≤ 1048576) :
    Calls Try.prog 106 #[.string s, .string t] w fun e w' => e = .returned (.string (addS s t)) ∧ Below w.heap.size w w' := by
  by_cases ha : s.size = t.size
  · refine (sAddT_same s t w hs ha).mono ?_
    rintro e w' ⟨rfl, hb⟩
    exact ⟨ret_str (by simp [addS, ha]), hb⟩
  · have ha' : ((s.size : Int) != (t.size : Int)) = true := by simp; omega
    go_enter Try.func106, Try.ntmps106
    go_wp2
    go_ret
    exact ⟨ret_str (by simp [addS, ha]; rfl), Below.refl _ _⟩
end Go.Proofs.Ytcnigfejpfcfaaa

/- The sum of products of two lists, in the program and in its model, and the laws' test of two lists. Condition: lists of at most 2^20 numbers. -/
namespace Go.Proofs.Ytcnigfejpfcfaaa
set_option maxRecDepth 2000
open Go.ChangeShapes Go.WideShapes Go.ChangeAt Go.RowKit

def dotGo (xs ys : List Int) : Nat → Nat → Nat → Int
  | 0, _, x => (x : Int)
  | m + 1, k, x => if isB (xs.getD k 0) = true ∧ isB (ys.getD k 0) = true then dotGo xs ys m (k + 1) (x ^^^ Gf.mul (xs.getD k 0).toNat (ys.getD k 0).toNat) else -1
def dotI (xs ys : List Int) : Int := if xs.length = ys.length then dotGo xs ys xs.length 0 0 else -1

theorem dotGo_yes {xs ys : List Int} {n k X : Nat} (hk : k < n) {x y : Nat} (hx : (x : Int) = xs.getD k 0) (hy : (y : Int) = ys.getD k 0) (bx : x < 256) (bY : y < 256) :
    dotGo xs ys (n - k) k X = dotGo xs ys (n - (k + 1)) (k + 1) (X ^^^ Gf.mul x y) := by
  rw [show n - k = (n - (k + 1)) + 1 by omega]
  simp only [dotGo]
  rw [← hx, ← hy, if_pos ⟨isB_ofNat bx, isB_ofNat bY⟩]
  simp
theorem dotGo_no {xs ys : List Int} {n k X : Nat} (hk : k < n) (h : isB (xs.getD k 0) = false ∨ isB (ys.getD k 0) = false) : dotGo xs ys (n - k) k X = -1 := by
  rw [show n - k = (n - (k + 1)) + 1 by omega]
  simp only [dotGo]
  rw [if_neg]
  rintro ⟨h1, h2⟩
  rcases h with h | h
  · rw [h] at h1; cases h1
  · rw [h] at h2; cases h2

set_option maxHeartbeats 1000000 in
theorem eqIntS_same (a b : Option Addr) (n ca cb : Nat) (zs : List Int) (w : World) (ha : IntsAt w a n zs) (hb : IntsAt w b n zs) (hn : n ≤ 1048576) :
    Calls Try.prog 42 #[.slice a n ca, .slice b n cb] w fun e w' => e = .returned (.bool true) ∧ Below w.heap.size w w' := by
  go_enter Try.func42, Try.ntmps42
  go_wp2
  go_loopw [5] (fun i wr => ∃ k : Nat, k ≤ n ∧ i = .int .i64 k ∧ Below w.heap.size w wr) (fun i _ => n - (intOf i).toNat)
  case atStart => exact ⟨0, Nat.zero_le _, rfl, Below.refl _ _⟩
  case round =>
    obtain ⟨k, hk, rfl, hbel⟩ := hrel
    have ha' := ha.below hbel
    have hb' := hb.below hbel
    clear ha hb
    by_cases hlt : k < n
    · obtain ⟨ba, oa, rfl, hca⟩ := ha'.2 k hlt
      obtain ⟨bb, ob, rfl, hcb⟩ := hb'.2 k hlt
      clear ha' hb'
      obtain ⟨x, HX⟩ : ∃ x, x = zs.getD k 0 := ⟨_, rfl⟩
      rw [← HX] at hca hcb
      clear HX
      go_wp2
      go_quiet (fail)
      go_wp2
      go_roundw
      case rel => exact ⟨k + 1, by omega, by go_num, below_drewN hbel _⟩
      case measure => simp [intOf]; omega
    · go_wp2
      go_ret
      exact ⟨rfl, hbel⟩

end Go.Proofs.Ytcnigfejpfcfaaa

/- The plain mathematics of texts that are scaled and summed, and of sums of products. No condition. -/
namespace Go.Proofs.Ytcnigfejpfcfaaa
set_option maxRecDepth 2000

def tat (s : ByteArray) (k : Nat) : Nat := (s.data.toList.getD k 0).toNat
theorem tat_lt (s : ByteArray) (k : Nat) : tat s k < 256 := u8_lt _
theorem tat_in (s : ByteArray) (k : Nat) (h : k < s.size) : tat s k = s[k].toNat := by
  have h' : k < s.data.toList.length := by simpa using h
  simp only [tat, List.getD, List.getElem?_eq_getElem h', Option.getD_some]
  rfl
theorem tat_out (s : ByteArray) (k : Nat) (h : ¬ k < s.size) : tat s k = 0 := by
  have h' : s.data.toList.length ≤ k := by simp at h ⊢; exact h
  simp [tat, List.getD, List.getElem?_eq_none h']
theorem str_ext {s u : ByteArray} (h : s.size = u.size) (he : ∀ k, tat s k = tat u k) : s = u := by
  apply ByteArray.ext
  apply Array.toList_inj.1
  apply List.ext_getElem?
  intro k
  by_cases hk : k < s.size
  · have h1 : k < s.data.toList.length := by simpa using hk
    have h2 : k < u.data.toList.length := by rw [h] at hk; simpa using hk
    have e := he k
    simp only [tat, List.getD, List.getElem?_eq_getElem h1, List.getElem?_eq_getElem h2, Option.getD_some] at e
    rw [List.getElem?_eq_getElem h1, List.getElem?_eq_getElem h2, UInt8.toNat_inj.1 e]
  · have h1 : s.data.toList.length ≤ k := by simp at hk ⊢; exact hk
    have h2 : u.data.toList.length ≤ k := by rw [h] at hk; simp at hk ⊢; exact hk
    rw [List.getElem?_eq_none h1, List.getElem?_eq_none h2]
theorem tat_str (xs : List Int) (k : Nat) : tat (strOfNums xs) k = (xs.getD k 0).toNat % 256 := by
  simp only [tat, strOfNums_data, List.getD, List.getElem?_map]
  cases xs[k]? with
  | none => rfl
  | some v => simp

theorem addS_size {x y : ByteArray} (h : x.size = y.size) : (addS x y).size = x.size := by
  simp only [addS]
  rw [if_pos h, strOfNums_size, addL_len x y h]
theorem addS_le (x y : ByteArray) : (addS x y).size ≤ x.size := by
  by_cases h : x.size = y.size
  · rw [addS_size h]; omega
  · simp only [addS]; rw [if_neg h]; simp
theorem tat_add {x y : ByteArray} (h : x.size = y.size) (k : Nat) : tat (addS x y) k = tat x k ^^^ tat y k := by
  by_cases hk : k < x.size
  · have hk2 : k < y.size := by omega
    simp only [addS]
    rw [if_pos h, tat_str, addL_at x y k hk hk2, Int.toNat_natCast, tat_in x k hk, tat_in y k hk2]
    exact Nat.mod_eq_of_lt (Gf.xor_lt (u8_lt _) (u8_lt _))
  · rw [tat_out x k hk, tat_out y k (by omega), tat_out _ k (by rw [addS_size h]; exact hk)]
    rfl
theorem scaleS_size {s : ByteArray} {a : Int} (h : isB a = true) : (scaleS s a).size = s.size := by
  simp only [scaleS]
  rw [if_pos h, strOfNums_size, scaleL_len]
theorem scaleS_le (s : ByteArray) (a : Int) : (scaleS s a).size ≤ s.size := by
  by_cases h : isB a = true
  · rw [scaleS_size h]; omega
  · simp only [scaleS]; rw [if_neg h]; simp
theorem tat_scale (s : ByteArray) {A : Nat} (hA : A < 256) (k : Nat) : tat (scaleS s (A : Int)) k = Gf.mul (tat s k) A := by
  have h := isB_ofNat hA
  by_cases hk : k < s.size
  · simp only [scaleS]
    rw [if_pos h, tat_str, Int.toNat_natCast, scaleL_at s A k hk, Int.toNat_natCast, tat_in s k hk]
    exact Nat.mod_eq_of_lt (Gf.mul_lt (u8_lt _) hA)
  · rw [tat_out s k hk, tat_out _ k (by rw [scaleS_size h]; exact hk), Gf.zero_mul hA]

theorem texts1 {x y : ByteArray} (h : x.size = y.size) : addS (addS x y) y = x := by
  have h1 := addS_size h
  refine str_ext (by rw [addS_size (by omega), h1]) fun k => ?_
  rw [tat_add (by omega), tat_add h, Nat.xor_assoc, Nat.xor_self, Nat.xor_zero]
theorem texts2 {x y : ByteArray} {a : Int} (h : x.size = y.size) (ha : isB a = true) : addS (scaleS x a) (scaleS y a) = scaleS (addS x y) a := by
  have hs : (scaleS x a).size = (scaleS y a).size := by rw [scaleS_size ha, scaleS_size ha, h]
  refine str_ext (by rw [addS_size hs, scaleS_size ha, scaleS_size ha, addS_size h]) fun k => ?_
  rw [tat_add hs]
  obtain ⟨A, hA, rfl⟩ := isB_nat ha
  rw [tat_scale _ hA, tat_scale _ hA, tat_scale _ hA, tat_add h, Gf.mul_comm (tat_lt x k) hA, Gf.mul_comm (tat_lt y k) hA, Gf.mul_comm (Gf.xor_lt (tat_lt x k) (tat_lt y k)) hA, Gf.mul_xor]
theorem texts3 {s : ByteArray} {a : Int} (ha : isB a = true) (h0 : a ≠ 0) : scaleS (scaleS s a) (invI a) = s := by
  obtain ⟨A, hA, rfl⟩ := isB_nat ha
  have hi : invI (A : Int) = ((Gf.inv A : Nat) : Int) := by
    simp only [invI]
    rw [if_pos (by omega), Int.toNat_natCast]
  rw [hi]
  have hb := isB_ofNat (Gf.inv_lt A)
  refine str_ext (by rw [scaleS_size hb, scaleS_size ha]) fun k => ?_
  rw [tat_scale _ (Gf.inv_lt A), tat_scale _ hA, Gf.mul_assoc (tat_lt s k) hA (Gf.inv_lt A), Gf.mul_inv hA (by omega), Gf.mul_one (tat_lt s k)]
theorem dotGo_comm (xs ys : List Int) : ∀ m k x, dotGo xs ys m k x = dotGo ys xs m k x
  | 0, _, _ => rfl
  | m + 1, k, x => by
    simp only [dotGo]
    by_cases h : isB (xs.getD k 0) = true ∧ isB (ys.getD k 0) = true
    · rw [if_pos h, if_pos ⟨h.2, h.1⟩]
      obtain ⟨A, hA, eA⟩ := isB_nat h.1
      obtain ⟨B, hB, eB⟩ := isB_nat h.2
      rw [eA, eB, Int.toNat_natCast, Int.toNat_natCast, Gf.mul_comm hA hB]
      exact dotGo_comm xs ys m _ _
    · rw [if_neg h, if_neg (fun h' => h ⟨h'.2, h'.1⟩)]
theorem dotI_comm (xs ys : List Int) : (dotI xs ys != dotI ys xs) = false := by
  have e : dotI xs ys = dotI ys xs := by
    simp only [dotI]
    by_cases h : xs.length = ys.length
    · rw [if_pos h, if_pos h.symm, dotGo_comm, h]
    · rw [if_neg h, if_neg (Ne.symm h)]
  rw [e]
  simp
end Go.Proofs.Ytcnigfejpfcfaaa

/- Rows of cells of our own; what a turn of other blocks leaves of them; sums of lengths. Definitions and lemmas; no walk. -/
namespace Go.Proofs.Ytcnigfejpfcfaaa
set_option maxRecDepth 2000
open Go.ChangeShapes Go.WideShapes Go.ChangeAt Go.RowKit

theorem below_of_drew {w w1 : World} (h : Below w.drew.heap.size w.drew w1) : Below w.heap.size w w1 := ⟨h.os, h.tape, h.output, h.size, h.block⟩
theorem own_shape {w : World} {B e s : Nat} {a : Option Addr} {n cap n' : Nat} {xs : List Value} (h : w.ownsRow B e s (.slice a n cap) n' xs) :
    (a = none ∧ n = 0 ∧ cap = 0) ∨ ∃ g cur, a = some ⟨g, 0, none⟩ ∧ B ≤ g ∧ w.heap[g]? = some (.cells cur e (0, 0)) ∧ n ≤ cap := by
  rcases h.2 with ⟨h', _⟩ | ⟨g, cap', cur, h', hb, hg, hn, _⟩
  · cases h'; exact .inl ⟨rfl, rfl, rfl⟩
  · cases h'; exact .inr ⟨g, cur, rfl, hb, hg, hn⟩
theorem own_kept {w w' : World} {B e s n : Nat} {a : Option Addr} {l c b : Nat} {xs : List Value} (h : w.ownsRow B e s (.slice a l c) n xs) (hg : w.grownBy w' (some b)) (hn : ∀ x, a = some x → x.block ≠ b) : w'.ownsRow B e s (.slice a l c) n xs := by
  refine World.ownsRow.kept h hg ?_
  cases a with
  | none => exact .inl rfl
  | some x => exact .inr (by simp [Value.ownBlock]; exact hn x rfl)
theorem grown_set (w : World) (g j : Nat) (v : Value) : w.grownBy (w.setCell ⟨g, j, none⟩ v) (some g) :=
  ⟨rfl, rfl, rfl, by simp, fun i _ hi => heap_setCell_other w ⟨g, j, none⟩ i _ (fun e => hi (by simp [e]))⟩
/-- Only blocks from 'B' on, ahead of 'E', have turned. -/
structure TurnM (w w' : World) (B E : Nat) : Prop where
  os : w'.os = w.os
  tape : w'.tape = w.tape
  output : w'.output = w.output
  size : w.heap.size ≤ w'.heap.size
  block : ∀ j, j < w.heap.size → (j < B ∨ E ≤ j) → w'.heap[j]? = w.heap[j]?
theorem TurnM.refl (w : World) (B E : Nat) : TurnM w w B E := ⟨rfl, rfl, rfl, Nat.le_refl _, fun _ _ _ => rfl⟩
theorem TurnM.trans {w w1 w2 : World} {B E : Nat} (h : TurnM w w1 B E) (h2 : TurnM w1 w2 B E) : TurnM w w2 B E :=
  ⟨h2.os.trans h.os, h2.tape.trans h.tape, h2.output.trans h.output, Nat.le_trans h.size h2.size, fun j hj hr => (h2.block j (Nat.lt_of_lt_of_le hj h.size) hr).trans (h.block j hj hr)⟩
theorem TurnM.below {w w' : World} {B E s : Nat} (h : TurnM w w' B E) (hs : s ≤ B) (hw : s ≤ w.heap.size) : Below s w w' :=
  ⟨h.os, h.tape, h.output, h.size, fun j hj => h.block j (by omega) (.inl (by omega))⟩
theorem own_turn {w w' : World} {B E B' E' e s n l c : Nat} {a : Option Addr} {xs : List Value} (h : w.ownsRow B e s (.slice a l c) n xs) (ht : TurnM w w' B' E') (hE : ∀ x, a = some x → x.block < E) (hd : E ≤ B' ∨ E' ≤ B) : w'.ownsRow B e s (.slice a l c) n xs := by
  refine ⟨h.1, ?_⟩
  rcases h.2 with h' | ⟨g, cap, cur, h1, h2, h3, h4⟩
  · exact .inl h'
  · refine .inr ⟨g, cap, cur, h1, h2, ?_, h4⟩
    cases h1
    have := hE _ rfl
    rw [ht.block g (Array.getElem?_eq_some_iff.1 h3).1 (by simp at this; omega)]
    exact h3
theorem own_turn2 {w w' : World} {B b e0 e s n l c : Nat} {a : Option Addr} {xs : List Value} (h : w.ownsRow B e s (.slice a l c) n xs) (ht : TurnM w w' b e0) (hx : ∀ x, a = some x → ¬ (b ≤ x.block ∧ x.block < e0)) : w'.ownsRow B e s (.slice a l c) n xs := by
  refine ⟨h.1, ?_⟩
  rcases h.2 with h' | ⟨g, cap, cur, h1, h2, h3, h4⟩
  · exact .inl h'
  · refine .inr ⟨g, cap, cur, h1, h2, ?_, h4⟩
    cases h1
    have := hx _ rfl
    rw [ht.block g (Array.getElem?_eq_some_iff.1 h3).1 (by simp at this; omega)]
    exact h3
/-- How many numbers the rows ahead of 'n' hold. -/
def tot (L : Nat → Nat) : Nat → Nat
  | 0 => 0
  | n + 1 => tot L n + L n
theorem tot_le (L : Nat → Nat) {i n : Nat} (h : i < n) : tot L i + L i ≤ tot L n := by
  induction n with
  | zero => omega
  | succ n ih =>
    by_cases e : i = n
    · subst e; exact Nat.le_refl _
    · have := ih (by omega)
      show _ ≤ tot L n + L n
      omega
/-- The marks of a matrix from 'k' on. -/
def mkZ (L : Nat → Nat) (k i j : Nat) : Int := ((k + tot L i + j : Nat) : Int)
theorem own_base {w : World} {B B' e s n : Nat} {v : Value} {xs : List Value} (h : w.ownsRow B e s v n xs) (hB : B' ≤ B) : w.ownsRow B' e s v n xs := by
  refine ⟨h.1, ?_⟩
  rcases h.2 with h' | ⟨g, cap, cur, h1, h2, h3⟩
  · exact .inl h'
  · exact .inr ⟨g, cap, cur, h1, by omega, h3⟩
/-- What is left of 'l' behind 'n' rows, or that it is too little. -/
def szF (L : Nat → Nat) (n l : Nat) : Int := if n + tot L n ≤ l then ((l - (n + tot L n) : Nat) : Int) else -1
end Go.Proofs.Ytcnigfejpfcfaaa

/- Lists of texts in memory; the laws' own helpers over them: a copy, equal ones, their length, marks. Conditions: at most 2^20 texts. -/
namespace Go.Proofs.Ytcnigfejpfcfaaa
set_option maxRecDepth 2000
open Go.ChangeShapes Go.WideShapes Go.ChangeAt Go.RowKit

theorem Try.infoStr : (Try.prog.info? 9).map (fun i => (i.zero, i.size, i.bytes)) = some (some (.string ByteArray.empty), 1, 16) := by kernel_rfl
/-- A list of texts that is read. -/
def TxtAt (w : World) (a : Option Addr) (n : Nat) (S : Nat → ByteArray) : Prop := ∀ i, i < n → ∃ b off, a = some ⟨b, off, none⟩ ∧ w.cell? ⟨b, off + i, none⟩ = some (.string (S i))
theorem TxtAt.below {w w' : World} {a : Option Addr} {n : Nat} {S : Nat → ByteArray} (h : TxtAt w a n S) (hb : Below w.heap.size w w') : TxtAt w' a n S := fun i hi => by
  obtain ⟨b, off, e, hc⟩ := h i hi
  exact ⟨b, off, e, (hb.cell (p := ⟨b, off + i, none⟩) (block_lt_of_cell hc)).trans hc⟩
theorem TxtAt.congr {w : World} {a : Option Addr} {n : Nat} {S S' : Nat → ByteArray} (h : TxtAt w a n S) (e : ∀ i, i < n → S i = S' i) : TxtAt w a n S' := fun i hi => by
  obtain ⟨b, off, ea, hc⟩ := h i hi
  exact ⟨b, off, ea, by rw [← e i hi]; exact hc⟩
theorem TxtAt.less {w : World} {a : Option Addr} {n m : Nat} {S : Nat → ByteArray} (h : TxtAt w a n S) (hm : m ≤ n) : TxtAt w a m S := fun i hi => h i (by omega)
theorem TxtAt.some {w : World} {a : Option Addr} {n : Nat} {S : Nat → ByteArray} (h : TxtAt w a n S) (hn : 0 < n) : ∃ b off, a = some ⟨b, off, none⟩ ∧ ∀ i, i < n → w.cell? ⟨b, off + i, none⟩ = .some (.string (S i)) := by
  obtain ⟨b, off, e, _⟩ := h 0 hn
  refine ⟨b, off, e, fun i hi => ?_⟩
  obtain ⟨b', off', e', hc⟩ := h i hi
  rw [e] at e'
  simp at e'
  obtain ⟨rfl, rfl⟩ := e'
  exact hc
/-- Texts in a row. -/
def sL (S : Nat → ByteArray) (n : Nat) : List Value := (List.range n).map fun i => Value.string (S i)
theorem sL_len (S : Nat → ByteArray) (n : Nat) : (sL S n).length = n := by simp [sL]
theorem sL_get (S : Nat → ByteArray) (n i : Nat) (h : i < n) : (sL S n)[i]? = some (Value.string (S i)) := by simp [sL, h]
theorem sL_congr {S S' : Nat → ByteArray} {n : Nat} (h : ∀ i, i < n → S i = S' i) : sL S n = sL S' n := by
  unfold sL
  apply List.map_congr_left
  intro i hi
  rw [h i (List.mem_range.1 hi)]
theorem sL_snoc (S : Nat → ByteArray) (n : Nat) : sL S (n + 1) = sL S n ++ [Value.string (S n)] := by
  unfold sL
  rw [List.range_succ, List.map_append]
  rfl
theorem sL_set (S : Nat → ByteArray) (n k : Nat) (s : ByteArray) (h : k < n) : (sL S n).set k (.string s) = sL (fun i => if i = k then s else S i) n := by
  apply List.ext_getElem?
  intro i
  rw [List.getElem?_set]
  by_cases hi : i < n
  · by_cases e : k = i
    · subst e; simp [sL, h]
    · simp [sL, hi, e, Ne.symm e]
  · by_cases e : k = i
    · omega
    · rw [if_neg e, List.getElem?_eq_none (by rw [sL_len]; omega), List.getElem?_eq_none (by rw [sL_len]; omega)]
theorem sL_empty (n : Nat) : sL (fun _ => ByteArray.empty) n = List.replicate n (Value.string ByteArray.empty) := by
  apply List.ext_getElem?
  intro i
  by_cases hi : i < n
  · rw [sL_get _ _ _ hi]; simp [hi]
  · rw [List.getElem?_eq_none (by rw [sL_len]; omega), List.getElem?_eq_none (by simp; omega)]
/-- A list of texts of ours. -/
def OwnT (w : World) (B : Nat) (a : Option Addr) (n cap : Nat) (S : Nat → ByteArray) : Prop := w.ownsRow B 9 1 (.slice a n cap) n (sL S n)
theorem OwnT.at {w : World} {B : Nat} {a : Option Addr} {n cap : Nat} {S : Nat → ByteArray} (h : OwnT w B a n cap S) : TxtAt w a n S := by
  intro i hi
  rcases own_shape h with ⟨rfl, rfl, rfl⟩ | ⟨g, cur, rfl, _⟩
  · omega
  · exact ⟨g, 0, rfl, by rw [Nat.zero_add, h.cellAt i (by omega), sL_get _ _ _ hi]⟩
theorem OwnT.below {w w' : World} {B : Nat} {a : Option Addr} {n cap : Nat} {S : Nat → ByteArray} (h : OwnT w B a n cap S) (hb : Below w.heap.size w w') : OwnT w' B a n cap S := ownsRow_below h hb
theorem OwnT.congr {w : World} {B : Nat} {a : Option Addr} {n cap : Nat} {S S' : Nat → ByteArray} (h : OwnT w B a n cap S) (e : ∀ i, i < n → S i = S' i) : OwnT w B a n cap S' := by
  unfold OwnT at *
  rw [← sL_congr e]
  exact h
theorem OwnT.base {w : World} {B B' : Nat} {a : Option Addr} {n cap : Nat} {S : Nat → ByteArray} (h : OwnT w B a n cap S) (hB : B' ≤ B) : OwnT w B' a n cap S := own_base h hB
theorem OwnT.nil (w : World) (B : Nat) (S : Nat → ByteArray) : OwnT w B none 0 0 S := World.ownsRow_nil w B _ _
theorem litT (w : World) (S : Nat → ByteArray) : OwnT (w.alloc (.cells #[] 9)) w.heap.size (some ⟨w.heap.size, 0, none⟩) 0 0 S :=
  World.ownsRow_lit w #[] 0 (Nat.le_refl _) (by unfold maxLen; omega) rfl
/-- A list of texts that was answered, in new memory. -/
def ResT (w w' : World) (v : Value) (n : Nat) (S : Nat → ByteArray) : Prop := ∃ a cap, v = .slice a n cap ∧ OwnT w' w.heap.size a n cap S
theorem ResT.none (w w' : World) (S : Nat → ByteArray) : ResT w w' (.slice none 0 0) 0 S := ⟨_, _, rfl, OwnT.nil _ _ _⟩
theorem ResT.congr {w w' : World} {v : Value} {n : Nat} {S S' : Nat → ByteArray} (h : ResT w w' v n S) (e : ∀ i, i < n → S i = S' i) : ResT w w' v n S' := by
  obtain ⟨a, cap, rfl, ho⟩ := h
  exact ⟨a, cap, rfl, ho.congr e⟩
theorem ba_beq (s : ByteArray) : (s.toList == s.toList) = true := by simp
theorem ba_ne {s u : ByteArray} (h : s ≠ u) : (s.toList == u.toList) = false := by
  rw [ByteArray.toList_eq, ByteArray.toList_eq]
  simp only [beq_eq_false_iff_ne, ne_eq]
  intro e
  exact h (ByteArray.ext (Array.toList_inj.1 e))

set_option maxHeartbeats 1000000 in
theorem eqT_same (a b : Option Addr) (n ca cb : Nat) (S : Nat → ByteArray) (w : World) (ha : TxtAt w a n S) (hb : TxtAt w b n S) (hn : n ≤ 1048576) :
    Calls Try.prog 69 #[.slice a n ca, .slice b n cb] w fun e w' => e = .returned (.bool true) ∧ Below w.heap.size w w' := by
  go_enter Try.func69, Try.ntmps69
  go_wp2
  go_loopw [5] (fun i wr => ∃ k : Nat, k ≤ n ∧ i = .int .i64 k ∧ Below w.heap.size w wr) (fun i _ => n - (intOf i).toNat)
  case atStart => exact ⟨0, Nat.zero_le _, rfl, Below.refl _ _⟩
  case round =>
    obtain ⟨k, hk, rfl, hbel⟩ := hrel
    have ha' := ha.below hbel
    have hb' := hb.below hbel
    clear ha hb
    by_cases hlt : k < n
    · obtain ⟨ba, oa, rfl, hca⟩ := ha' k hlt
      obtain ⟨bb, ob, rfl, hcb⟩ := hb' k hlt
      have hlti : (k : Int) < (n : Int) := by omega
      clear ha' hb'
      generalize S k = s at hca hcb
      have hbq := ba_beq s
      go_wp2
      go_quiet (fail)
      go_wp2
      go_roundw
      case rel => exact ⟨k + 1, by omega, by go_num, below_drewN hbel _⟩
      case measure => simp [intOf]; omega
    · go_wp2
      go_ret
      exact ⟨rfl, hbel⟩
set_option maxHeartbeats 1000000 in
theorem toT_any (a : Option Addr) (n cap : Nat) (S : Nat → ByteArray) (w : World) (h : TxtAt w a n S) (hn : n ≤ 1048576) :
    Calls Try.prog 101 #[.slice a n cap] w fun e w' => e = .returned (.slice (some ⟨w.heap.size, 0, none⟩) n n) ∧ OwnT w' w.heap.size (some ⟨w.heap.size, 0, none⟩) n n S ∧ Below w.heap.size w w' := by
  obtain ⟨i0, hi, hz0, hz1, hz2⟩ := info_parts Try.infoStr
  have KH : Hid (TxtAt w a n S) := h
  clear h
  go_enter Try.func101, Try.ntmps101
  go_wp2_with (at_make; refine wpList_make_full _ rfl _ _ 37 rfl w.heap.size 9 i0 (.string ByteArray.empty) 1 Try.underlying37 hi hz0 hz1 .i64 .i64 _ _ n rfl rfl rfl rfl (by rw [hz2]; omega) (by unfold maxLen; omega) (Nat.le_refl _) ?_; intro w1 hown hgrow)
  have hb1 : Below w.heap.size w w1 := (Below.refl _ _).grown hgrow (Nat.le_refl _) (by simp)
  have ho1 : OwnT w1 w.heap.size (some ⟨w.heap.size, 0, none⟩) n n (fun i => if i < 0 then S i else ByteArray.empty) := by
    have e : sL (fun i => if i < 0 then S i else ByteArray.empty) n = List.replicate n (Value.string ByteArray.empty) := by rw [← sL_empty]; exact sL_congr (fun i _ => by simp)
    unfold OwnT
    rw [e]
    simpa [Value.cells, toList_madeCells_one] using hown
  clear hown hgrow
  go_loopw [4] (fun i wr => ∃ k : Nat, k ≤ n ∧ i = .int .i64 k ∧ OwnT wr w.heap.size (some ⟨w.heap.size, 0, none⟩) n n (fun i => if i < k then S i else ByteArray.empty) ∧ Below w.heap.size w wr) (fun i _ => n - (intOf i).toNat)
  case atStart => exact ⟨0, Nat.zero_le _, rfl, ho1, hb1⟩
  case round =>
    obtain ⟨k, hk, rfl, hown, hbel⟩ := hrel
    clear ho1 hb1
    by_cases hlt : k < n
    · obtain ⟨b, off, rfl, hc⟩ := KH.out.below hbel k hlt
      have hlti : (k : Int) < (n : Int) := by omega
      obtain ⟨old, hold⟩ : ∃ v, wr.cell? ⟨w.heap.size, k, none⟩ = some v := by
        rw [World.ownsRow.cellAt hown k (by omega)]
        exact ⟨_, sL_get _ _ _ hlt⟩
      have hfr := World.ownsRow.frozenAt hown k
      have hst := World.ownsRow.stored hown k (.string (S k))
      rw [sL_set _ _ _ _ hlt] at hst
      have HO : Hid (OwnT (wr.setCell ⟨w.heap.size, k, none⟩ (.string (S k))) w.heap.size (some ⟨w.heap.size, 0, none⟩) n n (fun i => if i < k + 1 then S i else ByteArray.empty)) := OwnT.congr hst.1 (fun i _ => by
        by_cases e : i = k
        · simp [e]
        · by_cases e2 : i < k
          · simp [e, e2, show i < k + 1 by omega]
          · simp [e, e2, show ¬ i < k + 1 by omega])
      have hne : Below w.heap.size w (wr.setCell ⟨w.heap.size, k, none⟩ (.string (S k))) := hbel.setCell (Nat.le_refl _) _
      clear hst hown
      go_wp2
      go_roundw
      case rel => exact ⟨k + 1, by omega, by go_num, HO.out, hne⟩
      case measure => simp [intOf]; omega
    · obtain rfl : k = n := by omega
      have HO : Hid (OwnT wr w.heap.size (some ⟨w.heap.size, 0, none⟩) k k S) := hown.congr (fun i hi => if_pos hi)
      clear hown
      go_wp2
      go_ret
      exact ⟨rfl, HO.out, hbel⟩
set_option maxHeartbeats 1000000 in
theorem szT_any (a : Option Addr) (n cap : Nat) (S : Nat → ByteArray) (l : Nat) (w : World) (h : TxtAt w a n S) (hl : l ≤ 1048576) (hn : n ≤ maxLen) (hL : ∀ i, i < n → (S i).size ≤ maxLen) :
    Calls Try.prog 97 #[.slice a n cap, .int .i64 (l : Int)] w fun e w' => e = .returned (.int .i64 (szF (fun i => (S i).size) n l)) ∧ w' = w := by
  unfold maxLen at hn hL
  by_cases h1 : n ≤ l
  · obtain ⟨d, hd⟩ : ∃ d, l - n = d := ⟨_, rfl⟩
    have hw : IntKind.i64.wrap ((l : Int) - (n : Int)) = (d : Int) := by rw [IntKind.wrap_i64]; omega
    have h0 : ¬ ((d : Int) < 0) := by omega
    have KL : Hid _ := hL
    have KH : Hid (TxtAt w a n S) := h
    clear hL h
    go_enter Try.func97, Try.ntmps97
    go_wp2
    go_loop [1, 5] (fun p i => ∃ c q : Nat, c ≤ n ∧ q ≤ 1048576 ∧ Hid (tot (fun i => (S i).size) c + q = d) ∧ p = .int .i64 (q : Int) ∧ i = .int .i64 (c : Int)) (fun _ i => n - (intOf i).toNat)
    case atStart => exact ⟨0, d, Nat.zero_le _, by omega, by show 0 + d = d; omega, rfl, rfl⟩
    case round =>
      obtain ⟨c, q, hc, hq, HT, rfl, rfl⟩ := hrel
      clear hw h0
      by_cases hlt : c < n
      · obtain ⟨b, off, rfl, hcell⟩ := KH.out c hlt
        have hLc := KL.out c hlt
        have hti := tot_le (fun i => (S i).size) hlt
        have hlti : (c : Int) < (n : Int) := by omega
        have HT' := HT.out
        obtain ⟨s, hs⟩ : ∃ s, S c = s := ⟨_, rfl⟩
        have hti' : tot (fun i => (S i).size) c + s.size ≤ tot (fun i => (S i).size) n := by rw [← hs]; exact hti
        have KTS : Hid (tot (fun i => (S i).size) (c + 1) = tot (fun i => (S i).size) c + s.size) := by rw [← hs]; rfl
        rw [hs] at hcell hLc
        obtain ⟨lc, hlc⟩ : ∃ lc, s.size = lc := ⟨_, rfl⟩
        rw [hlc] at hLc hti' KTS
        clear hti hs
        by_cases h2 : lc ≤ q
        · obtain ⟨q', hq'⟩ : ∃ q', q - lc = q' := ⟨_, rfl⟩
          have hw2 : IntKind.i64.wrap ((q : Int) - (lc : Int)) = (q' : Int) := by rw [IntKind.wrap_i64]; omega
          have h3 : ¬ ((q' : Int) < 0) := by omega
          have HT2 : Hid (tot (fun i => (S i).size) (c + 1) + q' = d) := by show _ = _; rw [KTS.out]; omega
          have hq2 : q' ≤ 1048576 := by omega
          clear HT HT' hti' KTS
          go_wp2
          go_round
          case rel => exact ⟨c + 1, q', by omega, hq2, HT2, rfl, by go_num⟩
          case measure => simp [intOf] <;> omega
        · have hw2 : IntKind.i64.wrap ((q : Int) - (lc : Int)) = (q : Int) - (lc : Int) := by rw [IntKind.wrap_i64]; omega
          have h3 : (q : Int) - (lc : Int) < 0 := by omega
          have HR : Hid (szF (fun i => (S i).size) n l = -1) := by
            show _ = _
            unfold szF
            rw [if_neg (by omega)]
          clear HT HT' hti' KTS
          go_wp2
          go_ret
          exact ⟨ret_int HR.out.symm, rfl⟩
      · obtain rfl : c = n := by omega
        have HR : Hid (szF (fun i => (S i).size) c l = (q : Int)) := by
          have := HT.out
          show _ = _
          unfold szF
          rw [if_pos (by omega)]
          omega
        clear KH
        go_wp2
        go_ret
        exact ⟨ret_int HR.out.symm, rfl⟩
  · have h0 : (l : Int) - (n : Int) < 0 := by omega
    have hw : IntKind.i64.wrap ((l : Int) - (n : Int)) = (l : Int) - (n : Int) := by rw [IntKind.wrap_i64]; omega
    have HR : Hid (szF (fun i => (S i).size) n l = -1) := by show _ = _; unfold szF; rw [if_neg (by omega)]
    clear h hL
    go_enter Try.func97, Try.ntmps97
    go_wp2
    go_ret
    exact ⟨ret_int HR.out.symm, rfl⟩
end Go.Proofs.Ytcnigfejpfcfaaa

/- append onto a row of ours, as laws of the walk over any program. No condition but what each says. -/
namespace Go.Proofs.Ytcnigfejpfcfaaa
set_option maxRecDepth 2000
open Go.ChangeShapes Go.WideShapes Go.ChangeAt Go.RowKit

/-- append onto a row of ours; nothing may be appended, too. -/
theorem wpList_append_all {P : Program} (w : World) {ops : Array Oper} {rest : List Oper} {o : Oper} {a : Act} {Q : Exit → Act → World → Prop} (hgd : o.guard = none) (s x : Operand) (t : TypeId)
    (ho : o.op = .call { callee := .builtin .append, args := #[s, x], argTypes := #[t, t] })
    (base : Nat) (e : TypeId) (i : TypeInfo) (z : Value) (size bytes : Nat) (ht : P.underlying t = some (.slice e)) (hi : P.info? e = some i) (hz : i.zero = some z)
    (hsize : i.size = size) (hby : i.bytes = bytes) (hzs : z.cells.size = size) (hsz : 0 < size)
    (g0 n cap0 : Nat) (xs : List Value) (hs : a.eval s = .slice (some ⟨g0, 0, none⟩) n cap0) (hown : w.ownsRow base e size (.slice (some ⟨g0, 0, none⟩) n cap0) n xs)
    (ad : Addr) (m c : Nat) (news : List Value) (hx : a.eval x = .slice (some ad) m c) (hl : news.length = m * size) (hnews : ∀ j u, news[j]? = some u → w.cell? (ad.add j) = some u) (h1 : ∀ u ∈ news, u.oneCell' = true)
    (h63 : n + m ≤ maxLen) (hbytes : (n + m) * bytes ≤ 140737488355328) (hbase : base ≤ w.heap.size)
    (h : ∀ g cap w', w'.ownsRow base e size (.slice (some ⟨g, 0, none⟩) (n + m) cap) (n + m) (xs ++ news) → w.grownBy w' (some g0) → wpList P ops Q rest (a.put o.dst (.slice (some ⟨g, 0, none⟩) (n + m) cap)) w') :
    wpList P ops Q (o :: rest) a w := by
  refine wpList_append_own w hgd s x t ho base e i z size bytes ht hi hz hsize hby hzs hsz _ n xs hs hown ad m c news hx hl hnews h1 h63 hbytes hbase fun v' w' h2 h3 h4 => ?_
  have hne : v' ≠ .slice none 0 0 := fun e => by have := h4.1 e; cases this.1
  rcases h2.2 with ⟨e, _⟩ | ⟨g, cap, cur, e, _⟩
  · exact absurd e hne
  · subst e
    exact h g cap w' h2 h3
theorem step_append_row {P : Program} (w : World) {ops : Array Oper} {o : Oper} {a : Act} {K : Act → World → Prop} {Q : Exit → Act → World → Prop} {E : Prop} (hgd : o.guard = none) (s x : Operand) (t : TypeId)
    (ho : o.op = .call { callee := .builtin .append, args := #[s, x], argTypes := #[t, t] })
    (base : Nat) (e : TypeId) (i : TypeInfo) (z : Value) (size bytes : Nat) (ht : P.underlying t = some (.slice e)) (hi : P.info? e = some i) (hz : i.zero = some z)
    (hsize : i.size = size) (hby : i.bytes = bytes) (hzs : z.cells.size = size) (hsz : 0 < size)
    (g0 n cap0 : Nat) (xs : List Value) (hs : a.eval s = .slice (some ⟨g0, 0, none⟩) n cap0) (hown : w.ownsRow base e size (.slice (some ⟨g0, 0, none⟩) n cap0) n xs)
    (ad : Addr) (m c : Nat) (news : List Value) (hx : a.eval x = .slice (some ad) m c) (hl : news.length = m * size) (hnews : ∀ j u, news[j]? = some u → w.cell? (ad.add j) = some u) (h1 : ∀ u ∈ news, u.oneCell' = true)
    (h63 : n + m ≤ maxLen) (hbytes : (n + m) * bytes ≤ 140737488355328) (hbase : base ≤ w.heap.size)
    (h : ∀ g cap w', w'.ownsRow base e size (.slice (some ⟨g, 0, none⟩) (n + m) cap) (n + m) (xs ++ news) → w.grownBy w' (some g0) → K (a.put o.dst (.slice (some ⟨g, 0, none⟩) (n + m) cap)) w') :
    if Region.wanted o (yielded ops a.tmps) = true then Oper.wp P o a w K Q else E := by
  have hw : Region.wanted o (yielded ops a.tmps) = true := by simp [Region.wanted, hgd]
  rw [if_pos hw]
  refine wp_append_own w s x t ho base e i z size bytes ht hi hz hsize hby hzs hsz _ n xs hs hown ad m c news hx hl hnews h1 h63 hbytes hbase fun v' w' h2 h3 h4 => ?_
  have hne : v' ≠ .slice none 0 0 := fun e => by have := h4.1 e; cases this.1
  rcases h2.2 with ⟨e, _⟩ | ⟨g, cap, cur, e, _⟩
  · exact absurd e hne
  · subst e
    exact h g cap w' h2 h3

end Go.Proofs.Ytcnigfejpfcfaaa
