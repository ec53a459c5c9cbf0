/- The two functions that keep a table: powerOfTwo answers the power of two at every number, log the logarithm at every byte number; each makes one new block and turns nothing that was there. -/
import Derived.Test.YtgiegoamcfjfmaaGreatChecked
import Derived.Test.YtgiegoamcfjfmaaGreatH2
import Derived.Test.YtgiegoamcfjfmaaGreatH4
import Derived.Outline
import Derived.WalkSpells
import Derived.WalkLawsBesides
import Derived.Laws.BitsAllLaws
import Derived.Test.YtgiegoamcfjfmaaGreatH3
import Derived.Test.YtgiegoamcfjfmaaGreatRows
import Derived.Test.YtgiegoamcfjfmaaGreatH1
import Derived.Laws.Shifts
import Derived.Laws.OwnMore
import Derived.OwnWalk
import Derived.Deep.QuietTactic
import Derived.BigQuiet
import Derived.Deep.RegionHeld3
import Derived.Test.YtgiegoamcfjfmaaGreatH5
import Derived.StillTailTactics
import Derived.Laws.BytesArg
import Derived.Deep.AppendLies
import Derived.Shelf.Abstract
namespace Go.Proofs.YtgiegoamcfjfmaaGreat
set_option maxRecDepth 2000
open Go.ChangeShapes Go.WideShapes Go.ChangeAt Go.RowKit

end Go.Proofs.YtgiegoamcfjfmaaGreat
/- What each function of the field answers, in the program and in its model, at every number: sums, products, powers, inverses, quotients, powers of two and logarithms; none turns anything that was there. No condition. -/
namespace Go.Proofs.YtgiegoamcfjfmaaGreat
set_option maxRecDepth 2000
open Go.ChangeShapes Go.WideShapes Go.ChangeAt Go.RowKit

theorem ret_int {k : IntKind} {a b : Int} (h : a = b) : Ending.returned (.int k a) = .returned (.int k b) := by rw [h]
theorem below2 {a b c : World} (h1 : Below a.heap.size a b) (h2 : Below b.heap.size b c) : Below a.heap.size a c :=
  h1.trans (h2.mono h1.size)

theorem ret_bool {a b : Bool} (h : a = b) : Ending.returned (.bool a) = .returned (.bool b) := by rw [h]
theorem xor_i64 (a b : Nat) (ha : a < 4294967296) (hb : b < 4294967296) : bits .xor .i64 (a : Int) (b : Int) = ((a ^^^ b : Nat) : Int) := by
  have hx : a ^^^ b < 2 ^ 32 := Nat.xor_lt_two_pow (by omega) (by omega)
  show IntKind.i64.wrap ((BitVec.ofInt 64 (a : Int) ^^^ BitVec.ofInt 64 (b : Int)).toNat : Int) = _
  rw [BitVec.toNat_xor, ofInt_u64 a (by omega), ofInt_u64 b (by omega), IntKind.wrap_i64]
  omega

/-- A byte number. -/
def isB (a : Int) : Bool := decide (0 ≤ a ∧ a ≤ 255)
theorem isB_nat {a : Int} (h : isB a = true) : ∃ n : Nat, n < 256 ∧ a = (n : Int) := by
  simp [isB] at h
  exact ⟨a.toNat, by omega, by omega⟩
theorem isB_ofNat {n : Nat} (h : n < 256) : isB (n : Int) = true := by simp [isB]; omega
/-! ### The program's small functions -/
set_option maxHeartbeats 400000 in
theorem isByte_any (a : Int) (w : World) : Calls Tryz.prog 210 #[.int .i64 a] w fun e w' => e = .returned (.bool (isB a)) ∧ w' = w := by
  go_enter Tryz.func210, Tryz.ntmps210
  go_wp2
  · go_ret
    exact ⟨ret_bool (by simp [isB, *]), rfl⟩
  · go_ret
    exact ⟨ret_bool (by simp [isB]; omega), rfl⟩

/-! ### The program's functions, at every number -/
/-! ### The model's functions, at every number -/
def inB (x a b : Int) : Bool := decide (a ≤ x ∧ x ≤ b)
set_option maxHeartbeats 400000 in
theorem sIn_any (x a b : Int) (w : World) : Calls Tryz.prog 65 #[.int .i64 x, .int .i64 a, .int .i64 b] w fun e w' => e = .returned (.bool (inB x a b)) ∧ w' = w := by
  go_enter Tryz.func65, Tryz.ntmps65
  go_wp2
  · go_ret
    exact ⟨ret_bool (by simp [inB, *]), rfl⟩
  · go_ret
    exact ⟨ret_bool (by simp [inB]; omega), rfl⟩
set_option maxHeartbeats 400000 in
theorem sIs_any (a : Int) (w : World) : Calls Tryz.prog 200 #[.int .i64 a] w fun e w' => e = .returned (.bool (isB a)) ∧ w' = w := by
  go_enter Tryz.func200, Tryz.ntmps200
  go_wp2_with fail
  refine (sIn_any _ _ _ _).mono ?_
  rintro e w1 ⟨rfl, rfl⟩
  go_wp2
  go_ret
  exact ⟨ret_bool rfl, rfl⟩

end Go.Proofs.YtgiegoamcfjfmaaGreat
/- What the model's functions with loops answer at every number: products, powers, inverses, quotients, powers of two and logarithms; none turns anything that was there. No condition. -/
namespace Go.Proofs.YtgiegoamcfjfmaaGreat
set_option maxRecDepth 2000
open Go.ChangeShapes Go.WideShapes Go.ChangeAt Go.RowKit

end Go.Proofs.YtgiegoamcfjfmaaGreat
/- A long turned by any whole number: what the library's function, the program's and its model answer. No condition. -/
namespace Go.Proofs.YtgiegoamcfjfmaaGreat
set_option maxRecDepth 2000
open Go.ChangeShapes Go.WideShapes Go.ChangeAt Go.RowKit
open Gs (U rolI)

set_option maxHeartbeats 400000 in
theorem rotate_any (x : BitVec 64) (n : Int) (w : World) : Calls Tryz.prog 263 #[.int .u64 (U x), .int .i64 n] w fun e w' => e = .returned (.int .u64 (U (rolI x n))) ∧ w' = w := by
  obtain ⟨s, HS⟩ : ∃ s : Nat, Hid (s = (n % 64).toNat) := ⟨_, rfl⟩
  have hs64 : s < 64 := by have := HS.out; omega
  have ha : bits .and .u64 (IntKind.u64.wrap n) 63 = (s : Int) := by
    obtain ⟨m, hm⟩ : ∃ m : Nat, IntKind.u64.wrap n = (m : Int) := ⟨(IntKind.u64.wrap n).toNat, by rw [IntKind.wrap_u64]; omega⟩
    have hm2 := hm
    rw [IntKind.wrap_u64] at hm2
    rw [hm]
    have := bits_and_u64_nat m 63 (by omega) (by omega)
    rw [show ((63 : Nat) : Int) = 63 from rfl] at this
    rw [this, show (63 : Nat) = 2 ^ 6 - 1 from rfl, Nat.and_two_pow_sub_one_eq_mod]
    have := HS.out
    omega
  go_enter Tryz.func263, Tryz.ntmps263
  go_wp2
  go_ret
  refine ⟨ret_int ?_, rfl⟩
  rw [ Gs.U_shl, Gs.U_shr, Gs.U_or, Gs.rol_shifts _ _ hs64, HS.out]
  rfl

set_option maxHeartbeats 400000 in
theorem roll_any (x : BitVec 64) (n : Int) (w : World) : Calls Tryz.prog 262 #[.int .u64 (U x), .int .i64 n] w fun e w' => e = .returned (.int .u64 (U (rolI x n))) ∧ w' = w := by
  go_enter Tryz.func262, Tryz.ntmps262
  go_wp2_with fail
  refine (rotate_any x n _).mono ?_
  rintro e w' ⟨rfl, hw⟩
  obtain rfl := hw.symm
  go_wp2
  go_ret
  exact ⟨rfl, rfl⟩

theorem tmod64 (n : Int) : n.tmod 64 = n % 64 ∨ n.tmod 64 = n % 64 - 64 ∧ n % 64 ≠ 0 ∧ n < 0 := by
  rw [Int.tmod_eq_emod]
  split
  · omega
  · simp only [show (64 : Int).natAbs = 64 from rfl]
    omega
theorem shl1 (x : BitVec 64) : IntKind.u64.wrap (U x * 2) = U (x <<< 1) := Gs.U_shl x 1
theorem shr63 (x : BitVec 64) : U x / (9223372036854775808 : Int) = U (x >>> 63) := Gs.U_shr x 63

set_option maxHeartbeats 800000 in
theorem sRoll_any (x : BitVec 64) (n : Int) (w : World) : Calls Tryz.prog 250 #[.int .u64 (U x), .int .i64 n] w fun e w' => e = .returned (.int .u64 (U (rolI x n))) ∧ w' = w := by
  obtain ⟨r, HR⟩ : ∃ r : Nat, Hid (r = (n % 64).toNat) := ⟨_, rfl⟩
  have hr64 : r < 64 := by have := HR.out; omega
  by_cases hn : n.tmod 64 < 0
  · have hr : n.tmod 64 + 64 = (r : Int) := by have := HR.out; have := tmod64 n; omega
    go_enter Tryz.func250, Tryz.ntmps250
    go_wp2
    go_loop [0, 6] (fun v i => ∃ k : Nat, k ≤ r ∧ i = .int .i64 k ∧ v = .int .u64 (U (Gs.rol x k))) (fun _ i => r - (intOf i).toNat)
    case atStart => exact ⟨0, Nat.zero_le _, rfl, by rw [Gs.rol_zero]⟩
    case round =>
      obtain ⟨k, hk, rfl, rfl⟩ := hrel
      by_cases hlt : k < r
      · have hlti : (k : Int) < (r : Int) := by omega
        go_wp2
        exact ⟨⟨k + 1, by omega, by go_num, by rw [shl1, shr63, Gs.U_or, Gs.rol_one]⟩, by simp [intOf]; omega⟩
      · have e : k = r := by omega
        subst e
        go_wp2
        go_ret
        have e2 : rolI x n = Gs.rol x k := by unfold rolI; rw [← HR.out]
        exact ⟨by rw [e2]; rfl, rfl⟩
  · have hr : n.tmod 64 = (r : Int) := by have := HR.out; have := tmod64 n; omega
    go_enter Tryz.func250, Tryz.ntmps250
    go_wp2
    go_loop [0, 6] (fun v i => ∃ k : Nat, k ≤ r ∧ i = .int .i64 k ∧ v = .int .u64 (U (Gs.rol x k))) (fun _ i => r - (intOf i).toNat)
    case atStart => exact ⟨0, Nat.zero_le _, rfl, by rw [Gs.rol_zero]⟩
    case round =>
      obtain ⟨k, hk, rfl, rfl⟩ := hrel
      by_cases hlt : k < r
      · have hlti : (k : Int) < (r : Int) := by omega
        go_wp2
        exact ⟨⟨k + 1, by omega, by go_num, by rw [shl1, shr63, Gs.U_or, Gs.rol_one]⟩, by simp [intOf]; omega⟩
      · have e : k = r := by omega
        subst e
        go_wp2
        go_ret
        have e2 : rolI x n = Gs.rol x k := by unfold rolI; rw [← HR.out]
        exact ⟨by rw [e2]; rfl, rfl⟩
end Go.Proofs.YtgiegoamcfjfmaaGreat
/- The laws' own helpers over lists of numbers: a copy holds the same numbers in new memory; two lists are told equal just where they are. Condition: no list is longer than 2^20. -/
namespace Go.Proofs.YtgiegoamcfjfmaaGreat
set_option maxRecDepth 2000
open Go.ChangeShapes Go.WideShapes Go.ChangeAt Go.RowKit

/-- The first 'n' cells behind the address hold the numbers 'zs'. -/
def IntsAt (w : World) (a : Option Addr) (n : Nat) (zs : List Int) : Prop :=
  zs.length = n ∧ ∀ i, i < n → ∃ b off, a = some ⟨b, off, none⟩ ∧ w.cell? ⟨b, off + i, none⟩ = some (.int .i64 (zs.getD i 0))
theorem IntsAt.below {w w' : World} {a : Option Addr} {n : Nat} {zs : List Int} (h : IntsAt w a n zs) (hb : Below w.heap.size w w') : IntsAt w' a n zs := by
  refine ⟨h.1, fun i hi => ?_⟩
  obtain ⟨b, off, e, hc⟩ := h.2 i hi
  exact ⟨b, off, e, (hb.cell (p := ⟨b, off + i, none⟩) (block_lt_of_cell hc)).trans hc⟩
theorem IntsAt.mono {B : Nat} {w w' : World} {a : Option Addr} {n : Nat} {zs : List Int} (h : IntsAt w a n zs) (hb : Below B w w') (hB : ∀ x, a = some x → x.block < B) : IntsAt w' a n zs := by
  refine ⟨h.1, fun i hi => ?_⟩
  obtain ⟨b, off, e, hc⟩ := h.2 i hi
  exact ⟨b, off, e, (hb.cell (p := ⟨b, off + i, none⟩) (show b < B from hB _ e)).trans hc⟩
theorem IntsAt.some {w : World} {a : Option Addr} {n : Nat} {zs : List Int} (h : IntsAt w a n zs) (hn : 0 < n) : ∃ b off, a = some ⟨b, off, none⟩ ∧ ∀ i, i < n → w.cell? ⟨b, off + i, none⟩ = .some (.int .i64 (zs.getD i 0)) := by
  obtain ⟨b, off, e, _⟩ := h.2 0 hn
  refine ⟨b, off, e, fun i hi => ?_⟩
  obtain ⟨b', off', e', hc⟩ := h.2 i hi
  rw [e] at e'
  simp at e'
  obtain ⟨rfl, rfl⟩ := e'
  exact hc
theorem IsRow.ints {w : World} {a : Option Addr} {len cap : Nat} {zs : List Int} (h : IsRow .i64 w a len cap zs) : len ≤ cap ∧ IntsAt w a len (zs.take len) ∧ ∀ n ∈ zs.take len, (Lit.int .i64 n).wf = true := by
  rcases h with ⟨rfl, rfl, rfl, rfl⟩ | ⟨x, rfl, hl, hm, hz, hcell, hwz⟩
  · exact ⟨Nat.le_refl _, ⟨rfl, fun i hi => absurd hi (by omega)⟩, by simp⟩
  · refine ⟨hl, ⟨by rw [List.length_take]; omega, fun i hi => ?_⟩, fun n hn => hwz n (List.mem_of_mem_take hn)⟩
    obtain ⟨b, off, spot⟩ := x
    have hc := hcell i (by omega)
    have hspot : spot = none := by simpa [Addr.add] using World.cell?_spot (hcell 0 (by omega))
    subst hspot
    refine ⟨b, off, rfl, ?_⟩
    have e : (zs.take len).getD i 0 = zs.getD i 0 := by simp [hi]
    rw [e]
    have ea : (⟨b, off, none⟩ : Addr).add i = ⟨b, off + i, none⟩ := by unfold Addr.add; split <;> simp_all
    rw [← ea]
    exact hc
theorem ownsRow.ints {w : World} {B E g n cap : Nat} {zs : List Int} (h : w.ownsRow B E 1 (.slice (some ⟨g, 0, none⟩) n cap) n (zs.map (Value.int .i64))) : IntsAt w (some ⟨g, 0, none⟩) n zs := by
  have hl : zs.length = n := by simpa using h.1
  refine ⟨hl, fun i hi => ⟨g, 0, rfl, ?_⟩⟩
  rw [Nat.zero_add, h.cellAt i (by omega)]
  simp [hl, hi]

theorem ownsRow_below {w w' : World} {B e size n : Nat} {v : Value} {xs : List Value} (h : w.ownsRow B e size v n xs) (hb : Below w.heap.size w w') : w'.ownsRow B e size v n xs := by
  refine ⟨h.1, ?_⟩
  rcases h.2 with h' | ⟨g, cap, cur, h1, h2, h3, h4⟩
  · exact .inl h'
  · refine .inr ⟨g, cap, cur, h1, h2, ?_, h4⟩
    rw [hb.block g (Array.getElem?_eq_some_iff.1 h3).1]
    exact h3
theorem take_snoc (xs : List Int) (k : Nat) (h : k < xs.length) : xs.take (k + 1) = xs.take k ++ [xs.getD k 0] := by
  rw [List.take_succ_eq_append_getElem h]
  simp [h]
theorem Tryz.infoByte : (Tryz.prog.info? 5).map (fun i => (i.zero, i.size, i.bytes)) = some (some (.int .u8 0), 1, 1) := by kernel_rfl
theorem Tryz.infoInt : (Tryz.prog.info? 3).map (fun i => (i.zero, i.size, i.bytes)) = some (some (.int .i64 0), 1, 8) := by kernel_rfl

theorem copied_set (d : IntKind) (zs : List Int) (n k : Nat) (hn : zs.length = n) (hk : k < n) :
    ((zs.take k ++ List.replicate (n - k) 0).map (Value.int d)).set k (.int d (zs.getD k 0)) = (zs.take (k + 1) ++ List.replicate (n - (k + 1)) 0).map (Value.int d) := by
  apply List.ext_getElem?
  intro j
  simp only [List.getElem?_set, List.getElem?_map, List.getElem?_append, List.length_take, List.length_map, List.length_append, List.length_replicate, List.getElem?_take, List.getElem?_replicate]
  by_cases h1 : k = j
  · subst h1
    simp [hn, hk, show min k n = k by omega, show min (k + 1) n = k + 1 by omega, show k < k + (n - k) by omega]
  · by_cases h2 : j < k
    · simp [h1, h2, hn, show j < min k n by omega, show j < min (k + 1) n by omega, show j < k + 1 by omega]
    · by_cases h3 : j < n
      · simp [h1, hn, show ¬ j < min k n by omega, show ¬ j < min (k + 1) n by omega, show j - min k n < n - k by omega, show j - min (k + 1) n < n - (k + 1) by omega]
      · simp [h1, hn, show ¬ j < min k n by omega, show ¬ j < min (k + 1) n by omega, show ¬ j - min k n < n - k by omega, show ¬ j - min (k + 1) n < n - (k + 1) by omega]

set_option maxHeartbeats 1000000 in
theorem toIntS_any (a : Option Addr) (n cap : Nat) (zs : List Int) (w : World) (h : IntsAt w a n zs) (hn : n ≤ 1048576) :
    Calls Tryz.prog 109 #[.slice a n cap] w fun e w' => e = .returned (.slice (some ⟨w.heap.size, 0, none⟩) n n) ∧ w'.ownsRow w.heap.size 3 1 (.slice (some ⟨w.heap.size, 0, none⟩) n n) n (zs.map (Value.int .i64)) ∧ Below w.heap.size w w' := by
  obtain ⟨i0, hi, hz0, hz1, hz2⟩ := info_parts Tryz.infoInt
  obtain ⟨hlen, hcells⟩ := h
  have HL : Hid (zs.length = n) := hlen
  clear hlen
  go_enter Tryz.func109, Tryz.ntmps109
  go_wp2_with (at_make; refine wpList_make_full _ rfl _ _ 60 rfl w.heap.size 3 i0 (.int .i64 0) 1 Tryz.underlying60 hi hz0 hz1 .i64 .i64 _ _ n rfl rfl rfl rfl (by rw [hz2]; omega) (by unfold maxLen; omega) (Nat.le_refl _) ?_; intro w1 hown hgrow)
  have hb1 : Below w.heap.size w w1 := (Below.refl _ _).grown hgrow (Nat.le_refl _) (by simp)
  have ho1 : w1.ownsRow w.heap.size 3 1 (.slice (some ⟨w.heap.size, 0, none⟩) n n) n ((zs.take 0 ++ List.replicate (n - 0) 0).map (Value.int .i64)) := by
    simpa [Value.cells, toList_madeCells_one] using hown
  clear hown hgrow
  go_loopw [4] (fun i wr => ∃ k : Nat, k ≤ n ∧ i = .int .i64 k ∧ wr.ownsRow w.heap.size 3 1 (.slice (some ⟨w.heap.size, 0, none⟩) n n) n ((zs.take k ++ List.replicate (n - k) 0).map (Value.int .i64)) ∧ Below w.heap.size w wr) (fun i _ => n - (intOf i).toNat)
  case atStart => exact ⟨0, Nat.zero_le _, rfl, ho1, hb1⟩
  case round =>
    obtain ⟨k, hk, rfl, hown, hbel⟩ := hrel
    clear ho1 hb1
    by_cases hlt : k < n
    · obtain ⟨b, off, rfl, hc⟩ := hcells k hlt
      have hcx : wr.cell? ⟨b, off + k, none⟩ = some (.int .i64 (zs.getD k 0)) := (hbel.cell (p := ⟨b, off + k, none⟩) (block_lt_of_cell hc)).trans hc
      obtain ⟨old, hold⟩ : ∃ v, wr.cell? ⟨w.heap.size, k, none⟩ = some v := by
        rw [hown.cellAt k (by omega)]
        exact ⟨_, List.getElem?_eq_getElem (by rw [hown.1]; omega)⟩
      have hfr := hown.frozenAt k
      have hst := hown.stored k (.int .i64 (zs.getD k 0))
      rw [copied_set .i64 zs n k HL.out hlt] at hst
      have hne : Below w.heap.size w (wr.setCell ⟨w.heap.size, k, none⟩ (.int .i64 (zs.getD k 0))) := hbel.setCell (Nat.le_refl _) _
      have HO : Hid _ := hst.1
      clear hst hown hcells hc
      go_wp2
      go_roundw
      case rel => exact ⟨k + 1, by omega, by go_num, HO.out, hne⟩
      case measure => simp [intOf]; omega
    · have e : k = n := by omega
      subst e
      go_wp2
      go_ret
      refine ⟨rfl, ?_, hbel⟩
      have e2 : zs.take k ++ List.replicate (k - k) 0 = zs := by rw [List.take_of_length_le (by rw [HL.out]; omega)]; simp
      rw [e2] at hown
      exact hown
end Go.Proofs.YtgiegoamcfjfmaaGreat
/- The sum of products of two lists, in the program and in its model, and the laws' test of two lists. Condition: lists of at most 2^20 numbers. -/
namespace Go.Proofs.YtgiegoamcfjfmaaGreat
set_option maxRecDepth 2000
open Go.ChangeShapes Go.WideShapes Go.ChangeAt Go.RowKit

set_option maxHeartbeats 1000000 in
theorem eqIntS_same (a b : Option Addr) (n ca cb : Nat) (zs : List Int) (w : World) (ha : IntsAt w a n zs) (hb : IntsAt w b n zs) (hn : n ≤ 1048576) :
    Calls Tryz.prog 116 #[.slice a n ca, .slice b n cb] w fun e w' => e = .returned (.bool true) ∧ Below w.heap.size w w' := by
  go_enter Tryz.func116, Tryz.ntmps116
  go_wp2
  go_loopw [5] (fun i wr => ∃ k : Nat, k ≤ n ∧ i = .int .i64 k ∧ Below w.heap.size w wr) (fun i _ => n - (intOf i).toNat)
  case atStart => exact ⟨0, Nat.zero_le _, rfl, Below.refl _ _⟩
  case round =>
    obtain ⟨k, hk, rfl, hbel⟩ := hrel
    have ha' := ha.below hbel
    have hb' := hb.below hbel
    clear ha hb
    by_cases hlt : k < n
    · obtain ⟨ba, oa, rfl, hca⟩ := ha'.2 k hlt
      obtain ⟨bb, ob, rfl, hcb⟩ := hb'.2 k hlt
      clear ha' hb'
      obtain ⟨x, HX⟩ : ∃ x, x = zs.getD k 0 := ⟨_, rfl⟩
      rw [← HX] at hca hcb
      clear HX
      go_wp2
      go_quiet (fail)
      go_wp2
      go_roundw
      case rel => exact ⟨k + 1, by omega, by go_num, below_drewN hbel _⟩
      case measure => simp [intOf]; omega
    · go_wp2
      go_ret
      exact ⟨rfl, hbel⟩

end Go.Proofs.YtgiegoamcfjfmaaGreat
/- The drawing of inputs: a cursor over bytes gives numbers within their bounds, writes into itself alone, and leaves all else as it was. Condition: at most 2^20 bytes. -/
namespace Go.Proofs.YtgiegoamcfjfmaaGreat
set_option maxRecDepth 2000
open Go.ChangeShapes Go.WideShapes Go.ChangeAt Go.RowKit

theorem grownBy_trans {a b c : World} {row : Option Nat} (h : a.grownBy b row) (k : b.grownBy c row) : a.grownBy c row :=
  ⟨k.os.trans h.os, k.tape.trans h.tape, k.output.trans h.output, Nat.le_trans h.size k.size, fun j hj hn => (k.block j (Nat.lt_of_lt_of_le hj h.size) hn).trans (h.block j hj hn)⟩
/-- The 'n' cells behind the address hold bytes, in another block than 'g'. -/
def BytesAt (w : World) (a : Option Addr) (n g : Nat) : Prop :=
  ∀ j, j < n → ∃ b off x, a = some ⟨b, off, none⟩ ∧ b ≠ g ∧ w.cell? ⟨b, off + j, none⟩ = some (.int .u8 x) ∧ 0 ≤ x ∧ x ≤ 255
theorem BytesAt.grown {w w' : World} {a : Option Addr} {n g : Nat} (h : BytesAt w a n g) (hg : w.grownBy w' (some g)) : BytesAt w' a n g := by
  intro j hj
  obtain ⟨b, off, x, e, hb, hc, hx⟩ := h j hj
  exact ⟨b, off, x, e, hb, hg.cell hc (by simpa using hb), hx⟩
/-- The cursor that lies in block 'g'. -/
def Cur (w : World) (g : Nat) (a : Option Addr) (n cap : Nat) : Prop :=
  n ≤ 1048576 ∧ (∃ (i : Nat) (h : Int), i ≤ n ∧ w.heap[g]? = some (.cells #[.slice a n cap, .int .i64 i, .int .i64 h] 184 (0, 0))) ∧ BytesAt w a n g
theorem Cur.kept {w w' : World} {g n cap : Nat} {a : Option Addr} {row : Option Nat} (h : Cur w g a n cap) (hg : w.grownBy w' row) (hr : row ≠ some g) (hb : ∀ b off, a = some ⟨b, off, none⟩ → row ≠ some b) : Cur w' g a n cap := by
  obtain ⟨hn, ⟨i, hh, hi, hblk⟩, hby⟩ := h
  refine ⟨hn, ⟨i, hh, hi, ?_⟩, ?_⟩
  · rw [hg.block g (Array.getElem?_eq_some_iff.1 hblk).1 (Ne.symm hr)]; exact hblk
  · intro j hj
    obtain ⟨b, off, x, e, hbg, hc, hx⟩ := hby j hj
    exact ⟨b, off, x, e, hbg, hg.cell hc (Ne.symm (hb b off e)), hx⟩

theorem Cur.lt {w : World} {g n cap : Nat} {a : Option Addr} (h : Cur w g a n cap) : g < w.heap.size := by
  obtain ⟨_, ⟨i, hh, _, hblk⟩, _⟩ := h
  exact (Array.getElem?_eq_some_iff.1 hblk).1
theorem Cur.alloc {w : World} {g n cap : Nat} {a : Option Addr} (h : Cur w g a n cap) (o : Obj) : Cur (w.alloc o) g a n cap :=
  h.kept (World.grownBy_alloc w o none) (by simp) (by simp)

end Go.Proofs.YtgiegoamcfjfmaaGreat
/- A round of mixing, in the program and in its model: what each answers at every four longs. No condition. -/
namespace Go.Proofs.YtgiegoamcfjfmaaGreat
set_option maxRecDepth 2000
open Go.ChangeShapes Go.WideShapes Go.ChangeAt Go.RowKit
open Gs (U rolI V4 mx)

/-- Four longs as the value that they are. -/
abbrev A4 (v : V4) : Value := .agg #[.int .u64 (U v.a), .int .u64 (U v.b), .int .u64 (U v.c), .int .u64 (U v.d)]

theorem belowDrewN {B : Nat} {a w : World} (h : Below B a w) (n : Nat) : Below B a (w.drewN n) := ⟨h.os, h.tape, h.output, h.size, h.block⟩

set_option maxHeartbeats 2000000 in
theorem mix_any (v : V4) (w : World) : Calls Tryz.prog 261 #[A4 v] w fun e w' => e = .returned (A4 (mx v)) ∧ Below w.heap.size w w' := by
  obtain ⟨a, b, c, d⟩ := v
  have hadd := Gs.U_add
  have hxor := Gs.U_xor
  go_enter Tryz.func261, Tryz.ntmps261
  go_wp2_with fail
  go_quiet (fail)
  go_wp2_with (go_at_call 262; refine (roll_any _ _ _).mono ?_; rintro e w' ⟨rfl, hw⟩; obtain rfl := hw.symm)
  refine bodyPost_ret (v := A4 (mx ⟨a, b, c, d⟩)) (by simp [results, Tryz.results261, go_sem, mx]) rfl ⟨rfl, ?_⟩
  refine Below.setCell (Below.setCell (Below.setCell (Below.setCell ?_ (by simp) _) (by simp) _) (by simp) _) (by simp) _
  exact belowDrewN (((Below.refl _ _).alloc (Nat.le_refl _) _).alloc (by simp) _) nq

theorem Tryz.info4 : (Tryz.prog.info? 267).map (·.size) = some 4 := by kernel_rfl
theorem Tryz.mixed : Tryz.prog.follows .mixedOrders = true := by kernel_rfl

/-- Four longs as the cells that they are. -/
abbrev C4 (v : V4) : Array Value := #[.int .u64 (U v.a), .int .u64 (U v.b), .int .u64 (U v.c), .int .u64 (U v.d)]
/-- Of the call's own: the four longs at 'g'. -/
structure Own4 (w0 w : World) (g : Nat) (v : V4) : Prop where
  row : Row w g 267 (C4 v)
  res : ∃ z, Row w (g + 1) 267 (C4 z)
  bel : Below g w0 w
theorem Own4.set0 {w0 w : World} {g : Nat} {a b c d : BitVec 64} (h : Own4 w0 w g ⟨a, b, c, d⟩) (x : BitVec 64) : Own4 w0 (w.setCell ⟨g, 0, none⟩ (.int .u64 (U x))) g ⟨x, b, c, d⟩ :=
  ⟨h.row.set 0 _, by obtain ⟨z, hz⟩ := h.res; exact ⟨z, hz.other _ _ (by omega)⟩, h.bel.setCell (Nat.le_refl _) _⟩
theorem Own4.set1 {w0 w : World} {g : Nat} {a b c d : BitVec 64} (h : Own4 w0 w g ⟨a, b, c, d⟩) (x : BitVec 64) : Own4 w0 (w.setCell ⟨g, 1, none⟩ (.int .u64 (U x))) g ⟨a, x, c, d⟩ :=
  ⟨h.row.set 1 _, by obtain ⟨z, hz⟩ := h.res; exact ⟨z, hz.other _ _ (by omega)⟩, h.bel.setCell (Nat.le_refl _) _⟩
theorem Own4.set2 {w0 w : World} {g : Nat} {a b c d : BitVec 64} (h : Own4 w0 w g ⟨a, b, c, d⟩) (x : BitVec 64) : Own4 w0 (w.setCell ⟨g, 2, none⟩ (.int .u64 (U x))) g ⟨a, b, x, d⟩ :=
  ⟨h.row.set 2 _, by obtain ⟨z, hz⟩ := h.res; exact ⟨z, hz.other _ _ (by omega)⟩, h.bel.setCell (Nat.le_refl _) _⟩
theorem Own4.set3 {w0 w : World} {g : Nat} {a b c d : BitVec 64} (h : Own4 w0 w g ⟨a, b, c, d⟩) (x : BitVec 64) : Own4 w0 (w.setCell ⟨g, 3, none⟩ (.int .u64 (U x))) g ⟨a, b, c, x⟩ :=
  ⟨h.row.set 3 _, by obtain ⟨z, hz⟩ := h.res; exact ⟨z, hz.other _ _ (by omega)⟩, h.bel.setCell (Nat.le_refl _) _⟩
theorem Own4.drew {w0 w : World} {g : Nat} {v : V4} (h : Own4 w0 w g v) : Own4 w0 w.drew g v := ⟨h.row, h.res, h.bel.drew⟩
theorem Own4.cells {w0 w : World} {g : Nat} {a b c d : BitVec 64} (h : Own4 w0 w g ⟨a, b, c, d⟩) :
    w.cell? ⟨g, 0, none⟩ = some (.int .u64 (U a)) ∧ w.cell? ⟨g, 1, none⟩ = some (.int .u64 (U b)) ∧ w.cell? ⟨g, 2, none⟩ = some (.int .u64 (U c)) ∧ w.cell? ⟨g, 3, none⟩ = some (.int .u64 (U d)) ∧ w.frozen? ⟨g, 0, none⟩ = false ∧ w.frozen? ⟨g, 1, none⟩ = false ∧ w.frozen? ⟨g, 2, none⟩ = false ∧ w.frozen? ⟨g, 3, none⟩ = false :=
  ⟨h.row.cell 0, h.row.cell 1, h.row.cell 2, h.row.cell 3, h.row.free 0, h.row.free 1, h.row.free 2, h.row.free 3⟩

set_option maxHeartbeats 1000000 in
theorem sMix_any (v : V4) (w : World) : Calls Tryz.prog 243 #[A4 v] w fun e w' => e = .returned (A4 (mx v)) ∧ Below w.heap.size w w' := by
  obtain ⟨a, b, c, d⟩ := v
  have hadd := Gs.U_add
  have hxor := Gs.U_xor
  obtain ⟨w1, HW1⟩ : ∃ w1, Hid (w1 = (w.alloc (.cells (C4 ⟨a + b, b, c, d⟩) 267)).alloc (.cells #[.int .u64 0, .int .u64 0, .int .u64 0, .int .u64 0] 267)) := ⟨_, rfl⟩
  have K1 : Hid (Own4 w w1 w.heap.size ⟨a + b, b, c, d⟩) := by
    rw [HW1.out]
    refine ⟨(Row.new w _ _).alloc _, ⟨⟨0, 0, 0, 0⟩, ?_⟩, ((Below.refl _ _).alloc (Nat.le_refl _) _).alloc (by simp) _⟩
    have := Row.new (w.alloc (.cells (C4 ⟨a + b, b, c, d⟩) 267)) #[.int .u64 0, .int .u64 0, .int .u64 0, .int .u64 0] 267
    rw [show (w.alloc (.cells (C4 ⟨a + b, b, c, d⟩) 267)).heap.size = w.heap.size + 1 by simp] at this
    exact this
  go_enter Tryz.func243, Tryz.ntmps243
  go_wp2_with fail
  rw [← HW1.out]
  obtain ⟨w2, HW2⟩ : ∃ w2, Hid (w2 = (((w1.drew.setCell ⟨w.heap.size, 1, none⟩ (.int .u64 (U ((rolI b 13 ^^^ (a + b)))))).setCell ⟨w.heap.size, 0, none⟩ (.int .u64 (U (rolI (a + b) 32)))).setCell ⟨w.heap.size, 2, none⟩ (.int .u64 (U (c + d))))) := ⟨_, rfl⟩
  have K2 : Hid (Own4 w w2 w.heap.size ⟨rolI (a + b) 32, (rolI b 13 ^^^ (a + b)), c + d, d⟩) := by rw [HW2.out]; exact (((K1.out.drew.set1 ((rolI b 13 ^^^ (a + b)))).set0 (rolI (a + b) 32)).set2 (c + d))
  obtain ⟨x1, HX1⟩ : ∃ x, Hid (x = w1.drew) := ⟨_, rfl⟩
  have J1 : Hid (Own4 w x1 w.heap.size ⟨a + b, b, c, d⟩) := by rw [HX1.out]; exact K1.out.drew
  obtain ⟨c0, c1, c2, c3, f0, f1, f2, f3⟩ := K1.out.cells
  go_still_tail 7, Tryz.mixed
  still_call (sRoll_any b 13 _)
  repeat still_step
  refine wpStill_nil ?_
  rw [fold_drew, ← HX1.out]
  clear c0 c1 c2 c3 f0 f1 f2 f3
  obtain ⟨w2, HW2⟩ : ∃ w2, Hid (w2 = (((x1.setCell ⟨w.heap.size, 1, none⟩ (.int .u64 (U ((rolI b 13 ^^^ (a + b)))))).setCell ⟨w.heap.size, 0, none⟩ (.int .u64 (U (rolI (a + b) 32)))).setCell ⟨w.heap.size, 2, none⟩ (.int .u64 (U (c + d))))) := ⟨_, rfl⟩
  have K2 : Hid (Own4 w w2 w.heap.size ⟨rolI (a + b) 32, (rolI b 13 ^^^ (a + b)), c + d, d⟩) := by rw [HW2.out]; exact (((J1.out.set1 ((rolI b 13 ^^^ (a + b)))).set0 (rolI (a + b) 32)).set2 (c + d))
  obtain ⟨c0, c1, c2, c3, f0, f1, f2, f3⟩ := J1.out.cells
  go_wp2_with (go_at_call 250; refine (sRoll_any _ _ _).mono ?_; rintro e w' ⟨rfl, hw⟩; obtain rfl := hw.symm)
  clear c0 c1 c2 c3 f0 f1 f2 f3
  rw [← HW2.out]
  obtain ⟨x2, HX2⟩ : ∃ x, Hid (x = w2.drew) := ⟨_, rfl⟩
  have J2 : Hid (Own4 w x2 w.heap.size ⟨rolI (a + b) 32, (rolI b 13 ^^^ (a + b)), c + d, d⟩) := by rw [HX2.out]; exact K2.out.drew
  obtain ⟨c0, c1, c2, c3, f0, f1, f2, f3⟩ := K2.out.cells
  go_still_tail 7, Tryz.mixed
  still_call (sRoll_any d 16 _)
  repeat still_step
  refine wpStill_nil ?_
  rw [fold_drew, ← HX2.out]
  clear c0 c1 c2 c3 f0 f1 f2 f3
  obtain ⟨w3, HW3⟩ : ∃ w3, Hid (w3 = ((x2.setCell ⟨w.heap.size, 3, none⟩ (.int .u64 (U ((rolI d 16 ^^^ (c + d)))))).setCell ⟨w.heap.size, 0, none⟩ (.int .u64 (U ((rolI (a + b) 32 + (rolI d 16 ^^^ (c + d)))))))) := ⟨_, rfl⟩
  have K3 : Hid (Own4 w w3 w.heap.size ⟨(rolI (a + b) 32 + (rolI d 16 ^^^ (c + d))), (rolI b 13 ^^^ (a + b)), c + d, (rolI d 16 ^^^ (c + d))⟩) := by rw [HW3.out]; exact ((J2.out.set3 ((rolI d 16 ^^^ (c + d)))).set0 ((rolI (a + b) 32 + (rolI d 16 ^^^ (c + d)))))
  obtain ⟨c0, c1, c2, c3, f0, f1, f2, f3⟩ := J2.out.cells
  go_wp2_with (go_at_call 250; refine (sRoll_any _ _ _).mono ?_; rintro e w' ⟨rfl, hw⟩; obtain rfl := hw.symm)
  clear c0 c1 c2 c3 f0 f1 f2 f3
  rw [← HW3.out]
  obtain ⟨x3, HX3⟩ : ∃ x, Hid (x = w3.drew) := ⟨_, rfl⟩
  have J3 : Hid (Own4 w x3 w.heap.size ⟨(rolI (a + b) 32 + (rolI d 16 ^^^ (c + d))), (rolI b 13 ^^^ (a + b)), c + d, (rolI d 16 ^^^ (c + d))⟩) := by rw [HX3.out]; exact K3.out.drew
  obtain ⟨c0, c1, c2, c3, f0, f1, f2, f3⟩ := K3.out.cells
  go_still_tail 7, Tryz.mixed
  still_call (sRoll_any (rolI d 16 ^^^ (c + d)) 21 _)
  repeat still_step
  refine wpStill_nil ?_
  rw [fold_drew, ← HX3.out]
  clear c0 c1 c2 c3 f0 f1 f2 f3
  obtain ⟨w4, HW4⟩ : ∃ w4, Hid (w4 = ((x3.setCell ⟨w.heap.size, 3, none⟩ (.int .u64 (U ((rolI (rolI d 16 ^^^ (c + d)) 21 ^^^ (rolI (a + b) 32 + (rolI d 16 ^^^ (c + d)))))))).setCell ⟨w.heap.size, 2, none⟩ (.int .u64 (U (((c + d) + (rolI b 13 ^^^ (a + b)))))))) := ⟨_, rfl⟩
  have K4 : Hid (Own4 w w4 w.heap.size ⟨(rolI (a + b) 32 + (rolI d 16 ^^^ (c + d))), (rolI b 13 ^^^ (a + b)), ((c + d) + (rolI b 13 ^^^ (a + b))), (rolI (rolI d 16 ^^^ (c + d)) 21 ^^^ (rolI (a + b) 32 + (rolI d 16 ^^^ (c + d))))⟩) := by rw [HW4.out]; exact ((J3.out.set3 ((rolI (rolI d 16 ^^^ (c + d)) 21 ^^^ (rolI (a + b) 32 + (rolI d 16 ^^^ (c + d)))))).set2 (((c + d) + (rolI b 13 ^^^ (a + b)))))
  obtain ⟨c0, c1, c2, c3, f0, f1, f2, f3⟩ := J3.out.cells
  go_wp2_with (go_at_call 250; refine (sRoll_any _ _ _).mono ?_; rintro e w' ⟨rfl, hw⟩; obtain rfl := hw.symm)
  clear c0 c1 c2 c3 f0 f1 f2 f3
  rw [← HW4.out]
  obtain ⟨x4, HX4⟩ : ∃ x, Hid (x = w4.drew) := ⟨_, rfl⟩
  have J4 : Hid (Own4 w x4 w.heap.size ⟨(rolI (a + b) 32 + (rolI d 16 ^^^ (c + d))), (rolI b 13 ^^^ (a + b)), ((c + d) + (rolI b 13 ^^^ (a + b))), (rolI (rolI d 16 ^^^ (c + d)) 21 ^^^ (rolI (a + b) 32 + (rolI d 16 ^^^ (c + d))))⟩) := by rw [HX4.out]; exact K4.out.drew
  obtain ⟨c0, c1, c2, c3, f0, f1, f2, f3⟩ := K4.out.cells
  go_still_tail 7, Tryz.mixed
  still_call (sRoll_any (rolI b 13 ^^^ (a + b)) 17 _)
  repeat still_step
  refine wpStill_nil ?_
  rw [fold_drew, ← HX4.out]
  clear c0 c1 c2 c3 f0 f1 f2 f3
  obtain ⟨c0, c1, c2, c3, f0, f1, f2, f3⟩ := J4.out.cells
  obtain ⟨w5, HW5⟩ : ∃ w5, Hid (w5 = ((x4.setCell ⟨w.heap.size, 1, none⟩ (.int .u64 (U ((rolI (rolI b 13 ^^^ (a + b)) 17 ^^^ ((c + d) + (rolI b 13 ^^^ (a + b)))))))).setCell ⟨w.heap.size, 2, none⟩ (.int .u64 (U (rolI ((c + d) + (rolI b 13 ^^^ (a + b))) 32))))) := ⟨_, rfl⟩
  have K5 : Hid (Own4 w w5 w.heap.size ⟨(rolI (a + b) 32 + (rolI d 16 ^^^ (c + d))), (rolI (rolI b 13 ^^^ (a + b)) 17 ^^^ ((c + d) + (rolI b 13 ^^^ (a + b)))), rolI ((c + d) + (rolI b 13 ^^^ (a + b))) 32, (rolI (rolI d 16 ^^^ (c + d)) 21 ^^^ (rolI (a + b) 32 + (rolI d 16 ^^^ (c + d))))⟩) := by rw [HW5.out]; exact (J4.out.set1 _).set2 _
  have R5 : Hid (Row w5 w.heap.size 267 (C4 ⟨(rolI (a + b) 32 + (rolI d 16 ^^^ (c + d))), (rolI (rolI b 13 ^^^ (a + b)) 17 ^^^ ((c + d) + (rolI b 13 ^^^ (a + b)))), rolI ((c + d) + (rolI b 13 ^^^ (a + b))) 32, (rolI (rolI d 16 ^^^ (c + d)) 21 ^^^ (rolI (a + b) 32 + (rolI d 16 ^^^ (c + d))))⟩)) := K5.out.row
  obtain ⟨z, hz⟩ := K5.out.res
  have Z5 : Hid (Row w5 (w.heap.size + 1) 267 (C4 z)) := hz
  clear hz
  go_wp2_with fail
  refine (sRoll_any _ _ _).mono ?_
  rintro e w' ⟨rfl, hw⟩
  obtain rfl := hw.symm
  have ZR : Hid (Row ((((w5.setCell ⟨w.heap.size + 1, 0, none⟩ (.int .u64 (U (rolI (a + b) 32 + (rolI d 16 ^^^ (c + d)))))).setCell ⟨w.heap.size + 1, 1, none⟩ (.int .u64 (U (rolI (rolI b 13 ^^^ (a + b)) 17 ^^^ ((c + d) + (rolI b 13 ^^^ (a + b))))))).setCell ⟨w.heap.size + 1, 2, none⟩ (.int .u64 (U (rolI ((c + d) + (rolI b 13 ^^^ (a + b))) 32)))).setCell ⟨w.heap.size + 1, 3, none⟩ (.int .u64 (U (rolI (rolI d 16 ^^^ (c + d)) 21 ^^^ (rolI (a + b) 32 + (rolI d 16 ^^^ (c + d))))))) (w.heap.size + 1) 267 (C4 (mx ⟨a, b, c, d⟩))) := (((Z5.out.set 0 _).set 1 _).set 2 _).set 3 _
  have q0 := Z5.out.cell 0
  have q1 := Z5.out.cell 1
  have q2 := Z5.out.cell 2
  have q3 := Z5.out.cell 3
  have g0 := Z5.out.free 0
  have g1 := Z5.out.free 1
  have g2 := Z5.out.free 2
  have g3 := Z5.out.free 3
  simp at q0 q1 q2 q3
  go_wp2_with (rw [← HW5.out]; refine wpList_load_row (by rfl) 267 _ (by rfl) w.heap.size (by rfl) 267 _ (0, 0) _ R5.out Tryz.underlying267 (by rfl) Tryz.info4 ?_; clear c0 c1 c2 c3 f0 f1 f2 f3)
  clear q0 q1 q2 q3 g0 g1 g2 g3
  refine bodyPost_ret (v := A4 (mx ⟨a, b, c, d⟩)) (results_cell_row Tryz.results243 _ _ (w.heap.size + 1) 267 _ (0, 0) _ (by simp) ZR.out Tryz.underlying267 (by rfl) Tryz.info4) rfl ⟨rfl, ?_⟩
  exact Below.setCell (Below.setCell (Below.setCell (Below.setCell K5.out.bel (by simp) _) (by simp) _) (by simp) _) (by simp) _
end Go.Proofs.YtgiegoamcfjfmaaGreat
/- Texts scaled and summed byte by byte, in the program and in its model: what each answers at every text and number. Condition: texts of at most 2^20 bytes. -/
namespace Go.Proofs.YtgiegoamcfjfmaaGreat
set_option maxRecDepth 2000
open Go.ChangeShapes Go.WideShapes Go.ChangeAt Go.RowKit

theorem ret_str {a b : ByteArray} (h : a = b) : Ending.returned (.string a) = .returned (.string b) := by rw [h]
theorem u8_lt (c : UInt8) : c.toNat < 256 := c.toNat_lt

end Go.Proofs.YtgiegoamcfjfmaaGreat
/- Rows of byte numbers in memory, as the program's polynomials lie there; and the program's small functions over them: reading, trimming, numbers, putting one scaled on top of another, values. Conditions: lists of at most 2^20 numbers. -/
namespace Go.Proofs.YtgiegoamcfjfmaaGreat
set_option maxRecDepth 2000
open Go.ChangeShapes Go.WideShapes Go.ChangeAt Go.RowKit

/-- The first 'n' numbers of 'f'. -/
def eI (f : Nat → Nat) (n : Nat) : List Int := (List.range n).map fun i => ((f i : Nat) : Int)
theorem eI_len (f : Nat → Nat) (n : Nat) : (eI f n).length = n := by simp [eI]
theorem eI_get (f : Nat → Nat) (n i : Nat) (h : i < n) : (eI f n)[i]? = some ((f i : Nat) : Int) := by simp [eI, h]
theorem eI_getD (f : Nat → Nat) (n i : Nat) (h : i < n) : (eI f n).getD i 0 = ((f i : Nat) : Int) := by simp [List.getD, eI_get f n i h]
theorem eI_congr {f g : Nat → Nat} {n : Nat} (h : ∀ i, i < n → f i = g i) : eI f n = eI g n := by
  unfold eI
  apply List.map_congr_left
  intro i hi
  rw [h i (List.mem_range.1 hi)]
theorem eI_set (f : Nat → Nat) (n k v : Nat) (d : IntKind) (h : k < n) : ((eI f n).map (Value.int d)).set k (.int d (v : Int)) = (eI (fun i => if i = k then v else f i) n).map (Value.int d) := by
  apply List.ext_getElem?
  intro i
  rw [List.getElem?_set]
  by_cases hi : i < n
  · by_cases e : k = i
    · subst e
      simp [eI, h]
    · simp [eI, hi, e, Ne.symm e]
  · by_cases e : k = i
    · omega
    · rw [if_neg e, List.getElem?_eq_none (by simp [eI_len]; omega), List.getElem?_eq_none (by simp [eI_len]; omega)]
/-- A slice of byte numbers that holds 'f'. -/
def Els (w : World) (a : Option Addr) (n cap : Nat) (f : Nat → Nat) : Prop :=
  n ≤ cap ∧ ((a = none ∧ n = 0 ∧ cap = 0) ∨ ∃ b, a = some ⟨b, 0, none⟩ ∧ b < w.heap.size ∧ ∀ i, i < n → w.cell? ⟨b, i, none⟩ = some (.int .u8 ((f i : Nat) : Int)))
theorem Els.below {w w' : World} {a : Option Addr} {n cap : Nat} {f : Nat → Nat} (h : Els w a n cap f) (hb : Below w.heap.size w w') : Els w' a n cap f := by
  refine ⟨h.1, ?_⟩
  rcases h.2 with h' | ⟨b, e, hl, hc⟩
  · exact .inl h'
  · exact .inr ⟨b, e, Nat.lt_of_lt_of_le hl hb.size, fun i hi => (hb.cell (p := ⟨b, i, none⟩) (block_lt_of_cell (hc i hi))).trans (hc i hi)⟩
theorem Els.grown {w w' : World} {a : Option Addr} {n cap g : Nat} {f : Nat → Nat} (h : Els w a n cap f) (hg : w.grownBy w' (some g)) (hn : ∀ b, a = some ⟨b, 0, none⟩ → b ≠ g) : Els w' a n cap f := by
  refine ⟨h.1, ?_⟩
  rcases h.2 with h' | ⟨b, e, hl, hc⟩
  · exact .inl h'
  · exact .inr ⟨b, e, Nat.lt_of_lt_of_le hl hg.size, fun i hi => hg.cell (hc i hi) (by simpa using hn b e)⟩
theorem Els.at {w : World} {a : Option Addr} {n cap i : Nat} {f : Nat → Nat} (h : Els w a n cap f) (hi : i < n) : ∃ b, a = some ⟨b, 0, none⟩ ∧ w.cell? ⟨b, i, none⟩ = some (.int .u8 ((f i : Nat) : Int)) := by
  rcases h.2 with h' | ⟨b, e, _, hc⟩
  · omega
  · exact ⟨b, e, hc i hi⟩
theorem Els.lt {w : World} {a : Option Addr} {n cap : Nat} {f : Nat → Nat} (h : Els w a n cap f) : ∀ b, a = some ⟨b, 0, none⟩ → b < w.heap.size := by
  intro b e
  rcases h.2 with ⟨h', _⟩ | ⟨b', e', hl, _⟩
  · rw [h'] at e; cases e
  · rw [e'] at e; cases e; exact hl
theorem Els.off {w : World} {a : Option Addr} {n cap g : Nat} {f : Nat → Nat} (h : Els w a n cap f) (hg : w.heap.size ≤ g) : ∀ b, a = some ⟨b, 0, none⟩ → b ≠ g := fun b e => by
  have := h.lt b e
  omega
theorem Els.less {w : World} {a : Option Addr} {n cap k : Nat} {f : Nat → Nat} (h : Els w a n cap f) (hk : k ≤ n) : Els w a k cap f := by
  refine ⟨Nat.le_trans hk h.1, ?_⟩
  rcases h.2 with ⟨h1, h2, h3⟩ | ⟨b, e, hl, hc⟩
  · exact .inl ⟨h1, by omega, h3⟩
  · exact .inr ⟨b, e, hl, fun i hi => hc i (by omega)⟩
theorem Els.nil (w : World) (f : Nat → Nat) : Els w none 0 0 f := ⟨Nat.le_refl _, .inl ⟨rfl, rfl, rfl⟩⟩
theorem Els.congr {w : World} {a : Option Addr} {n cap : Nat} {f g : Nat → Nat} (h : Els w a n cap f) (e : ∀ i, i < n → f i = g i) : Els w a n cap g := by
  refine ⟨h.1, ?_⟩
  rcases h.2 with h' | ⟨b, ea, hl, hc⟩
  · exact .inl h'
  · exact .inr ⟨b, ea, hl, fun i hi => by rw [hc i hi, e i hi]⟩
/-- A row of ours. -/
def OwnU (w : World) (B g n cap : Nat) (f : Nat → Nat) : Prop := w.ownsRow B 240 1 (.slice (some ⟨g, 0, none⟩) n cap) n ((eI f n).map (Value.int .u8))
theorem OwnU.lt {w : World} {B g n cap : Nat} {f : Nat → Nat} (h : OwnU w B g n cap f) : B ≤ g ∧ g < w.heap.size := World.ownsRow.lt h g rfl
theorem OwnU.below {w w' : World} {B g n cap : Nat} {f : Nat → Nat} (h : OwnU w B g n cap f) (hb : Below w.heap.size w w') : OwnU w' B g n cap f := ownsRow_below h hb
theorem OwnU.other {w w' : World} {B g n cap r : Nat} {f : Nat → Nat} (h : OwnU w B g n cap f) (hg : w.grownBy w' (some r)) (hr : g ≠ r) : OwnU w' B g n cap f :=
  World.ownsRow.kept h hg (.inr (by simp [Value.ownBlock]; exact hr))
theorem OwnU.congr {w : World} {B g n cap : Nat} {f h : Nat → Nat} (ho : OwnU w B g n cap f) (e : ∀ i, i < n → f i = h i) : OwnU w B g n cap h := by
  unfold OwnU at *
  rw [← eI_congr e]
  exact ho
theorem OwnU.set {w : World} {B g n cap k v : Nat} {f : Nat → Nat} (h : OwnU w B g n cap f) (hk : k < n) :
    OwnU (w.setCell ⟨g, k, none⟩ (.int .u8 (v : Int))) B g n cap (fun i => if i = k then v else f i) ∧ w.grownBy (w.setCell ⟨g, k, none⟩ (.int .u8 (v : Int))) (some g) := by
  have hs := World.ownsRow.stored h k (.int .u8 (v : Int))
  rw [eI_set f n k v .u8 hk] at hs
  exact ⟨hs.1, ⟨rfl, rfl, rfl, by simp, fun j _ hj => heap_setCell_other w ⟨g, k, none⟩ j _ (fun e => hj (by simp [e]))⟩⟩
/-- A row of ours, of whole numbers. -/
def OwnI (w : World) (B : Nat) (v : Value) (zs : List Int) : Prop := w.ownsRow B 3 1 v zs.length (zs.map (Value.int .i64))
theorem OwnI.view {w : World} {B : Nat} {v : Value} {zs : List Int} (h : OwnI w B v zs) : ∃ a cap, v = .slice a zs.length cap ∧ IntsAt w a zs.length zs ∧ ∀ x, a = some x → B ≤ x.block ∧ x.block < w.heap.size := by
  rcases h.2 with ⟨e, hn⟩ | ⟨g, cap, cur, e, hB, hg, rest⟩
  · exact ⟨none, 0, by rw [e, hn], ⟨rfl, fun i hi => by omega⟩, fun x hx => by cases hx⟩
  · refine ⟨some ⟨g, 0, none⟩, cap, e, ?_, fun x hx => ?_⟩
    · subst e; exact ownsRow.ints h
    · cases hx; exact ⟨hB, (Array.getElem?_eq_some_iff.1 hg).1⟩
theorem OwnI.below {w w' : World} {B : Nat} {v : Value} {zs : List Int} (h : OwnI w B v zs) (hb : Below w.heap.size w w') : OwnI w' B v zs := ownsRow_below h hb
theorem OwnI.nil (w : World) (B : Nat) : OwnI w B (.slice none 0 0) [] := World.ownsRow_nil w B _ _

/-! ### Reading -/
end Go.Proofs.YtgiegoamcfjfmaaGreat
/- Rows of cells of our own; what a turn of other blocks leaves of them; sums of lengths. Definitions and lemmas; no walk. -/
namespace Go.Proofs.YtgiegoamcfjfmaaGreat
set_option maxRecDepth 2000
open Go.ChangeShapes Go.WideShapes Go.ChangeAt Go.RowKit

theorem below_of_drew {w w1 : World} (h : Below w.drew.heap.size w.drew w1) : Below w.heap.size w w1 := ⟨h.os, h.tape, h.output, h.size, h.block⟩
theorem own_shape {w : World} {B e s : Nat} {a : Option Addr} {n cap n' : Nat} {xs : List Value} (h : w.ownsRow B e s (.slice a n cap) n' xs) :
    (a = none ∧ n = 0 ∧ cap = 0) ∨ ∃ g cur, a = some ⟨g, 0, none⟩ ∧ B ≤ g ∧ w.heap[g]? = some (.cells cur e (0, 0)) ∧ n ≤ cap := by
  rcases h.2 with ⟨h', _⟩ | ⟨g, cap', cur, h', hb, hg, hn, _⟩
  · cases h'; exact .inl ⟨rfl, rfl, rfl⟩
  · cases h'; exact .inr ⟨g, cur, rfl, hb, hg, hn⟩
theorem own_kept {w w' : World} {B e s n : Nat} {a : Option Addr} {l c b : Nat} {xs : List Value} (h : w.ownsRow B e s (.slice a l c) n xs) (hg : w.grownBy w' (some b)) (hn : ∀ x, a = some x → x.block ≠ b) : w'.ownsRow B e s (.slice a l c) n xs := by
  refine World.ownsRow.kept h hg ?_
  cases a with
  | none => exact .inl rfl
  | some x => exact .inr (by simp [Value.ownBlock]; exact hn x rfl)
theorem grown_set (w : World) (g j : Nat) (v : Value) : w.grownBy (w.setCell ⟨g, j, none⟩ v) (some g) :=
  ⟨rfl, rfl, rfl, by simp, fun i _ hi => heap_setCell_other w ⟨g, j, none⟩ i _ (fun e => hi (by simp [e]))⟩
/-- Only blocks from 'B' on, ahead of 'E', have turned. -/
structure TurnM (w w' : World) (B E : Nat) : Prop where
  os : w'.os = w.os
  tape : w'.tape = w.tape
  output : w'.output = w.output
  size : w.heap.size ≤ w'.heap.size
  block : ∀ j, j < w.heap.size → (j < B ∨ E ≤ j) → w'.heap[j]? = w.heap[j]?
theorem TurnM.refl (w : World) (B E : Nat) : TurnM w w B E := ⟨rfl, rfl, rfl, Nat.le_refl _, fun _ _ _ => rfl⟩
theorem TurnM.trans {w w1 w2 : World} {B E : Nat} (h : TurnM w w1 B E) (h2 : TurnM w1 w2 B E) : TurnM w w2 B E :=
  ⟨h2.os.trans h.os, h2.tape.trans h.tape, h2.output.trans h.output, Nat.le_trans h.size h2.size, fun j hj hr => (h2.block j (Nat.lt_of_lt_of_le hj h.size) hr).trans (h.block j hj hr)⟩
theorem TurnM.below {w w' : World} {B E s : Nat} (h : TurnM w w' B E) (hs : s ≤ B) (hw : s ≤ w.heap.size) : Below s w w' :=
  ⟨h.os, h.tape, h.output, h.size, fun j hj => h.block j (by omega) (.inl (by omega))⟩
theorem own_turn {w w' : World} {B E B' E' e s n l c : Nat} {a : Option Addr} {xs : List Value} (h : w.ownsRow B e s (.slice a l c) n xs) (ht : TurnM w w' B' E') (hE : ∀ x, a = some x → x.block < E) (hd : E ≤ B' ∨ E' ≤ B) : w'.ownsRow B e s (.slice a l c) n xs := by
  refine ⟨h.1, ?_⟩
  rcases h.2 with h' | ⟨g, cap, cur, h1, h2, h3, h4⟩
  · exact .inl h'
  · refine .inr ⟨g, cap, cur, h1, h2, ?_, h4⟩
    cases h1
    have := hE _ rfl
    rw [ht.block g (Array.getElem?_eq_some_iff.1 h3).1 (by simp at this; omega)]
    exact h3
theorem own_turn2 {w w' : World} {B b e0 e s n l c : Nat} {a : Option Addr} {xs : List Value} (h : w.ownsRow B e s (.slice a l c) n xs) (ht : TurnM w w' b e0) (hx : ∀ x, a = some x → ¬ (b ≤ x.block ∧ x.block < e0)) : w'.ownsRow B e s (.slice a l c) n xs := by
  refine ⟨h.1, ?_⟩
  rcases h.2 with h' | ⟨g, cap, cur, h1, h2, h3, h4⟩
  · exact .inl h'
  · refine .inr ⟨g, cap, cur, h1, h2, ?_, h4⟩
    cases h1
    have := hx _ rfl
    rw [ht.block g (Array.getElem?_eq_some_iff.1 h3).1 (by simp at this; omega)]
    exact h3
/-- How many numbers the rows ahead of 'n' hold. -/
def tot (L : Nat → Nat) : Nat → Nat
  | 0 => 0
  | n + 1 => tot L n + L n
theorem tot_le (L : Nat → Nat) {i n : Nat} (h : i < n) : tot L i + L i ≤ tot L n := by
  induction n with
  | zero => omega
  | succ n ih =>
    by_cases e : i = n
    · subst e; exact Nat.le_refl _
    · have := ih (by omega)
      show _ ≤ tot L n + L n
      omega
theorem own_base {w : World} {B B' e s n : Nat} {v : Value} {xs : List Value} (h : w.ownsRow B e s v n xs) (hB : B' ≤ B) : w.ownsRow B' e s v n xs := by
  refine ⟨h.1, ?_⟩
  rcases h.2 with h' | ⟨g, cap, cur, h1, h2, h3⟩
  · exact .inl h'
  · exact .inr ⟨g, cap, cur, h1, by omega, h3⟩
/-- What is left of 'l' behind 'n' rows, or that it is too little. -/
def szF (L : Nat → Nat) (n l : Nat) : Int := if n + tot L n ≤ l then ((l - (n + tot L n) : Nat) : Int) else -1
end Go.Proofs.YtgiegoamcfjfmaaGreat
/- Texts summed byte by byte, in the program and in its model: what each answers at every two texts. Condition: texts of at most 2^20 bytes. -/
namespace Go.Proofs.YtgiegoamcfjfmaaGreat
set_option maxRecDepth 2000
open Go.ChangeShapes Go.WideShapes Go.ChangeAt Go.RowKit

end Go.Proofs.YtgiegoamcfjfmaaGreat
