/- The two functions that keep a table: powerOfTwo answers the power of two at every number, log the logarithm at every byte number; each makes one new block and turns nothing that was there. -/
import Derived.Test.YtpomffkpjldloaaChecked
import Derived.Test.YtpomffkpjldloaaH2
import Derived.Test.YtpomffkpjldloaaH4
import Derived.Outline
import Derived.WalkSpells
import Derived.WalkLawsBesides
import Derived.Laws.BitsAllLaws
import Derived.Test.YtpomffkpjldloaaH3
import Derived.Test.YtpomffkpjldloaaRows
import Derived.Test.YtpomffkpjldloaaH1
import Derived.Laws.Shifts
import Derived.Laws.OwnMore
import Derived.OwnWalk
import Derived.Deep.QuietTactic
import Derived.BigQuiet
import Derived.Deep.RegionHeld3
import Derived.Test.YtpomffkpjldloaaH5
import Derived.StillTailTactics
import Derived.Laws.BytesArg
import Derived.Deep.AppendLies
namespace Go.Proofs.Ytpomffkpjldloaa
set_option maxRecDepth 2000
open Go.ChangeShapes Go.WideShapes Go.ChangeAt Go.RowKit

end Go.Proofs.Ytpomffkpjldloaa
/- What each function of the field answers, in the program and in its model, at every number: sums, products, powers, inverses, quotients, powers of two and logarithms; none turns anything that was there. No condition. -/
namespace Go.Proofs.Ytpomffkpjldloaa
set_option maxRecDepth 2000
open Go.ChangeShapes Go.WideShapes Go.ChangeAt Go.RowKit

theorem ret_int {k : IntKind} {a b : Int} (h : a = b) : Ending.returned (.int k a) = .returned (.int k b) := by rw [h]
theorem below2 {a b c : World} (h1 : Below a.heap.size a b) (h2 : Below b.heap.size b c) : Below a.heap.size a c :=
  h1.trans (h2.mono h1.size)

theorem ret_bool {a b : Bool} (h : a = b) : Ending.returned (.bool a) = .returned (.bool b) := by rw [h]
/-- A byte number. -/
def isB (a : Int) : Bool := decide (0 ≤ a ∧ a ≤ 255)
/-! ### The program's small functions -/
/-! ### The program's functions, at every number -/
/-! ### The model's functions, at every number -/
def inB (x a b : Int) : Bool := decide (a ≤ x ∧ x ≤ b)
set_option maxHeartbeats 400000 in
theorem sIn_any (x a b : Int) (w : World) : Calls Try.prog 23 #[.int .i64 x, .int .i64 a, .int .i64 b] w fun e w' => e = .returned (.bool (inB x a b)) ∧ w' = w := by
  go_enter Try.func23, Try.ntmps23
  go_wp2
  · go_ret
    exact ⟨ret_bool (by simp [inB, *]), rfl⟩
  · go_ret
    exact ⟨ret_bool (by simp [inB]; omega), rfl⟩
end Go.Proofs.Ytpomffkpjldloaa
/- What the model's functions with loops answer at every number: products, powers, inverses, quotients, powers of two and logarithms; none turns anything that was there. No condition. -/
namespace Go.Proofs.Ytpomffkpjldloaa
set_option maxRecDepth 2000
open Go.ChangeShapes Go.WideShapes Go.ChangeAt Go.RowKit

end Go.Proofs.Ytpomffkpjldloaa
/- A long turned by any whole number: what the library's function, the program's and its model answer. No condition. -/
namespace Go.Proofs.Ytpomffkpjldloaa
set_option maxRecDepth 2000
open Go.ChangeShapes Go.WideShapes Go.ChangeAt Go.RowKit
open Gs (U rolI)

end Go.Proofs.Ytpomffkpjldloaa
/- The laws' own helpers over lists of numbers: a copy holds the same numbers in new memory; two lists are told equal just where they are. Condition: no list is longer than 2^20. -/
namespace Go.Proofs.Ytpomffkpjldloaa
set_option maxRecDepth 2000
open Go.ChangeShapes Go.WideShapes Go.ChangeAt Go.RowKit

/-- The first 'n' cells behind the address hold the numbers 'zs'. -/
def IntsAt (w : World) (a : Option Addr) (n : Nat) (zs : List Int) : Prop :=
  zs.length = n ∧ ∀ i, i < n → ∃ b off, a = some ⟨b, off, none⟩ ∧ w.cell? ⟨b, off + i, none⟩ = some (.int .i64 (zs.getD i 0))
theorem IntsAt.below {w w' : World} {a : Option Addr} {n : Nat} {zs : List Int} (h : IntsAt w a n zs) (hb : Below w.heap.size w w') : IntsAt w' a n zs := by
  refine ⟨h.1, fun i hi => ?_⟩
  obtain ⟨b, off, e, hc⟩ := h.2 i hi
  exact ⟨b, off, e, (hb.cell (p := ⟨b, off + i, none⟩) (block_lt_of_cell hc)).trans hc⟩
theorem IntsAt.mono {B : Nat} {w w' : World} {a : Option Addr} {n : Nat} {zs : List Int} (h : IntsAt w a n zs) (hb : Below B w w') (hB : ∀ x, a = some x → x.block < B) : IntsAt w' a n zs := by
  refine ⟨h.1, fun i hi => ?_⟩
  obtain ⟨b, off, e, hc⟩ := h.2 i hi
  exact ⟨b, off, e, (hb.cell (p := ⟨b, off + i, none⟩) (show b < B from hB _ e)).trans hc⟩
theorem IntsAt.some {w : World} {a : Option Addr} {n : Nat} {zs : List Int} (h : IntsAt w a n zs) (hn : 0 < n) : ∃ b off, a = some ⟨b, off, none⟩ ∧ ∀ i, i < n → w.cell? ⟨b, off + i, none⟩ = .some (.int .i64 (zs.getD i 0)) := by
  obtain ⟨b, off, e, _⟩ := h.2 0 hn
  refine ⟨b, off, e, fun i hi => ?_⟩
  obtain ⟨b', off', e', hc⟩ := h.2 i hi
  rw [e] at e'
  simp at e'
  obtain ⟨rfl, rfl⟩ := e'
  exact hc
theorem IsRow.ints {w : World} {a : Option Addr} {len cap : Nat} {zs : List Int} (h : IsRow .i64 w a len cap zs) : len ≤ cap ∧ IntsAt w a len (zs.take len) ∧ ∀ n ∈ zs.take len, (Lit.int .i64 n).wf = true := by
  rcases h with ⟨rfl, rfl, rfl, rfl⟩ | ⟨x, rfl, hl, hm, hz, hcell, hwz⟩
  · exact ⟨Nat.le_refl _, ⟨rfl, fun i hi => absurd hi (by omega)⟩, by simp⟩
  · refine ⟨hl, ⟨by rw [List.length_take]; omega, fun i hi => ?_⟩, fun n hn => hwz n (List.mem_of_mem_take hn)⟩
    obtain ⟨b, off, spot⟩ := x
    have hc := hcell i (by omega)
    have hspot : spot = none := by simpa [Addr.add] using World.cell?_spot (hcell 0 (by omega))
    subst hspot
    refine ⟨b, off, rfl, ?_⟩
    have e : (zs.take len).getD i 0 = zs.getD i 0 := by simp [hi]
    rw [e]
    have ea : (⟨b, off, none⟩ : Addr).add i = ⟨b, off + i, none⟩ := by unfold Addr.add; split <;> simp_all
    rw [← ea]
    exact hc
theorem ownsRow.ints {w : World} {B E g n cap : Nat} {zs : List Int} (h : w.ownsRow B E 1 (.slice (some ⟨g, 0, none⟩) n cap) n (zs.map (Value.int .i64))) : IntsAt w (some ⟨g, 0, none⟩) n zs := by
  have hl : zs.length = n := by simpa using h.1
  refine ⟨hl, fun i hi => ⟨g, 0, rfl, ?_⟩⟩
  rw [Nat.zero_add, h.cellAt i (by omega)]
  simp [hl, hi]

theorem ownsRow_below {w w' : World} {B e size n : Nat} {v : Value} {xs : List Value} (h : w.ownsRow B e size v n xs) (hb : Below w.heap.size w w') : w'.ownsRow B e size v n xs := by
  refine ⟨h.1, ?_⟩
  rcases h.2 with h' | ⟨g, cap, cur, h1, h2, h3, h4⟩
  · exact .inl h'
  · refine .inr ⟨g, cap, cur, h1, h2, ?_, h4⟩
    rw [hb.block g (Array.getElem?_eq_some_iff.1 h3).1]
    exact h3
theorem Try.infoInt : (Try.prog.info? 3).map (fun i => (i.zero, i.size, i.bytes)) = some (some (.int .i64 0), 1, 8) := by kernel_rfl

theorem copied_set (d : IntKind) (zs : List Int) (n k : Nat) (hn : zs.length = n) (hk : k < n) :
    ((zs.take k ++ List.replicate (n - k) 0).map (Value.int d)).set k (.int d (zs.getD k 0)) = (zs.take (k + 1) ++ List.replicate (n - (k + 1)) 0).map (Value.int d) := by
  apply List.ext_getElem?
  intro j
  simp only [List.getElem?_set, List.getElem?_map, List.getElem?_append, List.length_take, List.length_map, List.length_append, List.length_replicate, List.getElem?_take, List.getElem?_replicate]
  by_cases h1 : k = j
  · subst h1
    simp [hn, hk, show min k n = k by omega, show min (k + 1) n = k + 1 by omega, show k < k + (n - k) by omega]
  · by_cases h2 : j < k
    · simp [h1, h2, hn, show j < min k n by omega, show j < min (k + 1) n by omega, show j < k + 1 by omega]
    · by_cases h3 : j < n
      · simp [h1, hn, show ¬ j < min k n by omega, show ¬ j < min (k + 1) n by omega, show j - min k n < n - k by omega, show j - min (k + 1) n < n - (k + 1) by omega]
      · simp [h1, hn, show ¬ j < min k n by omega, show ¬ j < min (k + 1) n by omega, show ¬ j - min k n < n - k by omega, show ¬ j - min (k + 1) n < n - (k + 1) by omega]

set_option maxHeartbeats 1000000 in
theorem toIntS_any (a : Option Addr) (n cap : Nat) (zs : List Int) (w : World) (h : IntsAt w a n zs) (hn : n ≤ 1048576) :
    Calls Try.prog 5 #[.slice a n cap] w fun e w' => e = .returned (.slice (some ⟨w.heap.size, 0, none⟩) n n) ∧ w'.ownsRow w.heap.size 3 1 (.slice (some ⟨w.heap.size, 0, none⟩) n n) n (zs.map (Value.int .i64)) ∧ Below w.heap.size w w' := by
  obtain ⟨i0, hi, hz0, hz1, hz2⟩ := info_parts Try.infoInt
  obtain ⟨hlen, hcells⟩ := h
  have HL : Hid (zs.length = n) := hlen
  clear hlen
  go_enter Try.func5, Try.ntmps5
  go_wp2_with (at_make; refine wpList_make_full _ rfl _ _ 22 rfl w.heap.size 3 i0 (.int .i64 0) 1 Try.underlying22 hi hz0 hz1 .i64 .i64 _ _ n rfl rfl rfl rfl (by rw [hz2]; omega) (by unfold maxLen; omega) (Nat.le_refl _) ?_; intro w1 hown hgrow)
  have hb1 : Below w.heap.size w w1 := (Below.refl _ _).grown hgrow (Nat.le_refl _) (by simp)
  have ho1 : w1.ownsRow w.heap.size 3 1 (.slice (some ⟨w.heap.size, 0, none⟩) n n) n ((zs.take 0 ++ List.replicate (n - 0) 0).map (Value.int .i64)) := by
    simpa [Value.cells, toList_madeCells_one] using hown
  clear hown hgrow
  go_loopw [4] (fun i wr => ∃ k : Nat, k ≤ n ∧ i = .int .i64 k ∧ wr.ownsRow w.heap.size 3 1 (.slice (some ⟨w.heap.size, 0, none⟩) n n) n ((zs.take k ++ List.replicate (n - k) 0).map (Value.int .i64)) ∧ Below w.heap.size w wr) (fun i _ => n - (intOf i).toNat)
  case atStart => exact ⟨0, Nat.zero_le _, rfl, ho1, hb1⟩
  case round =>
    obtain ⟨k, hk, rfl, hown, hbel⟩ := hrel
    clear ho1 hb1
    by_cases hlt : k < n
    · obtain ⟨b, off, rfl, hc⟩ := hcells k hlt
      have hcx : wr.cell? ⟨b, off + k, none⟩ = some (.int .i64 (zs.getD k 0)) := (hbel.cell (p := ⟨b, off + k, none⟩) (block_lt_of_cell hc)).trans hc
      obtain ⟨old, hold⟩ : ∃ v, wr.cell? ⟨w.heap.size, k, none⟩ = some v := by
        rw [hown.cellAt k (by omega)]
        exact ⟨_, List.getElem?_eq_getElem (by rw [hown.1]; omega)⟩
      have hfr := hown.frozenAt k
      have hst := hown.stored k (.int .i64 (zs.getD k 0))
      rw [copied_set .i64 zs n k HL.out hlt] at hst
      have hne : Below w.heap.size w (wr.setCell ⟨w.heap.size, k, none⟩ (.int .i64 (zs.getD k 0))) := hbel.setCell (Nat.le_refl _) _
      have HO : Hid _ := hst.1
      clear hst hown hcells hc
      go_wp2
      go_roundw
      case rel => exact ⟨k + 1, by omega, by go_num, HO.out, hne⟩
      case measure => simp [intOf]; omega
    · have e : k = n := by omega
      subst e
      go_wp2
      go_ret
      refine ⟨rfl, ?_, hbel⟩
      have e2 : zs.take k ++ List.replicate (k - k) 0 = zs := by rw [List.take_of_length_le (by rw [HL.out]; omega)]; simp
      rw [e2] at hown
      exact hown
end Go.Proofs.Ytpomffkpjldloaa
/- The sum of products of two lists, in the program and in its model, and the laws' test of two lists. Condition: lists of at most 2^20 numbers. -/
namespace Go.Proofs.Ytpomffkpjldloaa
set_option maxRecDepth 2000
open Go.ChangeShapes Go.WideShapes Go.ChangeAt Go.RowKit

set_option maxHeartbeats 1000000 in
theorem eqIntS_same (a b : Option Addr) (n ca cb : Nat) (zs : List Int) (w : World) (ha : IntsAt w a n zs) (hb : IntsAt w b n zs) (hn : n ≤ 1048576) :
    Calls Try.prog 8 #[.slice a n ca, .slice b n cb] w fun e w' => e = .returned (.bool true) ∧ Below w.heap.size w w' := by
  go_enter Try.func8, Try.ntmps8
  go_wp2
  go_loopw [5] (fun i wr => ∃ k : Nat, k ≤ n ∧ i = .int .i64 k ∧ Below w.heap.size w wr) (fun i _ => n - (intOf i).toNat)
  case atStart => exact ⟨0, Nat.zero_le _, rfl, Below.refl _ _⟩
  case round =>
    obtain ⟨k, hk, rfl, hbel⟩ := hrel
    have ha' := ha.below hbel
    have hb' := hb.below hbel
    clear ha hb
    by_cases hlt : k < n
    · obtain ⟨ba, oa, rfl, hca⟩ := ha'.2 k hlt
      obtain ⟨bb, ob, rfl, hcb⟩ := hb'.2 k hlt
      clear ha' hb'
      obtain ⟨x, HX⟩ : ∃ x, x = zs.getD k 0 := ⟨_, rfl⟩
      rw [← HX] at hca hcb
      clear HX
      go_wp2
      go_quiet (fail)
      go_wp2
      go_roundw
      case rel => exact ⟨k + 1, by omega, by go_num, below_drewN hbel _⟩
      case measure => simp [intOf]; omega
    · go_wp2
      go_ret
      exact ⟨rfl, hbel⟩

end Go.Proofs.Ytpomffkpjldloaa
/- The drawing of inputs: a cursor over bytes gives numbers within their bounds, writes into itself alone, and leaves all else as it was. Condition: at most 2^20 bytes. -/
namespace Go.Proofs.Ytpomffkpjldloaa
set_option maxRecDepth 2000
open Go.ChangeShapes Go.WideShapes Go.ChangeAt Go.RowKit

theorem grownBy_trans {a b c : World} {row : Option Nat} (h : a.grownBy b row) (k : b.grownBy c row) : a.grownBy c row :=
  ⟨k.os.trans h.os, k.tape.trans h.tape, k.output.trans h.output, Nat.le_trans h.size k.size, fun j hj hn => (k.block j (Nat.lt_of_lt_of_le hj h.size) hn).trans (h.block j hj hn)⟩
/-- The 'n' cells behind the address hold bytes, in another block than 'g'. -/
def BytesAt (w : World) (a : Option Addr) (n g : Nat) : Prop :=
  ∀ j, j < n → ∃ b off x, a = some ⟨b, off, none⟩ ∧ b ≠ g ∧ w.cell? ⟨b, off + j, none⟩ = some (.int .u8 x) ∧ 0 ≤ x ∧ x ≤ 255
theorem BytesAt.grown {w w' : World} {a : Option Addr} {n g : Nat} (h : BytesAt w a n g) (hg : w.grownBy w' (some g)) : BytesAt w' a n g := by
  intro j hj
  obtain ⟨b, off, x, e, hb, hc, hx⟩ := h j hj
  exact ⟨b, off, x, e, hb, hg.cell hc (by simpa using hb), hx⟩
end Go.Proofs.Ytpomffkpjldloaa
/- A round of mixing, in the program and in its model: what each answers at every four longs. No condition. -/
namespace Go.Proofs.Ytpomffkpjldloaa
set_option maxRecDepth 2000
open Go.ChangeShapes Go.WideShapes Go.ChangeAt Go.RowKit
open Gs (U rolI V4 mx)

end Go.Proofs.Ytpomffkpjldloaa
/- Texts scaled and summed byte by byte, in the program and in its model: what each answers at every text and number. Condition: texts of at most 2^20 bytes. -/
namespace Go.Proofs.Ytpomffkpjldloaa
set_option maxRecDepth 2000
open Go.ChangeShapes Go.WideShapes Go.ChangeAt Go.RowKit

theorem ret_str {a b : ByteArray} (h : a = b) : Ending.returned (.string a) = .returned (.string b) := by rw [h]
end Go.Proofs.Ytpomffkpjldloaa
/- The program's hash: what its parts answer and make of it. Condition: a length of at most 2^20. -/
namespace Go.Proofs.Ytpomffkpjldloaa
set_option maxRecDepth 2000
open Go.ChangeShapes Go.WideShapes Go.ChangeAt Go.RowKit
open Gs (U rolI V4 mx inn key all4 fin)

end Go.Proofs.Ytpomffkpjldloaa
/- Texts summed byte by byte, in the program and in its model: what each answers at every two texts. Condition: texts of at most 2^20 bytes. -/
namespace Go.Proofs.Ytpomffkpjldloaa
set_option maxRecDepth 2000
open Go.ChangeShapes Go.WideShapes Go.ChangeAt Go.RowKit

end Go.Proofs.Ytpomffkpjldloaa
/- The plain mathematics of texts that are scaled and summed, and of sums of products. No condition. -/
namespace Go.Proofs.Ytpomffkpjldloaa
set_option maxRecDepth 2000

def tat (s : ByteArray) (k : Nat) : Nat := (s.data.toList.getD k 0).toNat
end Go.Proofs.Ytpomffkpjldloaa
/- A long's eight bytes as a text, in the program and in its model: what each answers at every long. No condition. -/
namespace Go.Proofs.Ytpomffkpjldloaa
set_option maxRecDepth 2000
open Go.ChangeShapes Go.WideShapes Go.ChangeAt Go.RowKit
open Gs (U)

def lby (x : BitVec 64) (i : Nat) : Nat := x.toNat / 2 ^ (8 * (7 - i)) % 256
def lx (x : BitVec 64) : List Int := (List.range 8).map fun i => ((lby x i : Nat) : Int)
end Go.Proofs.Ytpomffkpjldloaa
/- The program's sum of a text with a key: what Sip answers. Condition: a text of at most 2^20 bytes. -/
namespace Go.Proofs.Ytpomffkpjldloaa
set_option maxRecDepth 2000
open Go.ChangeShapes Go.WideShapes Go.ChangeAt Go.RowKit
open Gs (U rolI V4 mx inn key all4 fin)

end Go.Proofs.Ytpomffkpjldloaa
/- The model's sum of a text with a key: what Sip answers there. Condition: a text of at most 2^20 bytes. -/
namespace Go.Proofs.Ytpomffkpjldloaa
set_option maxRecDepth 2000
open Go.ChangeShapes Go.WideShapes Go.ChangeAt Go.RowKit
open Gs (U rolI V4 mx inn key all4 fin)

end Go.Proofs.Ytpomffkpjldloaa
