/- Lists of texts in memory; the laws' own helpers over them: a copy, equal ones, their length, marks. Conditions: at most 2^20 texts. -/
import Derived.Test.YtmggogdnfgkljaaK3
import Derived.Test.YtmggogdnfgkljaaK6
import Derived.Deep.Strs
import Derived.Test.YtmggogdnfgkljaaK2
import Derived.Lib.BufferWrite
import Derived.Laws.CopyOwn
import Derived.Test.YtmggogdnfgkljaaQDrawO
import Derived.Laws.IdiomStrings
namespace Go.Proofs.Ytmggogdnfgkljaa
open Go.ChangeShapes Go.WideShapes Go.ChangeAt Go.RowKit

theorem Try.infoStr : (Try.prog.info? 9).map (fun i => (i.zero, i.size, i.bytes)) = some (some (.string ByteArray.empty), 1, 16) := by kernel_rfl
/-- A list of texts that is read. -/
def TxtAt (w : World) (a : Option Addr) (n : Nat) (S : Nat → ByteArray) : Prop := ∀ i, i < n → ∃ b off, a = some ⟨b, off, none⟩ ∧ w.cell? ⟨b, off + i, none⟩ = some (.string (S i))
theorem TxtAt.below {w w' : World} {a : Option Addr} {n : Nat} {S : Nat → ByteArray} (h : TxtAt w a n S) (hb : Below w.heap.size w w') : TxtAt w' a n S := fun i hi => by
  obtain ⟨b, off, e, hc⟩ := h i hi
  exact ⟨b, off, e, (hb.cell (p := ⟨b, off + i, none⟩) (block_lt_of_cell hc)).trans hc⟩
theorem TxtAt.congr {w : World} {a : Option Addr} {n : Nat} {S S' : Nat → ByteArray} (h : TxtAt w a n S) (e : ∀ i, i < n → S i = S' i) : TxtAt w a n S' := fun i hi => by
  obtain ⟨b, off, ea, hc⟩ := h i hi
  exact ⟨b, off, ea, by rw [← e i hi]; exact hc⟩
theorem TxtAt.less {w : World} {a : Option Addr} {n m : Nat} {S : Nat → ByteArray} (h : TxtAt w a n S) (hm : m ≤ n) : TxtAt w a m S := fun i hi => h i (by omega)
theorem TxtAt.some {w : World} {a : Option Addr} {n : Nat} {S : Nat → ByteArray} (h : TxtAt w a n S) (hn : 0 < n) : ∃ b off, a = some ⟨b, off, none⟩ ∧ ∀ i, i < n → w.cell? ⟨b, off + i, none⟩ = .some (.string (S i)) := by
  obtain ⟨b, off, e, _⟩ := h 0 hn
  refine ⟨b, off, e, fun i hi => ?_⟩
  obtain ⟨b', off', e', hc⟩ := h i hi
  rw [e] at e'
  simp at e'
  obtain ⟨rfl, rfl⟩ := e'
  exact hc
/-- Texts in a row. -/
def sL (S : Nat → ByteArray) (n : Nat) : List Value := (List.range n).map fun i => Value.string (S i)
theorem sL_len (S : Nat → ByteArray) (n : Nat) : (sL S n).length = n := by simp [sL]
theorem sL_get (S : Nat → ByteArray) (n i : Nat) (h : i < n) : (sL S n)[i]? = some (Value.string (S i)) := by simp [sL, h]
theorem sL_congr {S S' : Nat → ByteArray} {n : Nat} (h : ∀ i, i < n → S i = S' i) : sL S n = sL S' n := by
  unfold sL
  apply List.map_congr_left
  intro i hi
  rw [h i (List.mem_range.1 hi)]
theorem sL_snoc (S : Nat → ByteArray) (n : Nat) : sL S (n + 1) = sL S n ++ [Value.string (S n)] := by
  unfold sL
  rw [List.range_succ, List.map_append]
  rfl
theorem sL_set (S : Nat → ByteArray) (n k : Nat) (s : ByteArray) (h : k < n) : (sL S n).set k (.string s) = sL (fun i => if i = k then s else S i) n := by
  apply List.ext_getElem?
  intro i
  rw [List.getElem?_set]
  by_cases hi : i < n
  · by_cases e : k = i
    · subst e; simp [sL, h]
    · simp [sL, hi, e, Ne.symm e]
  · by_cases e : k = i
    · omega
    · rw [if_neg e, List.getElem?_eq_none (by rw [sL_len]; omega), List.getElem?_eq_none (by rw [sL_len]; omega)]
theorem sL_empty (n : Nat) : sL (fun _ => ByteArray.empty) n = List.replicate n (Value.string ByteArray.empty) := by
  apply List.ext_getElem?
  intro i
  by_cases hi : i < n
  · rw [sL_get _ _ _ hi]; simp [hi]
  · rw [List.getElem?_eq_none (by rw [sL_len]; omega), List.getElem?_eq_none (by simp; omega)]
/-- A list of texts of ours. -/
def OwnT (w : World) (B : Nat) (a : Option Addr) (n cap : Nat) (S : Nat → ByteArray) : Prop := w.ownsRow B 9 1 (.slice a n cap) n (sL S n)
theorem OwnT.at {w : World} {B : Nat} {a : Option Addr} {n cap : Nat} {S : Nat → ByteArray} (h : OwnT w B a n cap S) : TxtAt w a n S := by
  intro i hi
  rcases own_shape h with ⟨rfl, rfl, rfl⟩ | ⟨g, cur, rfl, _⟩
  · omega
  · exact ⟨g, 0, rfl, by rw [Nat.zero_add, h.cellAt i (by omega), sL_get _ _ _ hi]⟩
theorem OwnT.below {w w' : World} {B : Nat} {a : Option Addr} {n cap : Nat} {S : Nat → ByteArray} (h : OwnT w B a n cap S) (hb : Below w.heap.size w w') : OwnT w' B a n cap S := ownsRow_below h hb
theorem OwnT.congr {w : World} {B : Nat} {a : Option Addr} {n cap : Nat} {S S' : Nat → ByteArray} (h : OwnT w B a n cap S) (e : ∀ i, i < n → S i = S' i) : OwnT w B a n cap S' := by
  unfold OwnT at *
  rw [← sL_congr e]
  exact h
theorem OwnT.base {w : World} {B B' : Nat} {a : Option Addr} {n cap : Nat} {S : Nat → ByteArray} (h : OwnT w B a n cap S) (hB : B' ≤ B) : OwnT w B' a n cap S := own_base h hB
theorem OwnT.nil (w : World) (B : Nat) (S : Nat → ByteArray) : OwnT w B none 0 0 S := World.ownsRow_nil w B _ _
theorem litT (w : World) (S : Nat → ByteArray) : OwnT (w.alloc (.cells #[] 9)) w.heap.size (some ⟨w.heap.size, 0, none⟩) 0 0 S :=
  World.ownsRow_lit w #[] 0 (Nat.le_refl _) (by unfold maxLen; omega) rfl
/-- A list of texts that was answered, in new memory. -/
def ResT (w w' : World) (v : Value) (n : Nat) (S : Nat → ByteArray) : Prop := ∃ a cap, v = .slice a n cap ∧ OwnT w' w.heap.size a n cap S
theorem ResT.none (w w' : World) (S : Nat → ByteArray) : ResT w w' (.slice none 0 0) 0 S := ⟨_, _, rfl, OwnT.nil _ _ _⟩
theorem ResT.congr {w w' : World} {v : Value} {n : Nat} {S S' : Nat → ByteArray} (h : ResT w w' v n S) (e : ∀ i, i < n → S i = S' i) : ResT w w' v n S' := by
  obtain ⟨a, cap, rfl, ho⟩ := h
  exact ⟨a, cap, rfl, ho.congr e⟩
theorem ba_beq (s : ByteArray) : (s.toList == s.toList) = true := by simp
theorem ba_ne {s u : ByteArray} (h : s ≠ u) : (s.toList == u.toList) = false := by
  rw [ByteArray.toList_eq, ByteArray.toList_eq]
  simp only [beq_eq_false_iff_ne, ne_eq]
  intro e
  exact h (ByteArray.ext (Array.toList_inj.1 e))

set_option maxHeartbeats 1000000 in
theorem eqT_same (a b : Option Addr) (n ca cb : Nat) (S : Nat → ByteArray) (w : World) (ha : TxtAt w a n S) (hb : TxtAt w b n S) (hn : n ≤ 1048576) :
    Calls Try.prog 54 #[.slice a n ca, .slice b n cb] w fun e w' => e = .returned (.bool true) ∧ Below w.heap.size w w' := by
  go_enter Try.func54, Try.ntmps54
  go_wp2
  go_loopw [5] (fun i wr => ∃ k : Nat, k ≤ n ∧ i = .int .i64 k ∧ Below w.heap.size w wr) (fun i _ => n - (intOf i).toNat)
  case atStart => exact ⟨0, Nat.zero_le _, rfl, Below.refl _ _⟩
  case round =>
    obtain ⟨k, hk, rfl, hbel⟩ := hrel
    have ha' := ha.below hbel
    have hb' := hb.below hbel
    clear ha hb
    by_cases hlt : k < n
    · obtain ⟨ba, oa, rfl, hca⟩ := ha' k hlt
      obtain ⟨bb, ob, rfl, hcb⟩ := hb' k hlt
      have hlti : (k : Int) < (n : Int) := by omega
      clear ha' hb'
      generalize S k = s at hca hcb
      have hbq := ba_beq s
      go_wp2
      go_quiet (fail)
      go_wp2
      go_roundw
      case rel => exact ⟨k + 1, by omega, by go_num, below_drewN hbel _⟩
      case measure => simp [intOf]; omega
    · go_wp2
      go_ret
      exact ⟨rfl, hbel⟩
set_option maxHeartbeats 1000000 in
theorem sameT_same (a b : Option Addr) (n ca cb : Nat) (S : Nat → ByteArray) (w : World) (ha : TxtAt w a n S) (hb : TxtAt w b n S) (hn : n ≤ 1048576) :
    Calls Try.prog 37 #[.slice a n ca, .slice b n cb] w fun e w' => e = .returned (.bool true) ∧ Below w.heap.size w w' := by
  go_enter Try.func37, Try.ntmps37
  go_wp2
  go_loopw [5] (fun i wr => ∃ k : Nat, k ≤ n ∧ i = .int .i64 k ∧ Below w.heap.size w wr) (fun i _ => n - (intOf i).toNat)
  case atStart => exact ⟨0, Nat.zero_le _, rfl, Below.refl _ _⟩
  case round =>
    obtain ⟨k, hk, rfl, hbel⟩ := hrel
    have ha' := ha.below hbel
    have hb' := hb.below hbel
    clear ha hb
    by_cases hlt : k < n
    · obtain ⟨ba, oa, rfl, hca⟩ := ha' k hlt
      obtain ⟨bb, ob, rfl, hcb⟩ := hb' k hlt
      have hlti : (k : Int) < (n : Int) := by omega
      clear ha' hb'
      generalize S k = s at hca hcb
      have hbq := ba_beq s
      go_wp2
      go_quiet (fail)
      go_wp2
      go_roundw
      case rel => exact ⟨k + 1, by omega, by go_num, below_drewN hbel _⟩
      case measure => simp [intOf]; omega
    · go_wp2
      go_ret
      exact ⟨rfl, hbel⟩
set_option maxHeartbeats 1000000 in
theorem toT_any (a : Option Addr) (n cap : Nat) (S : Nat → ByteArray) (w : World) (h : TxtAt w a n S) (hn : n ≤ 1048576) :
    Calls Try.prog 59 #[.slice a n cap] w fun e w' => e = .returned (.slice (some ⟨w.heap.size, 0, none⟩) n n) ∧ OwnT w' w.heap.size (some ⟨w.heap.size, 0, none⟩) n n S ∧ Below w.heap.size w w' := by
  obtain ⟨i0, hi, hz0, hz1, hz2⟩ := info_parts Try.infoStr
  have KH : Hid (TxtAt w a n S) := h
  clear h
  go_enter Try.func59, Try.ntmps59
  go_wp2_with (at_make; refine wpList_make_full _ rfl _ _ 44 rfl w.heap.size 9 i0 (.string ByteArray.empty) 1 Try.underlying44 hi hz0 hz1 .i64 .i64 _ _ n rfl rfl rfl rfl (by rw [hz2]; omega) (by unfold maxLen; omega) (Nat.le_refl _) ?_; intro w1 hown hgrow)
  have hb1 : Below w.heap.size w w1 := (Below.refl _ _).grown hgrow (Nat.le_refl _) (by simp)
  have ho1 : OwnT w1 w.heap.size (some ⟨w.heap.size, 0, none⟩) n n (fun i => if i < 0 then S i else ByteArray.empty) := by
    have e : sL (fun i => if i < 0 then S i else ByteArray.empty) n = List.replicate n (Value.string ByteArray.empty) := by rw [← sL_empty]; exact sL_congr (fun i _ => by simp)
    unfold OwnT
    rw [e]
    simpa [Value.cells, toList_madeCells_one] using hown
  clear hown hgrow
  go_loopw [4] (fun i wr => ∃ k : Nat, k ≤ n ∧ i = .int .i64 k ∧ OwnT wr w.heap.size (some ⟨w.heap.size, 0, none⟩) n n (fun i => if i < k then S i else ByteArray.empty) ∧ Below w.heap.size w wr) (fun i _ => n - (intOf i).toNat)
  case atStart => exact ⟨0, Nat.zero_le _, rfl, ho1, hb1⟩
  case round =>
    obtain ⟨k, hk, rfl, hown, hbel⟩ := hrel
    clear ho1 hb1
    by_cases hlt : k < n
    · obtain ⟨b, off, rfl, hc⟩ := KH.out.below hbel k hlt
      have hlti : (k : Int) < (n : Int) := by omega
      obtain ⟨old, hold⟩ : ∃ v, wr.cell? ⟨w.heap.size, k, none⟩ = some v := by
        rw [World.ownsRow.cellAt hown k (by omega)]
        exact ⟨_, sL_get _ _ _ hlt⟩
      have hfr := World.ownsRow.frozenAt hown k
      have hst := World.ownsRow.stored hown k (.string (S k))
      rw [sL_set _ _ _ _ hlt] at hst
      have HO : Hid (OwnT (wr.setCell ⟨w.heap.size, k, none⟩ (.string (S k))) w.heap.size (some ⟨w.heap.size, 0, none⟩) n n (fun i => if i < k + 1 then S i else ByteArray.empty)) := OwnT.congr hst.1 (fun i _ => by
        by_cases e : i = k
        · simp [e]
        · by_cases e2 : i < k
          · simp [e, e2, show i < k + 1 by omega]
          · simp [e, e2, show ¬ i < k + 1 by omega])
      have hne : Below w.heap.size w (wr.setCell ⟨w.heap.size, k, none⟩ (.string (S k))) := hbel.setCell (Nat.le_refl _) _
      clear hst hown
      go_wp2
      go_roundw
      case rel => exact ⟨k + 1, by omega, by go_num, HO.out, hne⟩
      case measure => simp [intOf]; omega
    · obtain rfl : k = n := by omega
      have HO : Hid (OwnT wr w.heap.size (some ⟨w.heap.size, 0, none⟩) k k S) := hown.congr (fun i hi => if_pos hi)
      clear hown
      go_wp2
      go_ret
      exact ⟨rfl, HO.out, hbel⟩
set_option maxHeartbeats 1000000 in
theorem szT_any (a : Option Addr) (n cap : Nat) (S : Nat → ByteArray) (l : Nat) (w : World) (h : TxtAt w a n S) (hl : l ≤ 1048576) (hn : n ≤ maxLen) (hL : ∀ i, i < n → (S i).size ≤ maxLen) :
    Calls Try.prog 57 #[.slice a n cap, .int .i64 (l : Int)] w fun e w' => e = .returned (.int .i64 (szF (fun i => (S i).size) n l)) ∧ w' = w := by
  unfold maxLen at hn hL
  by_cases h1 : n ≤ l
  · obtain ⟨d, hd⟩ : ∃ d, l - n = d := ⟨_, rfl⟩
    have hw : IntKind.i64.wrap ((l : Int) - (n : Int)) = (d : Int) := by rw [IntKind.wrap_i64]; omega
    have h0 : ¬ ((d : Int) < 0) := by omega
    have KL : Hid _ := hL
    have KH : Hid (TxtAt w a n S) := h
    clear hL h
    go_enter Try.func57, Try.ntmps57
    go_wp2
    go_loop [1, 5] (fun p i => ∃ c q : Nat, c ≤ n ∧ q ≤ 1048576 ∧ Hid (tot (fun i => (S i).size) c + q = d) ∧ p = .int .i64 (q : Int) ∧ i = .int .i64 (c : Int)) (fun _ i => n - (intOf i).toNat)
    case atStart => exact ⟨0, d, Nat.zero_le _, by omega, by show 0 + d = d; omega, rfl, rfl⟩
    case round =>
      obtain ⟨c, q, hc, hq, HT, rfl, rfl⟩ := hrel
      clear hw h0
      by_cases hlt : c < n
      · obtain ⟨b, off, rfl, hcell⟩ := KH.out c hlt
        have hLc := KL.out c hlt
        have hti := tot_le (fun i => (S i).size) hlt
        have hlti : (c : Int) < (n : Int) := by omega
        have HT' := HT.out
        obtain ⟨s, hs⟩ : ∃ s, S c = s := ⟨_, rfl⟩
        have hti' : tot (fun i => (S i).size) c + s.size ≤ tot (fun i => (S i).size) n := by rw [← hs]; exact hti
        have KTS : Hid (tot (fun i => (S i).size) (c + 1) = tot (fun i => (S i).size) c + s.size) := by rw [← hs]; rfl
        rw [hs] at hcell hLc
        obtain ⟨lc, hlc⟩ : ∃ lc, s.size = lc := ⟨_, rfl⟩
        rw [hlc] at hLc hti' KTS
        clear hti hs
        by_cases h2 : lc ≤ q
        · obtain ⟨q', hq'⟩ : ∃ q', q - lc = q' := ⟨_, rfl⟩
          have hw2 : IntKind.i64.wrap ((q : Int) - (lc : Int)) = (q' : Int) := by rw [IntKind.wrap_i64]; omega
          have h3 : ¬ ((q' : Int) < 0) := by omega
          have HT2 : Hid (tot (fun i => (S i).size) (c + 1) + q' = d) := by show _ = _; rw [KTS.out]; omega
          have hq2 : q' ≤ 1048576 := by omega
          clear HT HT' hti' KTS
          go_wp2
          go_round
          case rel => exact ⟨c + 1, q', by omega, hq2, HT2, rfl, by go_num⟩
          case measure => simp [intOf] <;> omega
        · have hw2 : IntKind.i64.wrap ((q : Int) - (lc : Int)) = (q : Int) - (lc : Int) := by rw [IntKind.wrap_i64]; omega
          have h3 : (q : Int) - (lc : Int) < 0 := by omega
          have HR : Hid (szF (fun i => (S i).size) n l = -1) := by
            show _ = _
            unfold szF
            rw [if_neg (by omega)]
          clear HT HT' hti' KTS
          go_wp2
          go_ret
          exact ⟨ret_int HR.out.symm, rfl⟩
      · obtain rfl : c = n := by omega
        have HR : Hid (szF (fun i => (S i).size) c l = (q : Int)) := by
          have := HT.out
          show _ = _
          unfold szF
          rw [if_pos (by omega)]
          omega
        clear KH
        go_wp2
        go_ret
        exact ⟨ret_int HR.out.symm, rfl⟩
  · have h0 : (l : Int) - (n : Int) < 0 := by omega
    have hw : IntKind.i64.wrap ((l : Int) - (n : Int)) = (l : Int) - (n : Int) := by rw [IntKind.wrap_i64]; omega
    have HR : Hid (szF (fun i => (S i).size) n l = -1) := by show _ = _; unfold szF; rw [if_neg (by omega)]
    clear h hL
    go_enter Try.func57, Try.ntmps57
    go_wp2
    go_ret
    exact ⟨ret_int HR.out.symm, rfl⟩
end Go.Proofs.Ytmggogdnfgkljaa

/- How long each body is, in the program and in its model, at every two numbers. No condition. -/
namespace Go.Proofs.Ytmggogdnfgkljaa
open Go.ChangeShapes Go.WideShapes Go.ChangeAt Go.RowKit

def blOk (s k : Int) : Bool := decide (0 ≤ s ∧ s ≤ 2000) && side k
def blI (s k : Int) : Int := if blOk s k = true then ((blen s.toNat k.toNat : Nat) : Int) else -1
theorem blI_yes {s k : Nat} (hs : s ≤ 2000) (hk : 1 ≤ k) (hk2 : k ≤ 16) : blI (s : Int) (k : Int) = ((blen s k : Nat) : Int) := by
  unfold blI
  rw [if_pos (by unfold blOk side; simp; omega)]
  simp
theorem blI_no {s k : Int} (h : ¬ (0 ≤ s ∧ s ≤ 2000 ∧ 1 ≤ k ∧ k ≤ 16)) : blI s k = -1 := by
  unfold blI
  rw [if_neg]
  unfold blOk side
  simp
  omega
theorem quo_blen {s k : Nat} (_hk : 1 ≤ k) : Int.tdiv ((s : Int) + 2 + (k : Int) - 1) (k : Int) = ((blen s k : Nat) : Int) := by
  unfold blen
  rw [show (s : Int) + 2 + (k : Int) - 1 = ((s + 2 + k - 1 : Nat) : Int) by omega, ← Int.ofNat_tdiv]
set_option maxHeartbeats 1000000 in
theorem bodyLen_any (s k : Int) (w : World) : Calls Try.prog 38 #[.int .i64 s, .int .i64 k] w fun e w' => e = .returned (.int .i64 (blI s k)) ∧ w' = w := by
  by_cases h : 0 ≤ s ∧ s ≤ 2000 ∧ 1 ≤ k ∧ k ≤ 16
  · obtain ⟨h1, h2, h3, h4⟩ := h
    obtain ⟨S, rfl⟩ := Int.eq_ofNat_of_zero_le h1
    obtain ⟨K, rfl⟩ := Int.eq_ofNat_of_zero_le (show 0 ≤ k by omega)
    have hsd : side (K : Int) = true := by rw [side_nat]; simp; omega
    have HB : Hid (blI (S : Int) (K : Int) = ((blen S K : Nat) : Int)) := blI_yes (by omega) (by omega) (by omega)
    have hq := quo_blen (s := S) (k := K) (by omega)
    have h1' : ¬ (S : Int) < 0 := by omega
    have h2' : ¬ (S : Int) > 2000 := by omega
    have hw1 : IntKind.i64.wrap (2 + (S : Int)) = (S : Int) + 2 := by rw [IntKind.wrap_i64]; omega
    have hw2 : IntKind.i64.wrap ((S : Int) + 2 + (K : Int)) = (S : Int) + 2 + (K : Int) := by rw [IntKind.wrap_i64]; omega
    have hw3 : IntKind.i64.wrap ((S : Int) + 2 + (K : Int) - 1) = (S : Int) + 2 + (K : Int) - 1 := by rw [IntKind.wrap_i64]; omega
    have hbl := blen_le (s := S) (k := K) (by omega)
    have hw4 : IntKind.i64.wrap ((blen S K : Nat) : Int) = ((blen S K : Nat) : Int) := by rw [IntKind.wrap_i64]; omega
    have hk0 : ((K : Int) == 0) = false := by simp; omega
    have hk0' : ¬ ((K : Int) = 0) := by omega
    generalize blen S K = b at hq hw4 HB
    go_enter Try.func38, Try.ntmps38
    go_wp2_with (go_at_call 77; refine (isSide_any _ _).mono ?_; rintro e w' ⟨rfl, hw⟩; obtain rfl := hw.symm)
    go_ret
    exact ⟨ret_int (by rw [HB.out] <;> simp [*]), rfl⟩
  · have HB : Hid (blI s k = -1) := blI_no h
    by_cases h1 : s < 0
    · go_enter Try.func38, Try.ntmps38
      go_wp2
      go_ret
      exact ⟨ret_int HB.out.symm, rfl⟩
    · by_cases h2 : s > 2000
      · go_enter Try.func38, Try.ntmps38
        go_wp2
        go_ret
        exact ⟨ret_int HB.out.symm, rfl⟩
      · have hsd : side k = false := by unfold side; simp; omega
        go_enter Try.func38, Try.ntmps38
        go_wp2_with (go_at_call 77; refine (isSide_any _ _).mono ?_; rintro e w' ⟨rfl, hw⟩; obtain rfl := hw.symm)
        go_ret
        exact ⟨ret_int HB.out.symm, rfl⟩
set_option maxHeartbeats 1000000 in
theorem sBodyLen_any (s k : Int) (w : World) : Calls Try.prog 53 #[.int .i64 s, .int .i64 k] w fun e w' => e = .returned (.int .i64 (blI s k)) ∧ w' = w := by
  by_cases h : 0 ≤ s ∧ s ≤ 2000 ∧ 1 ≤ k ∧ k ≤ 16
  · obtain ⟨h1, h2, h3, h4⟩ := h
    obtain ⟨S, rfl⟩ := Int.eq_ofNat_of_zero_le h1
    obtain ⟨K, rfl⟩ := Int.eq_ofNat_of_zero_le (show 0 ≤ k by omega)
    have hi1 : inB (S : Int) 0 2000 = true := by unfold inB; simp; omega
    have hi2 : inB (K : Int) 1 16 = true := by unfold inB; simp; omega
    have HB : Hid (blI (S : Int) (K : Int) = ((blen S K : Nat) : Int)) := blI_yes (by omega) (by omega) (by omega)
    have hq := quo_blen (s := S) (k := K) (by omega)
    have hw1 : IntKind.i64.wrap ((S : Int) + 2) = (S : Int) + 2 := by rw [IntKind.wrap_i64]; omega
    have hw2 : IntKind.i64.wrap ((S : Int) + 2 + (K : Int)) = (S : Int) + 2 + (K : Int) := by rw [IntKind.wrap_i64]; omega
    have hw3 : IntKind.i64.wrap ((S : Int) + 2 + (K : Int) - 1) = (S : Int) + 2 + (K : Int) - 1 := by rw [IntKind.wrap_i64]; omega
    have hbl := blen_le (s := S) (k := K) (by omega)
    have hw4 : IntKind.i64.wrap ((blen S K : Nat) : Int) = ((blen S K : Nat) : Int) := by rw [IntKind.wrap_i64]; omega
    have hk0 : ((K : Int) == 0) = false := by simp; omega
    have hk0' : ¬ ((K : Int) = 0) := by omega
    generalize blen S K = b at hq hw4 HB
    go_enter Try.func53, Try.ntmps53
    go_wp2_with (go_at_call 75; refine (sIn_any _ _ _ _).mono ?_; rintro e w' ⟨rfl, hw⟩; obtain rfl := hw.symm)
    go_ret
    exact ⟨ret_int (by rw [HB.out] <;> simp [*]), rfl⟩
  · have HB : Hid (blI s k = -1) := blI_no h
    by_cases h1 : 0 ≤ s ∧ s ≤ 2000
    · have hi1 : inB s 0 2000 = true := by unfold inB; simp; omega
      have hi2 : inB k 1 16 = false := by unfold inB; simp; omega
      go_enter Try.func53, Try.ntmps53
      go_wp2_with (go_at_call 75; refine (sIn_any _ _ _ _).mono ?_; rintro e w' ⟨rfl, hw⟩; obtain rfl := hw.symm)
      go_ret
      exact ⟨ret_int HB.out.symm, rfl⟩
    · have hi1 : inB s 0 2000 = false := by unfold inB; simp; omega
      go_enter Try.func53, Try.ntmps53
      go_wp2_with (go_at_call 75; refine (sIn_any _ _ _ _).mono ?_; rintro e w' ⟨rfl, hw⟩; obtain rfl := hw.symm)
      go_ret
      exact ⟨ret_int HB.out.symm, rfl⟩
end Go.Proofs.Ytmggogdnfgkljaa

/- The program's sums of a row: pieces, or texts, each times its number. Conditions: at most 16 parts, at most 2^20 bytes each. -/
namespace Go.Proofs.Ytmggogdnfgkljaa
open Go.ChangeShapes Go.WideShapes Go.ChangeAt Go.RowKit

/-- A row of bytes of ours. -/
def OwnB (w : World) (B g n cap : Nat) (f : Nat → Nat) : Prop := w.ownsRow B 5 1 (.slice (some ⟨g, 0, none⟩) n cap) n ((eI f n).map (Value.int .u8))
theorem OwnB.lt {w : World} {B g n cap : Nat} {f : Nat → Nat} (h : OwnB w B g n cap f) : B ≤ g ∧ g < w.heap.size := World.ownsRow.lt h g rfl
theorem OwnB.cell {w : World} {B g n cap i : Nat} {f : Nat → Nat} (h : OwnB w B g n cap f) (hi : i < n) : w.cell? ⟨g, i, none⟩ = some (.int .u8 ((f i : Nat) : Int)) := by
  rw [World.ownsRow.cellAt h i (by omega)]
  simp [eI, hi]
theorem OwnB.below {w w' : World} {B g n cap : Nat} {f : Nat → Nat} (h : OwnB w B g n cap f) (hb : Below w.heap.size w w') : OwnB w' B g n cap f := ownsRow_below h hb
theorem OwnB.congr {w : World} {B g n cap : Nat} {f h : Nat → Nat} (ho : OwnB w B g n cap f) (e : ∀ i, i < n → f i = h i) : OwnB w B g n cap h := by
  unfold OwnB at *
  rw [← eI_congr e]
  exact ho
theorem OwnB.set {w : World} {B g n cap k v : Nat} {f : Nat → Nat} (h : OwnB w B g n cap f) (hk : k < n) :
    OwnB (w.setCell ⟨g, k, none⟩ (.int .u8 (v : Int))) B g n cap (fun i => if i = k then v else f i) ∧ w.grownBy (w.setCell ⟨g, k, none⟩ (.int .u8 (v : Int))) (some g) := by
  have h1 := (World.ownsRow.stored h k (.int .u8 (v : Int))).1
  rw [eI_set f n k v .u8 hk] at h1
  exact ⟨h1, grown_set w g k _⟩
/-- What is summed of the first 'i' parts. -/
def rs (R : Nat → Nat) (T : Nat → Nat → Nat) (i p : Nat) : Nat := Gm.sm (fun t => Gp.m (R t) (T t p)) i
theorem rs_lt (R : Nat → Nat) (T : Nat → Nat → Nat) (i p : Nat) : rs R T i p < 256 := Gm.sm_lt (fun _ => Gp.m_lt _ _) _
theorem rs_step {R : Nat → Nat} {T : Nat → Nat → Nat} {i q : Nat} (hR : R i < 256) (hT : T i q < 256) (p : Nat) : (if p = q then rs R T i q ^^^ Gf.mul (T i q) (R i) else if p < q then rs R T (i + 1) p else rs R T i p) = if p < q + 1 then rs R T (i + 1) p else rs R T i p := by
  by_cases e : p = q
  · subst e
    rw [if_pos rfl, if_pos (by omega), Gp.m_nat hT hR, Gp.m_comm]
    rfl
  · rw [if_neg e]
    by_cases e2 : p < q
    · rw [if_pos e2, if_pos (by omega)]
    · rw [if_neg e2, if_neg (by omega)]
/-- Pieces that are read. -/
def PcsAt (w : World) (a : Option Addr) (n l : Nat) (T : Nat → Nat → Nat) : Prop :=
  ∀ i, i < n → ∃ b off g o c, a = some ⟨b, off, none⟩ ∧ w.cell? ⟨b, off + i, none⟩ = some (.slice (some ⟨g, o, none⟩) l c) ∧ ∀ p, p < l → w.cell? ⟨g, o + p, none⟩ = some (.int .u8 ((T i p : Nat) : Int))
theorem PcsAt.below {w w' : World} {a : Option Addr} {n l : Nat} {T : Nat → Nat → Nat} (h : PcsAt w a n l T) (hb : Below w.heap.size w w') : PcsAt w' a n l T := fun i hi => by
  obtain ⟨b, off, g, o, c, e, hc, hp⟩ := h i hi
  exact ⟨b, off, g, o, c, e, (hb.cell (p := ⟨b, off + i, none⟩) (block_lt_of_cell hc)).trans hc, fun p hpl => (hb.cell (p := ⟨g, o + p, none⟩) (block_lt_of_cell (hp p hpl))).trans (hp p hpl)⟩

set_option maxRecDepth 100000 in
set_option maxHeartbeats 4000000 in
theorem rowSumB_any (ra : Option Addr) (rc : Nat) (R : Nat → Nat) (a : Option Addr) (cp n l : Nat) (T : Nat → Nat → Nat) (w : World) (hr : IntsAt w ra n (eI R n)) (h : PcsAt w a n l T) (hT : Gm.Byt T) (hn : 1 ≤ n ∧ n ≤ 16) (hl : 1 ≤ l ∧ l ≤ 1048576) (hR : ∀ i, R i < 256) :
    Calls Try.prog 118 #[.slice ra n rc, .slice a n cp] w fun e w' => e = .returned (.slice (some ⟨w.heap.size, 0, none⟩) l l) ∧ OwnB w' w.heap.size w.heap.size l l (rs R T n) ∧ Below w.heap.size w w' := by
  obtain ⟨i0, hi, hz0, hz1, hz2⟩ := info_parts Try.infoByte
  obtain ⟨hn1, hn16⟩ := hn
  obtain ⟨hl1, hl20⟩ := hl
  have KH : Hid (PcsAt w a n l T) := h
  have KR : Hid (IntsAt w ra n (eI R n)) := hr
  have hn0' : 0 < n := by omega
  obtain ⟨b0, off0, g00, o00, c00, rfl, hc0, _⟩ := h 0 hn0'
  rw [Nat.add_zero] at hc0
  clear h hr
  go_enter Try.func118, Try.ntmps118
  go_wp2_with (at_make; refine wpList_make_full _ rfl _ _ 22 rfl w.heap.size 5 i0 (.int .u8 0) 1 Try.underlying22 hi hz0 hz1 .i64 .i64 _ _ l rfl rfl rfl rfl (by rw [hz2]; omega) (by unfold maxLen; omega) (Nat.le_refl _) ?_; intro w1 hown hgrow)
  have hb1 : Below w.heap.size w w1 := (Below.refl _ _).grown hgrow (Nat.le_refl _) (by simp)
  have ho1 : OwnB w1 w.heap.size w.heap.size l l (rs R T 0) := by
    unfold OwnB
    rw [eI_const (f := rs R T 0) l 0 (fun _ _ => rfl)]
    simpa [Value.cells, toList_madeCells_one] using hown
  have K1 : Hid (OwnB w1 w.heap.size w.heap.size l l (rs R T 0)) := ho1
  have KB1 : Hid (Below w.heap.size w w1) := hb1
  clear hown hgrow ho1 hb1 hi hz0 hz1 hz2 hc0
  go_loopw [17] (fun i wr => ∃ k : Nat, k ≤ n ∧ i = .int .i64 k ∧ OwnB wr w.heap.size w.heap.size l l (rs R T k) ∧ Below w.heap.size w wr) (fun i _ => n - (intOf i).toNat)
  case atStart => exact ⟨0, Nat.zero_le _, rfl, K1.out, KB1.out⟩
  case round =>
    obtain ⟨k, hk, rfl, hown, hbel⟩ := hrel
    clear K1 KB1
    by_cases hlt : k < n
    · have hki : (k : Int) < (n : Int) := by omega
      obtain ⟨b1, off1, g1, o1, c1, eb, hc1w, hp1⟩ := KH.out k hlt
      cases eb
      have hc1 := (hbel.cell (p := ⟨b0, off0 + k, none⟩) (block_lt_of_cell hc1w)).trans hc1w
      have KP : Hid (∀ p, p < l → w.cell? ⟨g1, o1 + p, none⟩ = some (.int .u8 ((T k p : Nat) : Int))) := hp1
      clear hp1 hc1w
      obtain ⟨br, offr, rfl, hcr⟩ := (KR.out.below hbel).2 k hlt
      rw [eI_getD _ _ _ hlt] at hcr
      have hRk := hR k
      obtain ⟨X, hX⟩ : ∃ X, R k = X := ⟨_, rfl⟩
      have KX : Hid (R k = X) := hX
      rw [hX] at hcr hRk
      clear hX
      have hwx : IntKind.u8.wrap (X : Int) = (X : Int) := by rw [IntKind.wrap_u8]; omega
      have hszw := hbel.size
      by_cases hx0 : X = 0
      · subst hx0
        have HO : Hid (OwnB wr w.heap.size w.heap.size l l (rs R T (k + 1))) := hown.congr (fun p _ => by unfold rs; rw [Gm.sm_s, KX.out, Gp.zero_m, Nat.xor_zero])
        clear hown
        go_wp2
        go_roundw
        case rel => exact ⟨k + 1, by omega, by go_num, HO.out, hbel⟩
        case measure => simp [intOf] <;> omega
      · have hx0' : ((X : Int) == 0) = false := by simp; omega
        have K2 : Hid (OwnB wr w.heap.size w.heap.size l l (fun p => if p < 0 then rs R T (k + 1) p else rs R T k p)) := hown.congr (fun p _ => by simp)
        have KB2 : Hid (Below w.heap.size w wr) := hbel
        have hbel0 := hbel
        clear hown hbel
        go_wp2
        go_loopw [31] (fun i wr => ∃ q : Nat, q ≤ l ∧ i = .int .i64 q ∧ OwnB wr w.heap.size w.heap.size l l (fun p => if p < q then rs R T (k + 1) p else rs R T k p) ∧ Below w.heap.size w wr) (fun i _ => l - (intOf i).toNat)
        case atStart => exact ⟨0, Nat.zero_le _, rfl, K2.out, KB2.out⟩
        case round =>
          obtain ⟨q, hq, rfl, hown, hbel⟩ := hrel
          clear K2 KB2
          by_cases hql : q < l
          · have hqi : (q : Int) < (l : Int) := by omega
            have hcp := (hbel.cell (p := ⟨g1, o1 + q, none⟩) (block_lt_of_cell (KP.out q hql))).trans (KP.out q hql)
            have hcs := hown.cell hql
            simp only [Nat.lt_irrefl, if_false] at hcs
            have hfs := World.ownsRow.frozenAt hown q
            have hsl := rs_lt R T k q
            have KS : Hid (∀ p, (if p = q then rs R T k q ^^^ Gf.mul (T k q) (R k) else if p < q then rs R T (k + 1) p else rs R T k p) = if p < q + 1 then rs R T (k + 1) p else rs R T k p) := fun p => rs_step (hR k) (hT k q) p
            rw [KX.out] at KS
            have KO : Hid (OwnB wr w.heap.size w.heap.size l l (fun p => if p < q then rs R T (k + 1) p else rs R T k p)) := hown
            obtain ⟨Y, hY⟩ : ∃ Y, rs R T k q = Y := ⟨_, rfl⟩
            rw [hY] at hcs hsl KS
            have hVl := hT k q
            generalize T k q = V at hcp hVl KS
            have hml := Gf.mul_lt hVl hRk
            have hgl := hown.lt.2
            have KB : Hid (Below w.heap.size w wr) := hbel
            clear hown hY hbel
            go_wp2_with fail
            go_region_with ((first | (go_at_call 80; refine (times_any V X _ hVl hRk).mono ?_; rintro e w5 ⟨rfl, hb5'⟩; have hb5 := below_of_drew hb5'; clear hb5'; have hcs5 := (hb5.cell (p := ⟨w.heap.size, q, none⟩) hgl).trans hcs; have hfs5 := (World.frozen?_of_block (a := ⟨w.heap.size, q, none⟩) (hb5.block _ hgl)).trans hfs; have hcp5 := (hb5.cell (p := ⟨g1, o1 + q, none⟩) (block_lt_of_cell hcp)).trans hcp) | (go_at_call 79; refine (plus_any Y (Gf.mul V X) _ hsl hml).mono ?_; rintro e w6 ⟨rfl, hw6⟩; obtain rfl := hw6.symm)))
            all_goals
              have hS := OwnB.set (k := q) (v := Y ^^^ Gf.mul V X) (KO.out.below hb5) hql
              have HO : Hid (OwnB (w5.setCell ⟨w.heap.size, q, none⟩ (.int .u8 ((Y ^^^ Gf.mul V X : Nat) : Int))) w.heap.size w.heap.size l l (fun p => if p < q + 1 then rs R T (k + 1) p else rs R T k p)) := hS.1.congr (fun p _ => KS.out p)
              have HB : Hid (Below w.heap.size w (w5.setCell ⟨w.heap.size, q, none⟩ (.int .u8 ((Y ^^^ Gf.mul V X : Nat) : Int)))) := (below2 KB.out hb5).setCell (Nat.le_refl _) _
              clear hS hcs hfs hcs5 hfs5 KO KS KB
              go_wp2
              go_roundw
              case rel => exact ⟨q + 1, by omega, by go_num, HO.out, HB.out⟩
              case measure => simp [intOf] <;> omega
          · obtain rfl : q = l := by omega
            have HO : Hid (OwnB wr w.heap.size w.heap.size q q (rs R T (k + 1))) := hown.congr (fun p hp => if_pos hp)
            clear hown
            go_wp2
            go_roundw
            case rel => exact ⟨k + 1, by omega, by go_num, HO.out, hbel⟩
            case measure => simp [intOf] <;> omega
    · obtain rfl : k = n := by omega
      have HO : Hid _ := hown
      clear hown
      go_wp2
      go_ret
      exact ⟨rfl, HO.out, hbel⟩
end Go.Proofs.Ytmggogdnfgkljaa

/- The program's sums of a row over texts. Conditions: at most 16 texts, at most 2^20 bytes each. -/
namespace Go.Proofs.Ytmggogdnfgkljaa
open Go.ChangeShapes Go.WideShapes Go.ChangeAt Go.RowKit

set_option maxRecDepth 100000 in
set_option maxHeartbeats 4000000 in
theorem rowSumS_any (ra : Option Addr) (rc : Nat) (R : Nat → Nat) (a : Option Addr) (cp n l : Nat) (S : Nat → ByteArray) (w : World) (hr : IntsAt w ra n (eI R n)) (h : TxtAt w a n S) (hS : ∀ i, i < n → (S i).size = l) (hn : 1 ≤ n ∧ n ≤ 16) (hl : 1 ≤ l ∧ l ≤ 1048576) (hR : ∀ i, R i < 256) :
    Calls Try.prog 98 #[.slice ra n rc, .slice a n cp] w fun e w' => e = .returned (.slice (some ⟨w.heap.size, 0, none⟩) l l) ∧ OwnB w' w.heap.size w.heap.size l l (rs R (fun i p => tat (S i) p) n) ∧ Below w.heap.size w w' := by
  obtain ⟨i0, hi, hz0, hz1, hz2⟩ := info_parts Try.infoByte
  obtain ⟨hn1, hn16⟩ := hn
  obtain ⟨hl1, hl20⟩ := hl
  have KH : Hid (TxtAt w a n S) := h
  have KR : Hid (IntsAt w ra n (eI R n)) := hr
  have hn0' : 0 < n := by omega
  obtain ⟨b0, off0, rfl, hc0⟩ := h 0 hn0'
  rw [Nat.add_zero] at hc0
  have hsz0 := hS 0 hn0'
  obtain ⟨s0, hs0⟩ : ∃ s0, S 0 = s0 := ⟨_, rfl⟩
  rw [hs0] at hc0 hsz0
  clear hs0
  clear h hr
  go_enter Try.func98, Try.ntmps98
  go_wp2_with (at_make; refine wpList_make_full _ rfl _ _ 22 rfl w.heap.size 5 i0 (.int .u8 0) 1 Try.underlying22 hi hz0 hz1 .i64 .i64 _ _ l rfl rfl rfl rfl (by rw [hz2]; omega) (by unfold maxLen; omega) (Nat.le_refl _) ?_; intro w1 hown hgrow)
  have hb1 : Below w.heap.size w w1 := (Below.refl _ _).grown hgrow (Nat.le_refl _) (by simp)
  have ho1 : OwnB w1 w.heap.size w.heap.size l l (rs R (fun i p => tat (S i) p) 0) := by
    unfold OwnB
    rw [eI_const (f := rs R (fun i p => tat (S i) p) 0) l 0 (fun _ _ => rfl)]
    simpa [Value.cells, toList_madeCells_one] using hown
  have K1 : Hid (OwnB w1 w.heap.size w.heap.size l l (rs R (fun i p => tat (S i) p) 0)) := ho1
  have KB1 : Hid (Below w.heap.size w w1) := hb1
  clear hown hgrow ho1 hb1 hi hz0 hz1 hz2 hc0
  go_loopw [17] (fun i wr => ∃ k : Nat, k ≤ n ∧ i = .int .i64 k ∧ OwnB wr w.heap.size w.heap.size l l (rs R (fun i p => tat (S i) p) k) ∧ Below w.heap.size w wr) (fun i _ => n - (intOf i).toNat)
  case atStart => exact ⟨0, Nat.zero_le _, rfl, K1.out, KB1.out⟩
  case round =>
    obtain ⟨k, hk, rfl, hown, hbel⟩ := hrel
    clear K1 KB1
    by_cases hlt : k < n
    · have hki : (k : Int) < (n : Int) := by omega
      obtain ⟨b1, off1, eb, hc1w⟩ := KH.out k hlt
      cases eb
      have hc1 := (hbel.cell (p := ⟨b0, off0 + k, none⟩) (block_lt_of_cell hc1w)).trans hc1w
      have hszk := hS k hlt
      obtain ⟨s, hs⟩ : ∃ s, S k = s := ⟨_, rfl⟩
      have KSK : Hid (S k = s) := hs
      rw [hs] at hc1 hszk
      clear hc1w hs
      obtain ⟨br, offr, rfl, hcr⟩ := (KR.out.below hbel).2 k hlt
      rw [eI_getD _ _ _ hlt] at hcr
      have hRk := hR k
      obtain ⟨X, hX⟩ : ∃ X, R k = X := ⟨_, rfl⟩
      have KX : Hid (R k = X) := hX
      rw [hX] at hcr hRk
      clear hX
      have hwx : IntKind.u8.wrap (X : Int) = (X : Int) := by rw [IntKind.wrap_u8]; omega
      have hszw := hbel.size
      by_cases hx0 : X = 0
      · subst hx0
        have HO : Hid (OwnB wr w.heap.size w.heap.size l l (rs R (fun i p => tat (S i) p) (k + 1))) := hown.congr (fun p _ => by unfold rs; rw [Gm.sm_s, KX.out, Gp.zero_m, Nat.xor_zero])
        clear hown
        go_wp2
        go_roundw
        case rel => exact ⟨k + 1, by omega, by go_num, HO.out, hbel⟩
        case measure => simp [intOf] <;> omega
      · have hx0' : ((X : Int) == 0) = false := by simp; omega
        have K2 : Hid (OwnB wr w.heap.size w.heap.size l l (fun p => if p < 0 then rs R (fun i p => tat (S i) p) (k + 1) p else rs R (fun i p => tat (S i) p) k p)) := hown.congr (fun p _ => by simp)
        have KB2 : Hid (Below w.heap.size w wr) := hbel
        have hbel0 := hbel
        clear hown hbel
        go_wp2
        go_loopw [31] (fun i wr => ∃ q : Nat, q ≤ l ∧ i = .int .i64 q ∧ OwnB wr w.heap.size w.heap.size l l (fun p => if p < q then rs R (fun i p => tat (S i) p) (k + 1) p else rs R (fun i p => tat (S i) p) k p) ∧ Below w.heap.size w wr) (fun i _ => l - (intOf i).toNat)
        case atStart => exact ⟨0, Nat.zero_le _, rfl, K2.out, KB2.out⟩
        case round =>
          obtain ⟨q, hq, rfl, hown, hbel⟩ := hrel
          clear K2 KB2
          by_cases hql : q < l
          · have hqi : (q : Int) < (l : Int) := by omega
            have hks : q < s.size := by omega
            have hcs := hown.cell hql
            simp only [Nat.lt_irrefl, if_false] at hcs
            have hfs := World.ownsRow.frozenAt hown q
            have hsl := rs_lt R (fun i p => tat (S i) p) k q
            have KS : Hid (∀ p, (if p = q then rs R (fun i p => tat (S i) p) k q ^^^ Gf.mul ((fun i p => tat (S i) p) k q) (R k) else if p < q then rs R (fun i p => tat (S i) p) (k + 1) p else rs R (fun i p => tat (S i) p) k p) = if p < q + 1 then rs R (fun i p => tat (S i) p) (k + 1) p else rs R (fun i p => tat (S i) p) k p) := fun p => rs_step (hR k) (tat_lt _ _) p
            rw [KX.out] at KS
            have KO : Hid (OwnB wr w.heap.size w.heap.size l l (fun p => if p < q then rs R (fun i p => tat (S i) p) (k + 1) p else rs R (fun i p => tat (S i) p) k p)) := hown
            obtain ⟨Y, hY⟩ : ∃ Y, rs R (fun i p => tat (S i) p) k q = Y := ⟨_, rfl⟩
            rw [hY] at hcs hsl KS
            have hVl := u8_lt s[q]
            have hTV : tat (S k) q = s[q].toNat := by rw [KSK.out]; exact tat_in s q hks
            simp only [hTV] at KS
            clear hTV
            have hml := Gf.mul_lt hVl hRk
            have hgl := hown.lt.2
            have KB : Hid (Below w.heap.size w wr) := hbel
            clear hown hY hbel
            go_wp2_with fail
            go_region_with ((first | (go_at_call 80; refine (times_any s[q].toNat X _ hVl hRk).mono ?_; rintro e w5 ⟨rfl, hb5'⟩; have hb5 := below_of_drew hb5'; clear hb5'; have hcs5 := (hb5.cell (p := ⟨w.heap.size, q, none⟩) hgl).trans hcs; have hfs5 := (World.frozen?_of_block (a := ⟨w.heap.size, q, none⟩) (hb5.block _ hgl)).trans hfs) | (go_at_call 79; refine (plus_any Y (Gf.mul s[q].toNat X) _ hsl hml).mono ?_; rintro e w6 ⟨rfl, hw6⟩; obtain rfl := hw6.symm)))
            all_goals
              have hS := OwnB.set (k := q) (v := Y ^^^ Gf.mul s[q].toNat X) (KO.out.below hb5) hql
              have HO : Hid (OwnB (w5.setCell ⟨w.heap.size, q, none⟩ (.int .u8 ((Y ^^^ Gf.mul s[q].toNat X : Nat) : Int))) w.heap.size w.heap.size l l (fun p => if p < q + 1 then rs R (fun i p => tat (S i) p) (k + 1) p else rs R (fun i p => tat (S i) p) k p)) := hS.1.congr (fun p _ => KS.out p)
              have HB : Hid (Below w.heap.size w (w5.setCell ⟨w.heap.size, q, none⟩ (.int .u8 ((Y ^^^ Gf.mul s[q].toNat X : Nat) : Int)))) := (below2 KB.out hb5).setCell (Nat.le_refl _) _
              clear hS hcs hfs hcs5 hfs5 KO KS KB
              go_wp2
              go_roundw
              case rel => exact ⟨q + 1, by omega, by go_num, HO.out, HB.out⟩
              case measure => simp [intOf] <;> omega
          · obtain rfl : q = l := by omega
            have HO : Hid (OwnB wr w.heap.size w.heap.size q q (rs R (fun i p => tat (S i) p) (k + 1))) := hown.congr (fun p hp => if_pos hp)
            clear hown
            go_wp2
            go_roundw
            case rel => exact ⟨k + 1, by omega, by go_num, HO.out, hbel⟩
            case measure => simp [intOf] <;> omega
    · obtain rfl : k = n := by omega
      have HO : Hid _ := hown
      clear hown
      go_wp2
      go_ret
      exact ⟨rfl, HO.out, hbel⟩
end Go.Proofs.Ytmggogdnfgkljaa

/- The program's frame round a text, the pieces that it is cut into, the sums of all rows, and what is made of a text. Conditions stand at each. -/
namespace Go.Proofs.Ytmggogdnfgkljaa
open Go.ChangeShapes Go.WideShapes Go.ChangeAt Go.RowKit

/-- 'h' laid over 'f' from place 'off' on, 'm' numbers. -/
def ovl (f : Nat → Nat) (off m : Nat) (h : Nat → Nat) (i : Nat) : Nat := if off ≤ i ∧ i < off + m then h (i - off) else f i
theorem ovl_list (f h : Nat → Nat) (n off m : Nat) (hm : off + m ≤ n) : ((eI f n).map (Value.int .u8)).take off ++ ((eI h m).map (Value.int .u8) ++ ((eI f n).map (Value.int .u8)).drop (off + m)) = (eI (ovl f off m h) n).map (Value.int .u8) := by
  apply List.ext_getElem?
  intro i
  simp only [List.getElem?_append, List.length_take, List.length_map, eI_len, List.getElem?_take, List.getElem?_drop]
  by_cases h1 : i < off
  · have h2 : i < min off n := by omega
    simp [h1, h2, eI, ovl, show i < n by omega, show ¬ (off ≤ i ∧ i < off + m) by omega]
  · by_cases h3 : i < off + m
    · have h2 : ¬ i < min off n := by omega
      simp [h2, eI, ovl, show i < n by omega, show off ≤ i by omega, h3, show i - off < m by omega, show i - min off n = i - off by omega]
    · have h2 : ¬ i < min off n := by omega
      have h4 : ¬ i - min off n < m := by omega
      simp only [h2, h4, if_false]
      rw [show off + m + (i - min off n - m) = i by omega]
      by_cases h5 : i < n
      · simp [eI, ovl, h5, show ¬ (off ≤ i ∧ i < off + m) by omega]
      · rw [List.getElem?_eq_none (by simp [eI_len]; omega), List.getElem?_eq_none (by simp [eI_len]; omega)]
theorem OwnB.heap {w : World} {B g n : Nat} {f : Nat → Nat} (h : OwnB w B g n n f) : w.heap[g]? = some (.cells ((eI f n).map (Value.int .u8)).toArray 5 (0, 0)) ∧ B ≤ g ∧ n ≤ maxLen := by
  rcases h.2 with ⟨e, _⟩ | ⟨g', cap, cur, e, hB, hg, hn, hm, hs, ht⟩
  · cases e
  · cases e
    have e2 : cur.toList.take (n * 1) = cur.toList := List.take_of_length_le (by rw [Array.length_toList, hs]; exact Nat.le_refl _)
    rw [e2] at ht
    refine ⟨?_, hB, hm⟩
    rw [hg, ← ht]
theorem OwnB.of {w : World} {B g n : Nat} {f : Nat → Nat} (h : w.heap[g]? = some (.cells ((eI f n).map (Value.int .u8)).toArray 5 (0, 0))) (hB : B ≤ g) (hm : n ≤ maxLen) : OwnB w B g n n f :=
  ⟨by simp [eI_len], .inr ⟨g, n, _, rfl, hB, h, Nat.le_refl _, hm, by simp [eI_len], by rw [List.take_of_length_le (by simp [eI_len])]⟩⟩
theorem byteCells_tat (s : ByteArray) : Go.Lib.byteCells s.data.toList = (eI (tat s) s.size).map (Value.int .u8) := by
  apply List.ext_getElem?
  intro i
  unfold Go.Lib.byteCells
  by_cases h : i < s.size
  · have h' : i < s.data.toList.length := by simpa using h
    rw [List.getElem?_map, List.getElem?_map, eI_get _ _ _ h, List.getElem?_eq_getElem h']
    simp [tat, List.getD, List.getElem?_eq_getElem h']
  · rw [List.getElem?_eq_none (by simp at h ⊢; exact h), List.getElem?_eq_none (by simp [eI_len]; omega)]
/-- A text copied into a row of ours. -/
theorem wpList_copyS {w : World} {ops : Array Oper} {rest : List Oper} {o : Oper} {a : Act} {Q : Exit → Act → World → Prop} (hgd : o.guard = none) (d s : Operand) (sT : TypeId)
    (ho : o.op = .call { callee := .builtin .copy, args := #[d, s], argTypes := #[22, sT] })
    (dp : Option Addr) (dLen dCap : Nat) (S : ByteArray) (hd : a.eval d = .slice dp dLen dCap) (hs : a.eval s = .string S) (B g n : Nat) (f : Nat → Nat) (hown : OwnB w B g n n f) (off : Nat) (hdp : 0 < S.size → dp = some ⟨g, off, none⟩) (hle : S.size ≤ dLen) (hfit : off + S.size ≤ n)
    (h : ∀ w', OwnB w' B g n n (ovl f off S.size (tat S)) → w.grownBy w' (some g) → wpList Try.prog ops Q rest (a.put o.dst (goInt S.size)) w') : wpList Try.prog ops Q (o :: rest) a w := by
  obtain ⟨hg, hB, hm⟩ := hown.heap
  have hu : Try.prog.underlying 22 = some (.slice 5) := Try.underlying22
  have hz : (Try.prog.info? 5).map (·.size) = some 1 := by
    obtain ⟨i0, hi, _, hz1, _⟩ := info_parts Try.infoByte
    rw [hi]; simp [hz1]
  refine wpList_plain hgd fun K hK => ?_
  by_cases h0 : S.size = 0
  · have hrun := Go.Lib.run_copy_empty_string (P := Try.prog) w 22 sT o.type 5 dp dLen dCap S hu (by rw [hz]; rfl) h0
    unfold Oper.wp
    simp [execOp, ho, resolve, invoke, builtin, hd, hs, hrun, Result.andThen]
    refine hK _ _ ?_
    have h1 := h w (hown.congr (fun i _ => by unfold ovl; rw [if_neg (by omega)])) (World.grownBy.refl _ _)
    rw [h0] at h1
    exact h1
  · obtain rfl := hdp (by omega)
    have hrun := Go.Lib.run_copy_row_string (P := Try.prog) w 22 sT o.type 5 g off dLen dCap S _ 5 hu hz hg hle (by simp [eI_len]; exact hfit)
    unfold Oper.wp
    simp [execOp, ho, resolve, invoke, builtin, hd, hs, hrun, Result.andThen]
    refine hK _ _ (h _ ?_ ⟨rfl, rfl, rfl, by simp [World.setRow], fun j _ hj => setRow_other w g j _ (fun e => hj (by rw [e]))⟩)
    refine OwnB.of ?_ hB hm
    rw [setRow_heap w g _ _ 5 _ hg, byteCells_tat, ← ovl_list f (tat S) n off S.size hfit]
/-- Bytes copied into a row of ours, as one step of a region that draws its order. -/
theorem step_copyB {w : World} {ops : Array Oper} {o : Oper} {a : Act} {K : Act → World → Prop} {Q : Exit → Act → World → Prop} {E : Prop} (hgd : o.guard = none) (d s : Operand)
    (ho : o.op = .call { callee := .builtin .copy, args := #[d, s], argTypes := #[22, 22] })
    (dp : Option Addr) (dLen dCap sg sLen sCap : Nat) (hd : a.eval d = .slice dp dLen dCap) (hs : a.eval s = .slice (some ⟨sg, 0, none⟩) sLen sCap) (B g n : Nat) (f h : Nat → Nat) (hown : OwnB w B g n n f) (off : Nat) (hdp : dp = some ⟨g, off, none⟩) (hle : sLen ≤ dLen) (hfit : off + sLen ≤ n)
    (hsrc : ∀ j, j < sLen → w.cell? ⟨sg, j, none⟩ = some (.int .u8 ((h j : Nat) : Int)))
    (hK : ∀ w', OwnB w' B g n n (ovl f off sLen h) → w.grownBy w' (some g) → K (a.put o.dst (goInt sLen)) w') :
    if Region.wanted o (yielded ops a.tmps) = true then Oper.wp Try.prog o a w K Q else E := by
  obtain ⟨hg, hB, hm⟩ := hown.heap
  have hw : Region.wanted o (yielded ops a.tmps) = true := by simp [Region.wanted, hgd]
  rw [if_pos hw]
  have hu : Try.prog.underlying 22 = some (.slice 5) := Try.underlying22
  have hz : (Try.prog.info? 5).map (·.size) = some 1 := by
    obtain ⟨i0, hi, _, hz1, _⟩ := info_parts Try.infoByte
    rw [hi]; simp [hz1]
  subst hdp
  have hlen : ((eI h sLen).map (Value.int .u8)).length = Nat.min sLen dLen := by
    rw [List.length_map, eI_len]; exact (Nat.min_eq_left hle).symm
  have hrun := run_copy_row (P := Try.prog) w 22 22 o.type 5 g off dLen dCap ⟨sg, 0, none⟩ sLen sCap _ 5 ((eI h sLen).map (Value.int .u8)) hu hz hg hlen (fun j v hv => by
    have hj : j < sLen := by
      by_cases hh : j < sLen
      · exact hh
      · rw [List.getElem?_eq_none (by simp [eI_len]; omega)] at hv; cases hv
    have ea : (⟨sg, 0, none⟩ : Addr).add j = ⟨sg, j, none⟩ := by unfold Addr.add; split <;> simp_all
    rw [ea, hsrc j hj]
    simpa [eI, hj] using hv) (by simp [eI_len]; exact hfit) (by intro u hu; simp at hu; obtain ⟨y, _, rfl⟩ := hu; rfl)
  unfold Oper.wp
  simp only [execOp, ho, resolve, invoke, builtin, Sem.run_bind, Sem.run_pure, Result.andThen_ok, List.map_toArray, List.map_cons, List.map_nil, hd, hs, hrun]
  have e : ((eI h sLen).map (Value.int .u8)).length = sLen := by simp [eI_len]
  rw [e]
  refine hK _ ?_ ⟨rfl, rfl, rfl, by simp [World.setRow], fun j _ hj => setRow_other w g j _ (fun e => hj (by rw [e]))⟩
  refine OwnB.of ?_ hB hm
  rw [setRow_heap w g _ _ 5 _ hg, ← ovl_list f h n off sLen hfit, List.append_assoc]

theorem shr8 {n : Nat} (hn : n ≤ 2000) : IntKind.u8.wrap ((n : Int) / 256) = ((n / 256 : Nat) : Int) := by rw [IntKind.wrap_u8]; omega
theorem low8 (n : Nat) : IntKind.u8.wrap (n : Int) = ((n % 256 : Nat) : Int) := by rw [IntKind.wrap_u8]; omega
theorem madeB {w1 : World} {B g N : Nat} (hown : w1.ownsRow B 5 1 (.slice (some ⟨g, 0, none⟩) N N) N (madeCells (Value.int .u8 0).cells (N * 1)).toList) : OwnB w1 B g N N (fun _ => 0) := by
  unfold OwnB
  rw [eI_const (f := fun _ => 0) N 0 (fun _ _ => rfl)]
  simpa [Value.cells, toList_madeCells_one] using hown
theorem twoB {w w1 : World} {g N x y : Nat} {f : Nat → Nat} (h : OwnB w1 w.heap.size g N N f) (hN : 1 < N) (hb : Below w.heap.size w w1) :
    (w1.cell? ⟨g, 0, none⟩ = some (.int .u8 ((f 0 : Nat) : Int)) ∧ w1.frozen? ⟨g, 0, none⟩ = false) ∧
    ((w1.setCell ⟨g, 0, none⟩ (.int .u8 (x : Int))).cell? ⟨g, 1, none⟩ = some (.int .u8 ((f 1 : Nat) : Int)) ∧ (w1.setCell ⟨g, 0, none⟩ (.int .u8 (x : Int))).frozen? ⟨g, 1, none⟩ = false) ∧
    OwnB ((w1.setCell ⟨g, 0, none⟩ (.int .u8 (x : Int))).setCell ⟨g, 1, none⟩ (.int .u8 (y : Int))) w.heap.size g N N (fun i => if i = 1 then y else if i = 0 then x else f i) ∧
    Below w.heap.size w ((w1.setCell ⟨g, 0, none⟩ (.int .u8 (x : Int))).setCell ⟨g, 1, none⟩ (.int .u8 (y : Int))) := by
  have h1 := OwnB.set (k := 0) (v := x) h (by omega)
  have h2 := OwnB.set (k := 1) (v := y) h1.1 hN
  refine ⟨⟨h.cell (by omega), World.ownsRow.frozenAt h 0⟩, ⟨?_, World.ownsRow.frozenAt h1.1 1⟩, h2.1, (hb.setCell h.lt.1 _).setCell h.lt.1 _⟩
  have := h1.1.cell (i := 1) hN
  simpa using this
set_option maxRecDepth 100000 in
set_option maxHeartbeats 1000000 in
theorem framed_any (s : ByteArray) (N : Nat) (w : World) (hs : s.size ≤ 2000) (hN : s.size + 2 ≤ N) (hN2 : N ≤ 100000) :
    Calls Try.prog 94 #[.string s, .int .i64 (N : Int)] w fun e w' => e = .returned (.slice (some ⟨w.heap.size, 0, none⟩) N N) ∧ OwnB w' w.heap.size w.heap.size N N (frm s) ∧ Below w.heap.size w w' := by
  obtain ⟨i0, hi, hz0, hz1, hz2⟩ := info_parts Try.infoByte
  obtain ⟨n, hn⟩ : ∃ n, s.size = n := ⟨_, rfl⟩
  have e1 := shr8 (n := n) (by omega)
  have e2 := low8 n
  have KF : Hid (∀ i, i < N → frm s i = ovl (fun i => if i = 1 then n % 256 else if i = 0 then n / 256 else 0) 2 n (tat s) i) := fun i hi => by
    unfold frm ovl
    rw [hn]
    by_cases h0 : i = 0
    · subst h0; simp
    · by_cases h1 : i = 1
      · subst h1; simp
      · rw [if_neg h0, if_neg h1]
        by_cases h2 : i < 2 + n
        · rw [if_pos (by omega)]
        · rw [if_neg (by omega)]
          simp only [h1, h0, if_false]
          exact tat_out s _ (by omega)
  obtain ⟨x, hx⟩ : ∃ x, n / 256 = x := ⟨_, rfl⟩
  obtain ⟨y, hy⟩ : ∃ y, n % 256 = y := ⟨_, rfl⟩
  rw [hx] at e1 KF
  rw [hy] at e2 KF
  clear hx hy
  have hN1 : (1 : Int) < (N : Int) := by omega
  have hN0 : (0 : Int) < (N : Int) := by omega
  have hN3 : (2 : Int) ≤ (N : Int) := by omega
  have hN4 : 1 < N := by omega
  have hN5 : 0 < N := by omega
  have hN6 : 2 ≤ N := by omega
  by_cases hN7 : N = 2
  case pos =>
    subst hN7
    go_enter Try.func94, Try.ntmps94
    go_wp2_with (first | (at_make; refine wpList_make_full _ rfl _ _ 22 rfl w.heap.size 5 i0 (.int .u8 0) 1 Try.underlying22 hi hz0 hz1 .i64 .i64 _ _ 2 rfl rfl rfl rfl (by rw [hz2]; omega) (by unfold maxLen; omega) (Nat.le_refl _) ?_; intro w1 hown hgrow; have hb1 : Below w.heap.size w w1 := (Below.refl _ _).grown hgrow (Nat.le_refl _) (by simp); obtain ⟨⟨hc0, hf0⟩, ⟨hc1, hf1⟩, hO2, hB2⟩ := twoB (x := x) (y := y) (madeB hown) hN4 hb1; have K2 : Hid _ := hO2; have KB2 : Hid _ := hB2; clear hO2 hB2 hown hgrow hb1) | (guard_hyp K2; refine wpList_copyS (by rfl) _ _ 9 (by rfl) _ _ _ s (by rfl) (by rfl) _ _ _ _ K2.out 2 (fun h => by first | rfl | omega) (by omega) (by omega) ?_; intro w5 hO5 hg5; have HO5 : Hid _ := hO5; have HB5 : Hid (Below w.heap.size w w5) := KB2.out.grown hg5 KB2.out.size (fun j hj => by cases hj; exact Nat.le_refl _); clear hO5 hg5))
    go_wp2
    go_ret
    exact ⟨rfl, OwnB.congr HO5.out (fun i hi => by rw [hn]; exact (KF.out i (by omega)).symm), HB5.out⟩
  have hN8 : ¬ N - 2 = 0 := by omega
  go_enter Try.func94, Try.ntmps94
  go_wp2_with (first | (at_make; refine wpList_make_full _ rfl _ _ 22 rfl w.heap.size 5 i0 (.int .u8 0) 1 Try.underlying22 hi hz0 hz1 .i64 .i64 _ _ N rfl rfl rfl rfl (by rw [hz2]; omega) (by unfold maxLen; omega) (Nat.le_refl _) ?_; intro w1 hown hgrow; have hb1 : Below w.heap.size w w1 := (Below.refl _ _).grown hgrow (Nat.le_refl _) (by simp); obtain ⟨⟨hc0, hf0⟩, ⟨hc1, hf1⟩, hO2, hB2⟩ := twoB (x := x) (y := y) (madeB hown) hN4 hb1; have K2 : Hid _ := hO2; have KB2 : Hid _ := hB2; clear hO2 hB2 hown hgrow hb1) | (guard_hyp K2; refine wpList_copyS (by rfl) _ _ 9 (by rfl) _ _ _ s (by rfl) (by rfl) _ _ _ _ K2.out 2 (fun h => by first | rfl | omega) (by omega) (by omega) ?_; intro w5 hO5 hg5; have HO5 : Hid _ := hO5; have HB5 : Hid (Below w.heap.size w w5) := KB2.out.grown hg5 KB2.out.size (fun j hj => by cases hj; exact Nat.le_refl _); clear hO5 hg5))
  go_wp2
  go_ret
  exact ⟨rfl, OwnB.congr HO5.out (fun i hi => by rw [hn]; exact (KF.out i (by omega)).symm), HB5.out⟩
end Go.Proofs.Ytmggogdnfgkljaa

/- The program's sums of all rows, over pieces and over texts; the pieces that a whole is cut into. Conditions stand at each. -/
namespace Go.Proofs.Ytmggogdnfgkljaa
open Go.ChangeShapes Go.WideShapes Go.ChangeAt Go.RowKit

theorem Try.infoBytes : (Try.prog.info? 22).map (fun i => (i.zero, i.size, i.bytes)) = some (some (.slice none 0 0), 1, 24) := by kernel_rfl
theorem rs_mp (F T : Nat → Nat → Nat) (n i : Nat) : rs (F i) T n = Gm.mp n F T i := rfl
/-- A matrix of byte numbers that is read, by rows. -/
theorem MatAt.rowE {w : World} {a : Option Addr} {r n : Nat} {F : Nat → Nat → Nat} (h : MatAt w a r (fun _ => n) (fun i j => ((F i j : Nat) : Int))) {i : Nat} (hi : i < r) : ∃ b off ai ci, a = some ⟨b, off, none⟩ ∧ w.cell? ⟨b, off + i, none⟩ = some (.slice ai n ci) ∧ IntsAt w ai n (eI (F i) n) := h i hi

set_option maxRecDepth 100000 in
set_option maxHeartbeats 2000000 in
theorem rowSumsB_any (ma : Option Addr) (mc r : Nat) (F : Nat → Nat → Nat) (a : Option Addr) (cp n l : Nat) (T : Nat → Nat → Nat) (w : World) (hm : MatAt w ma r (fun _ => n) (fun i j => ((F i j : Nat) : Int))) (h : PcsAt w a n l T) (hT : Gm.Byt T) (hr : r ≤ 1048576) (hn : 1 ≤ n ∧ n ≤ 16) (hl : 1 ≤ l ∧ l ≤ 1048576) (hF : Gm.Byt F) :
    Calls Try.prog 92 #[.slice ma r mc, .slice a n cp] w fun e w' => e = .returned (.slice (some ⟨w.heap.size, 0, none⟩) r r) ∧ OwnT w' w.heap.size (some ⟨w.heap.size, 0, none⟩) r r (bod n F T l) ∧ Below w.heap.size w w' := by
  obtain ⟨i0, hi, hz0, hz1, hz2⟩ := info_parts Try.infoStr
  have KH : Hid (PcsAt w a n l T) := h
  have KM : Hid (MatAt w ma r (fun _ => n) (fun i j => ((F i j : Nat) : Int))) := hm
  clear h hm
  go_enter Try.func92, Try.ntmps92
  go_wp2_with (at_make; refine wpList_make_full _ rfl _ _ 44 rfl w.heap.size 9 i0 (.string ByteArray.empty) 1 Try.underlying44 hi hz0 hz1 .i64 .i64 _ _ r rfl rfl rfl rfl (by rw [hz2]; omega) (by unfold maxLen; omega) (Nat.le_refl _) ?_; intro w1 hown hgrow)
  have hb1 : Below w.heap.size w w1 := (Below.refl _ _).grown hgrow (Nat.le_refl _) (by simp)
  have K1 : Hid (OwnT w1 w.heap.size (some ⟨w.heap.size, 0, none⟩) r r (fun i => if i < 0 then bod n F T l i else ByteArray.empty)) := by
    have e : sL (fun i => if i < 0 then bod n F T l i else ByteArray.empty) r = List.replicate r (Value.string ByteArray.empty) := by rw [← sL_empty]; exact sL_congr (fun i _ => by simp)
    show OwnT _ _ _ _ _ _
    unfold OwnT
    rw [e]
    simpa [Value.cells, toList_madeCells_one] using hown
  have KB1 : Hid (Below w.heap.size w w1) := hb1
  clear hown hgrow hb1 hi hz0 hz1 hz2
  go_loopw [13] (fun i wr => ∃ k : Nat, k ≤ r ∧ i = .int .i64 k ∧ OwnT wr w.heap.size (some ⟨w.heap.size, 0, none⟩) r r (fun i => if i < k then bod n F T l i else ByteArray.empty) ∧ Below w.heap.size w wr) (fun i _ => r - (intOf i).toNat)
  case atStart => exact ⟨0, Nat.zero_le _, rfl, K1.out, KB1.out⟩
  case round =>
    obtain ⟨k, hk, rfl, hown, hbel⟩ := hrel
    clear K1 KB1
    by_cases hlt : k < r
    · have hki : (k : Int) < (r : Int) := by omega
      obtain ⟨b1, off1, ai, ci, rfl, hc1, hr1⟩ := (KM.out.below hbel).rowE hlt
      have KC : Hid _ := rowSumB_any ai ci (F k) a cp n l T wr hr1 (KH.out.below hbel) hT hn hl (fun i => hF k i)
      have hgl := (World.ownsRow.lt hown _ rfl).2
      obtain ⟨old, hold⟩ : ∃ v, wr.cell? ⟨w.heap.size, k, none⟩ = some v := by
        rw [World.ownsRow.cellAt hown k (by omega)]
        exact ⟨_, sL_get _ _ _ hlt⟩
      have hfr := World.ownsRow.frozenAt hown k
      have KO : Hid (OwnT wr w.heap.size (some ⟨w.heap.size, 0, none⟩) r r (fun i => if i < k then bod n F T l i else ByteArray.empty)) := hown
      have KB : Hid (Below w.heap.size w wr) := hbel
      clear hr1 hown hbel
      go_wp2_with fail
      refine Calls.mono KC.out ?_
      rintro e w2 ⟨rfl, hO2, hb2⟩
      have hold2 := (hb2.cell (p := ⟨w.heap.size, k, none⟩) hgl).trans hold
      have hfr2 := (World.frozen?_of_block (a := ⟨w.heap.size, k, none⟩) (hb2.block _ hgl)).trans hfr
      have hcv := run_convert_bytes_arg (P := Try.prog) w2 22 5 Try.underlying22 Try.underlying5 wr.heap.size 0 l l (eI (rs (F k) T n) l) (eI_len _ _) (fun i hi => by
        rw [Nat.zero_add, hO2.cell hi, eI_getD _ _ _ hi]) 9 Try.underlying9
      rw [show strOfNums (eI (rs (F k) T n) l) = bod n F T l k from rfl] at hcv
      have hst := World.ownsRow.stored (OwnT.below KO.out hb2) k (.string (bod n F T l k))
      rw [sL_set _ _ _ _ hlt] at hst
      have HO : Hid (OwnT (w2.setCell ⟨w.heap.size, k, none⟩ (.string (bod n F T l k))) w.heap.size (some ⟨w.heap.size, 0, none⟩) r r (fun i => if i < k + 1 then bod n F T l i else ByteArray.empty)) := OwnT.congr hst.1 (fun i _ => by
        by_cases e : i = k
        · simp [e]
        · by_cases e2 : i < k
          · simp [e, e2, show i < k + 1 by omega]
          · simp [e, e2, show ¬ i < k + 1 by omega])
      have HB : Hid (Below w.heap.size w (w2.setCell ⟨w.heap.size, k, none⟩ (.string (bod n F T l k)))) := (below2 KB.out hb2).setCell (Nat.le_refl _) _
      generalize bod n F T l k = sv at hcv HO HB
      clear hst hO2 hold hfr KC KO KB
      go_wp2
      go_roundw
      case rel => exact ⟨k + 1, by omega, by go_num, HO.out, HB.out⟩
      case measure => simp [intOf] <;> omega
    · obtain rfl : k = r := by omega
      have HO : Hid (OwnT wr w.heap.size (some ⟨w.heap.size, 0, none⟩) k k (bod n F T l)) := hown.congr (fun i hi => if_pos hi)
      clear hown
      go_wp2
      go_ret
      exact ⟨rfl, HO.out, hbel⟩

set_option maxRecDepth 100000 in
set_option maxHeartbeats 2000000 in
theorem rowSumsS_any (ma : Option Addr) (mc r : Nat) (F : Nat → Nat → Nat) (a : Option Addr) (cp n l : Nat) (S : Nat → ByteArray) (w : World) (hm : MatAt w ma r (fun _ => n) (fun i j => ((F i j : Nat) : Int))) (h : TxtAt w a n S) (hS : ∀ i, i < n → (S i).size = l) (hr : r ≤ 1048576) (hn : 1 ≤ n ∧ n ≤ 16) (hl : 1 ≤ l ∧ l ≤ 1048576) (hF : Gm.Byt F) :
    Calls Try.prog 100 #[.slice ma r mc, .slice a n cp] w fun e w' => e = .returned (.slice (some ⟨w.heap.size, 0, none⟩) r r) ∧ OwnT w' w.heap.size (some ⟨w.heap.size, 0, none⟩) r r (bod n F (fun i p => tat (S i) p) l) ∧ Below w.heap.size w w' := by
  obtain ⟨i0, hi, hz0, hz1, hz2⟩ := info_parts Try.infoStr
  have KH : Hid (TxtAt w a n S) := h
  have KM : Hid (MatAt w ma r (fun _ => n) (fun i j => ((F i j : Nat) : Int))) := hm
  clear h hm
  go_enter Try.func100, Try.ntmps100
  go_wp2_with (at_make; refine wpList_make_full _ rfl _ _ 44 rfl w.heap.size 9 i0 (.string ByteArray.empty) 1 Try.underlying44 hi hz0 hz1 .i64 .i64 _ _ r rfl rfl rfl rfl (by rw [hz2]; omega) (by unfold maxLen; omega) (Nat.le_refl _) ?_; intro w1 hown hgrow)
  have hb1 : Below w.heap.size w w1 := (Below.refl _ _).grown hgrow (Nat.le_refl _) (by simp)
  have K1 : Hid (OwnT w1 w.heap.size (some ⟨w.heap.size, 0, none⟩) r r (fun i => if i < 0 then bod n F (fun i p => tat (S i) p) l i else ByteArray.empty)) := by
    have e : sL (fun i => if i < 0 then bod n F (fun i p => tat (S i) p) l i else ByteArray.empty) r = List.replicate r (Value.string ByteArray.empty) := by rw [← sL_empty]; exact sL_congr (fun i _ => by simp)
    show OwnT _ _ _ _ _ _
    unfold OwnT
    rw [e]
    simpa [Value.cells, toList_madeCells_one] using hown
  have KB1 : Hid (Below w.heap.size w w1) := hb1
  clear hown hgrow hb1 hi hz0 hz1 hz2
  go_loopw [13] (fun i wr => ∃ k : Nat, k ≤ r ∧ i = .int .i64 k ∧ OwnT wr w.heap.size (some ⟨w.heap.size, 0, none⟩) r r (fun i => if i < k then bod n F (fun i p => tat (S i) p) l i else ByteArray.empty) ∧ Below w.heap.size w wr) (fun i _ => r - (intOf i).toNat)
  case atStart => exact ⟨0, Nat.zero_le _, rfl, K1.out, KB1.out⟩
  case round =>
    obtain ⟨k, hk, rfl, hown, hbel⟩ := hrel
    clear K1 KB1
    by_cases hlt : k < r
    · have hki : (k : Int) < (r : Int) := by omega
      obtain ⟨b1, off1, ai, ci, rfl, hc1, hr1⟩ := (KM.out.below hbel).rowE hlt
      have KC : Hid _ := rowSumS_any ai ci (F k) a cp n l S wr hr1 (KH.out.below hbel) hS hn hl (fun i => hF k i)
      have hgl := (World.ownsRow.lt hown _ rfl).2
      obtain ⟨old, hold⟩ : ∃ v, wr.cell? ⟨w.heap.size, k, none⟩ = some v := by
        rw [World.ownsRow.cellAt hown k (by omega)]
        exact ⟨_, sL_get _ _ _ hlt⟩
      have hfr := World.ownsRow.frozenAt hown k
      have KO : Hid (OwnT wr w.heap.size (some ⟨w.heap.size, 0, none⟩) r r (fun i => if i < k then bod n F (fun i p => tat (S i) p) l i else ByteArray.empty)) := hown
      have KB : Hid (Below w.heap.size w wr) := hbel
      clear hr1 hown hbel
      go_wp2_with fail
      refine Calls.mono KC.out ?_
      rintro e w2 ⟨rfl, hO2, hb2⟩
      have hold2 := (hb2.cell (p := ⟨w.heap.size, k, none⟩) hgl).trans hold
      have hfr2 := (World.frozen?_of_block (a := ⟨w.heap.size, k, none⟩) (hb2.block _ hgl)).trans hfr
      have hcv := run_convert_bytes_arg (P := Try.prog) w2 22 5 Try.underlying22 Try.underlying5 wr.heap.size 0 l l (eI (rs (F k) (fun i p => tat (S i) p) n) l) (eI_len _ _) (fun i hi => by
        rw [Nat.zero_add, hO2.cell hi, eI_getD _ _ _ hi]) 9 Try.underlying9
      rw [show strOfNums (eI (rs (F k) (fun i p => tat (S i) p) n) l) = bod n F (fun i p => tat (S i) p) l k from rfl] at hcv
      have hst := World.ownsRow.stored (OwnT.below KO.out hb2) k (.string (bod n F (fun i p => tat (S i) p) l k))
      rw [sL_set _ _ _ _ hlt] at hst
      have HO : Hid (OwnT (w2.setCell ⟨w.heap.size, k, none⟩ (.string (bod n F (fun i p => tat (S i) p) l k))) w.heap.size (some ⟨w.heap.size, 0, none⟩) r r (fun i => if i < k + 1 then bod n F (fun i p => tat (S i) p) l i else ByteArray.empty)) := OwnT.congr hst.1 (fun i _ => by
        by_cases e : i = k
        · simp [e]
        · by_cases e2 : i < k
          · simp [e, e2, show i < k + 1 by omega]
          · simp [e, e2, show ¬ i < k + 1 by omega])
      have HB : Hid (Below w.heap.size w (w2.setCell ⟨w.heap.size, k, none⟩ (.string (bod n F (fun i p => tat (S i) p) l k)))) := (below2 KB.out hb2).setCell (Nat.le_refl _) _
      generalize bod n F (fun i p => tat (S i) p) l k = sv at hcv HO HB
      clear hst hO2 hold hfr KC KO KB
      go_wp2
      go_roundw
      case rel => exact ⟨k + 1, by omega, by go_num, HO.out, HB.out⟩
      case measure => simp [intOf] <;> omega
    · obtain rfl : k = r := by omega
      have HO : Hid (OwnT wr w.heap.size (some ⟨w.heap.size, 0, none⟩) k k (bod n F (fun i p => tat (S i) p) l)) := hown.congr (fun i hi => if_pos hi)
      clear hown
      go_wp2
      go_ret
      exact ⟨rfl, HO.out, hbel⟩
end Go.Proofs.Ytmggogdnfgkljaa

/- The pieces that a whole is cut into; what the program makes of a text. Conditions: as the document has them, at most 2^20 bytes. -/
namespace Go.Proofs.Ytmggogdnfgkljaa
open Go.ChangeShapes Go.WideShapes Go.ChangeAt Go.RowKit

set_option maxRecDepth 100000 in
set_option maxHeartbeats 2000000 in
theorem cut_any (g N k l : Nat) (W : Nat → Nat) (w : World) (hW : ∀ q, q < N → w.cell? ⟨g, q, none⟩ = some (.int .u8 ((W q : Nat) : Int))) (hN : N = k * l) (hk : 1 ≤ k ∧ k ≤ 16) (hl : 1 ≤ l ∧ l ≤ 100000) :
    Calls Try.prog 93 #[.slice (some ⟨g, 0, none⟩) N N, .int .i64 (l : Int)] w fun e w' => ∃ G c, e = .returned (.slice (some ⟨G, 0, none⟩) k c) ∧ PcsAt w' (some ⟨G, 0, none⟩) k l (pcs W l) ∧ Below w.heap.size w w' := by
  obtain ⟨i0, hi, hz0, hz1, hz2⟩ := info_parts Try.infoBytes
  obtain ⟨hk1, hk16⟩ := hk
  obtain ⟨hl1, hl2⟩ := hl
  have hq : Int.tdiv (N : Int) (l : Int) = (k : Int) := by
    rw [hN, ← Int.ofNat_tdiv]
    congr 1
    exact Nat.mul_div_cancel _ (by omega)
  have hNb : N ≤ 1600000 := by rw [hN]; exact Nat.le_trans (Nat.mul_le_mul hk16 hl2) (by omega)
  have hl0 : ((l : Int) == 0) = false := by simp; omega
  have hl0' : ¬ ((l : Int) = 0) := by omega
  have hwq : IntKind.i64.wrap (k : Int) = (k : Int) := by rw [IntKind.wrap_i64]; omega
  have KN : Hid (N = k * l) := hN
  have KW : Hid (∀ q, q < N → w.cell? ⟨g, q, none⟩ = some (.int .u8 ((W q : Nat) : Int))) := hW
  clear hN hW
  go_enter Try.func93, Try.ntmps93
  go_wp2_with (at_make; refine wpList_make_own _ rfl _ _ 93 rfl w.heap.size 22 i0 (.slice none 0 0) 1 Try.underlying93 hi hz0 hz1 .i64 .i64 _ k rfl rfl (by first | rfl | assumption) (by rw [hz2]; omega) (by unfold maxLen; omega) (Nat.le_refl _) ?_; intro w1 hown hgrow)
  have hb1 : Below w.heap.size w w1 := (Below.refl _ _).grown hgrow (Nat.le_refl _) (by simp)
  have K1 : Hid (w1.ownsRow w.heap.size 22 1 (.slice (some ⟨w.heap.size, 0, none⟩) 0 k) 0 (hds (fun j => some ⟨g, j * l, none⟩) (fun _ => l) (fun _ => l) 0)) := hown
  have KB1 : Hid (Below w.heap.size w w1) := hb1
  clear hown hgrow hb1 hq hwq
  go_loopw [5, 6] (fun v p wr => ∃ i x G c : Nat, i ≤ k ∧ Hid (x = i * l) ∧ x + (k - i) * l = N ∧ p = .int .i64 (x : Int) ∧ v = .slice (some ⟨G, 0, none⟩) i c ∧ wr.ownsRow w.heap.size 22 1 (.slice (some ⟨G, 0, none⟩) i c) i (hds (fun j => some ⟨g, j * l, none⟩) (fun _ => l) (fun _ => l) i) ∧ Below w.heap.size w wr) (fun _ p _ => N - (intOf p).toNat)
  case atStart => exact ⟨0, 0, _, _, Nat.zero_le _, by show 0 = 0 * l; omega, by rw [KN.out]; simp, rfl, rfl, K1.out, KB1.out⟩
  case round =>
    obtain ⟨i, x, G, c, hik, HX, hxN, rfl, rfl, hown, hbel⟩ := hrel
    clear K1 KB1
    by_cases hlt : i < k
    · have hxl : x + l ≤ N := by
        rw [← hxN]
        have : l ≤ (k - i) * l := Nat.le_mul_of_pos_left _ (by omega)
        omega
      have hxn2 : x + l + (k - (i + 1)) * l = N := by
        rw [← hxN, show k - i = k - (i + 1) + 1 by omega, Nat.succ_mul]
        omega
      have HX2 : Hid (x + l = (i + 1) * l) := by show _ = _; rw [HX.out, Nat.succ_mul]
      have hxi : (x : Int) < (N : Int) := by omega
      have hsz := hbel.size
      have hGl := (World.ownsRow.lt hown _ rfl).1
      have hw1 : IntKind.i64.wrap ((x : Int) + (l : Int)) = (x : Int) + (l : Int) := by rw [IntKind.wrap_i64]; omega
      have h1 : (0 : Int) ≤ (x : Int) := by omega
      have h2 : (x : Int) ≤ (x : Int) + (l : Int) := by omega
      have h3 : (x : Int) + (l : Int) ≤ (N : Int) := by omega
      have h4 : ¬ (x + l - x = 0) := by omega
      have h5 : x + l - x = l := by omega
      have h6 : ¬ (x + l = x) := by omega
      clear hxN
      go_wp2_with (at_builtin; refine wpList_append_lies _ (by rfl) _ _ 93 (by rfl) w.heap.size 22 i0 (.slice none 0 0) 1 24 Try.underlying93 hi hz0 hz1 hz2 rfl (by decide) (.slice (some ⟨G, 0, none⟩) i c) i _ (by rfl) (World.ownsRow.alloc hown _) ⟨wr.heap.size, 0, none⟩ 1 1 [.slice (some ⟨g, x, none⟩) l l] (by rfl) (by rfl) (World.news_of_block (cs := #[.slice (some ⟨g, x, none⟩) l l]) (t := 22) (fr := (0, 0)) (heap_alloc_new wr _)) (by simp [Value.oneCell']) (by omega) (by unfold maxLen; omega) (by omega) (by simp; omega) (wr.heap.size + 1) (by simp) ?_; intro g2 cap3 w2 hown2 hgrow hat hltg)
      have HO : Hid (w2.ownsRow w.heap.size 22 1 (.slice (some ⟨g2, 0, none⟩) (i + 1) cap3) (i + 1) (hds (fun j => some ⟨g, j * l, none⟩) (fun _ => l) (fun _ => l) (i + 1))) := by
        rw [hds_snoc, ← HX.out]
        exact hown2
      have hb' : Below w.heap.size w w2 := (hbel.alloc hsz _).grown (show World.grownBy _ w2 (some G) from hgrow) (by simp; omega) (fun j hj => by cases hj; exact hGl)
      clear hown2 hgrow hat hltg hown
      go_roundw
      case rel => exact ⟨i + 1, x + l, g2, cap3, by omega, HX2, hxn2, by simp, rfl, HO.out, hb'⟩
      case measure => simp [intOf] <;> omega
    · obtain rfl : i = k := by omega
      have hxi : ¬ (x : Int) < (N : Int) := by
        have : x = N := by rw [← hxN]; simp
        omega
      have HP : Hid (PcsAt wr (some ⟨G, 0, none⟩) i l (pcs W l)) := fun j hj => by
        refine ⟨G, 0, g, j * l, l, rfl, ?_, fun p hp => ?_⟩
        · rw [Nat.zero_add, World.ownsRow.cellAt hown j (by omega), hds_get _ _ _ _ _ hj]
        · have hlt2 : j * l + p < N := by
            rw [KN.out]
            have : (j + 1) * l ≤ i * l := Nat.mul_le_mul_right _ hj
            rw [Nat.succ_mul] at this
            omega
          have h0 := KW.out _ hlt2
          exact (hbel.cell (p := ⟨g, j * l + p, none⟩) (block_lt_of_cell h0)).trans h0
      clear hown hxN
      go_wp2
      go_ret
      exact ⟨G, ⟨c, rfl⟩, HP.out, hbel⟩
def encOk (s : ByteArray) (k n : Int) : Bool := decide (s.size ≤ 2000) && sprOk k n
def encR (s : ByteArray) (k n : Int) : Nat := if encOk s k n = true then n.toNat else 0
def encS (s : ByteArray) (k : Nat) : Nat → ByteArray := bod k (Gm.sprd k) (enc s k) (blen s.size k)
theorem sprOk_parts {k n : Int} (h : sprOk k n = true) : 1 ≤ k ∧ k ≤ n ∧ n ≤ 16 := by
  have : (1 ≤ n ∧ n ≤ 16) ∧ 1 ≤ k ∧ k ≤ n := by simpa [sprOk, side] using h
  omega
set_option maxRecDepth 100000 in
set_option maxHeartbeats 2000000 in
theorem encode_any (s : ByteArray) (k n : Int) (w : World) (hs : s.size ≤ 1048576) :
    Calls Try.prog 35 #[.string s, .int .i64 k, .int .i64 n] w fun e w' => ∃ v, e = .returned (.tuple #[v, .bool (encOk s k n)]) ∧ ResT w w' v (encR s k n) (encS s k.toNat) ∧ Below w.heap.size w w' := by
  have KSP : Hid _ := spread_any k n w
  obtain ⟨sz, hsz⟩ : ∃ sz, s.size = sz := ⟨_, rfl⟩
  by_cases hok : sprOk k n = true
  case neg =>
    have hok' : sprOk k n = false := by simpa using hok
    have he : encOk s k n = false := by unfold encOk; rw [hok']; simp
    have hr : encR s k n = 0 := by unfold encR; rw [if_neg (by rw [he]; simp)]
    rw [he, hr]
    rw [hok'] at KSP
    have hB := fun w => bodyLen_any (sz : Int) k w
    generalize blI (sz : Int) k = bl at hB
    clear he hr hok hok'
    go_enter Try.func35, Try.ntmps35
    go_wp2_with fail
    refine Calls.mono KSP.out ?_
    rintro e w1 ⟨v, rfl, _, hb1⟩
    go_wp2_with (go_at_call 38; refine (hB _).mono ?_; rintro e w' ⟨rfl, hw⟩; obtain rfl := hw.symm)
    go_ret2
    exact ⟨_, rfl, ResT.none _ _ _, hb1⟩
  obtain ⟨h1, h2, h3⟩ := sprOk_parts hok
  obtain ⟨K, rfl⟩ := Int.eq_ofNat_of_zero_le (show 0 ≤ k by omega)
  obtain ⟨M, rfl⟩ := Int.eq_ofNat_of_zero_le (show 0 ≤ n by omega)
  have hR : sprR (K : Int) (M : Int) = M := by unfold sprR; rw [if_pos hok]; simp
  rw [hok, hR, Int.toNat_natCast] at KSP
  by_cases hs2 : sz ≤ 2000
  case neg =>
    have he : encOk s (K : Int) (M : Int) = false := by unfold encOk; simp; omega
    have hr : encR s (K : Int) (M : Int) = 0 := by unfold encR; rw [if_neg (by rw [he]; simp)]
    rw [he, hr]
    have hB := fun w => bodyLen_any (sz : Int) (K : Int) w
    rw [blI_no (by omega)] at hB
    clear he hr hok
    go_enter Try.func35, Try.ntmps35
    go_wp2_with fail
    refine Calls.mono KSP.out ?_
    rintro e w1 ⟨v, rfl, _, hb1⟩
    go_wp2_with (go_at_call 38; refine (hB _).mono ?_; rintro e w' ⟨rfl, hw⟩; obtain rfl := hw.symm)
    go_ret2
    exact ⟨_, rfl, ResT.none _ _ _, hb1⟩
  have he : encOk s (K : Int) (M : Int) = true := by unfold encOk; rw [hok]; simp; omega
  have hr : encR s (K : Int) (M : Int) = M := by unfold encR; rw [if_pos he]; simp
  rw [he, hr, Int.toNat_natCast]
  have hK1 : 1 ≤ K := by omega
  have hK16 : K ≤ 16 := by omega
  have hB := fun w => bodyLen_any (sz : Int) (K : Int) w
  rw [blI_yes hs2 hK1 hK16] at hB
  have hbg := blen_ge (s := sz) hK1
  have hbp := blen_pos (s := sz) hK1
  have hble := blen_le (s := sz) hK1
  have KEN : Hid (encS s K = bod K (Gm.sprd K) (pcs (frm s) (blen sz K)) (blen sz K)) := by show _ = _; unfold encS; rw [hsz]; unfold enc; rw [hsz]
  obtain ⟨l, hl⟩ : ∃ l, blen sz K = l := ⟨_, rfl⟩
  rw [hl] at hB hbg hbp hble KEN
  obtain ⟨NN, hNN⟩ : ∃ NN, K * l = NN := ⟨_, rfl⟩
  have hNb : NN ≤ 100000 := by rw [← hNN]; exact Nat.le_trans (Nat.mul_le_mul hK16 hble) (by omega)
  rw [hNN] at hbg
  have hm : (K : Int) * (l : Int) = (NN : Int) := by rw [← hNN, Int.natCast_mul]
  have hwm : IntKind.i64.wrap ((K : Int) * (l : Int)) = (NN : Int) := by rw [hm, IntKind.wrap_i64]; omega
  have hl0 : ¬ ((l : Int) < 0) := by omega
  have KNN : Hid (NN = K * l) := hNN.symm
  have hFB : Gm.Byt (pcs (frm s) l) := fun i p => frm_lt (by omega) _
  clear he hr hok hl hNN hR hm
  go_enter Try.func35, Try.ntmps35
  go_wp2_with fail
  refine Calls.mono KSP.out ?_
  rintro e w1 ⟨v, rfl, hRM, hb1⟩
  obtain ⟨am, cm, Am, Cm, rfl, hMM⟩ := hRM
  have KMA : Hid (MatAt w1 am M (fun _ => K) (fun i j => ((Gm.sprd K i j : Nat) : Int))) := hMM.at
  clear hMM KSP
  go_wp2_with (go_at_call 38; refine (hB _).mono ?_; rintro e w' ⟨rfl, hw⟩; obtain rfl := hw.symm)
  refine Calls.mono (framed_any s NN w1 (by omega) (by omega) hNb) ?_
  rintro e w2 ⟨rfl, hO2, hb2⟩
  have KO2 : Hid (∀ q, q < NN → w2.cell? ⟨w1.heap.size, q, none⟩ = some (.int .u8 ((frm s q : Nat) : Int))) := fun q hq => hO2.cell hq
  clear hO2 hB
  go_wp2_with fail
  refine Calls.mono (cut_any w1.heap.size NN K l (frm s) w2 KO2.out KNN.out ⟨hK1, hK16⟩ ⟨hbp, by omega⟩) ?_
  rintro e w3 ⟨G3, c3, rfl, hP3, hb3⟩
  have KP3 : Hid (PcsAt w3 (some ⟨G3, 0, none⟩) K l (pcs (frm s) l)) := hP3
  have hb23 := below2 hb2 hb3
  clear hP3 KO2
  go_wp2_with fail
  refine Calls.mono (rowSumsB_any am cm M (Gm.sprd K) (some ⟨G3, 0, none⟩) c3 K l (pcs (frm s) l) w3 (KMA.out.below hb23) KP3.out hFB (by omega) ⟨hK1, hK16⟩ ⟨hbp, by omega⟩ (Gm.sprd_byt K)) ?_
  rintro e w4 ⟨rfl, hO4, hb4⟩
  have hs3 : w.heap.size ≤ w3.heap.size := Nat.le_trans hb1.size hb23.size
  have HO4 : Hid (ResT w w4 (.slice (some ⟨w3.heap.size, 0, none⟩) M M) M (encS s K)) := ⟨_, _, rfl, by rw [KEN.out]; exact OwnT.base hO4 hs3⟩
  clear hO4 KP3 KMA
  go_wp2
  go_ret2
  exact ⟨_, rfl, HO4.out, below2 (below2 hb1 hb23) hb4⟩
end Go.Proofs.Ytmggogdnfgkljaa

/- The model's sums of all rows over texts; whether two numbers are sides. Conditions: at most 16 texts of at most 2^20 bytes. -/
namespace Go.Proofs.Ytmggogdnfgkljaa
open Go.ChangeShapes Go.WideShapes Go.ChangeAt Go.RowKit

set_option maxHeartbeats 400000 in
theorem s4Ok_any (k n : Int) (w : World) : Calls Try.prog 95 #[.int .i64 k, .int .i64 n] w fun e w' => e = .returned (.bool (sprOk k n)) ∧ w' = w := by
  have HE : Hid (sprOk k n = (inB n 1 16 && inB k 1 n)) := by show _ = _; unfold sprOk side inB; rfl
  cases h1 : inB n 1 16 with
  | false =>
    have HF : Hid (sprOk k n = false) := by show _ = _; rw [HE.out, h1]; rfl
    go_enter Try.func95, Try.ntmps95
    go_wp2_with (go_at_call 75; refine (sIn_any _ _ _ _).mono ?_; rintro e w' ⟨rfl, hw⟩; obtain rfl := hw.symm)
    go_ret
    exact ⟨ret_bool HF.out.symm, rfl⟩
  | true =>
    have HF : Hid (sprOk k n = inB k 1 n) := by show _ = _; rw [HE.out, h1]; rfl
    generalize inB k 1 n = b at HF
    obtain ⟨b, hb⟩ : ∃ b, inB k 1 n = b := ⟨_, rfl⟩
    go_enter Try.func95, Try.ntmps95
    go_wp2_with (go_at_call 75; refine (sIn_any _ _ _ _).mono ?_; rintro e w' ⟨rfl, hw⟩; obtain rfl := hw.symm)
    go_ret
    exact ⟨ret_bool (by rw [HE.out, h1]; simp [hb]), rfl⟩
theorem scale_first {s : ByteArray} {R : Nat → Nat} {T : Nat → Nat → Nat} {l : Nat} (hs : s.size = l) (hR : R 0 < 256) (hT : ∀ p, p < l → tat s p = T 0 p) : scaleS s ((R 0 : Nat) : Int) = txt (rs R T 1) l := by
  refine txt_is (by rw [scaleS_size (isB_ofNat hR), hs]) (fun p hp => ?_)
  rw [tat_scale s hR, hT p hp]
  unfold rs
  rw [Gm.sm_s]
  show _ = 0 ^^^ _
  rw [Nat.zero_xor, Gp.m_comm, ← hT p hp, Gp.m_nat (tat_lt _ _) hR]
theorem add_next {s : ByteArray} {R : Nat → Nat} {T : Nat → Nat → Nat} {l k : Nat} (hs : s.size = l) (hR : R k < 256) (hT : ∀ p, p < l → tat s p = T k p) : addS (txt (rs R T k) l) (scaleS s ((R k : Nat) : Int)) = txt (rs R T (k + 1)) l := by
  have hz : (scaleS s ((R k : Nat) : Int)).size = l := by rw [scaleS_size (isB_ofNat hR), hs]
  have he : (txt (rs R T k) l).size = (scaleS s ((R k : Nat) : Int)).size := by rw [txt_size, hz]
  refine txt_is (by rw [addS_size he, txt_size]) (fun p hp => ?_)
  rw [tat_add he, tat_txt hp (rs_lt _ _ _ _), tat_scale s hR, hT p hp]
  unfold rs
  rw [Gm.sm_s, ← hT p hp, Gp.m_comm (R k), Gp.m_nat (tat_lt _ _) hR]
set_option maxRecDepth 100000 in
set_option maxHeartbeats 4000000 in
theorem sRows_any (ma : Option Addr) (mc r : Nat) (F : Nat → Nat → Nat) (a : Option Addr) (cp n l : Nat) (S : Nat → ByteArray) (w : World) (hm : MatAt w ma r (fun _ => n) (fun i j => ((F i j : Nat) : Int))) (h : TxtAt w a n S) (hS : ∀ i, i < n → (S i).size = l) (hr : r ≤ 1048576) (hn : 1 ≤ n ∧ n ≤ 16) (hl : l ≤ 1048576) (hF : Gm.Byt F) :
    Calls Try.prog 96 #[.slice ma r mc, .slice a n cp] w fun e w' => ∃ G c, e = .returned (.slice (some ⟨G, 0, none⟩) r c) ∧ OwnT w' w.heap.size (some ⟨G, 0, none⟩) r c (bod n F (fun i p => tat (S i) p) l) ∧ Below w.heap.size w w' := by
  obtain ⟨i0, hi, hz0, hz1, hz2⟩ := info_parts Try.infoStr
  obtain ⟨hn1, hn16⟩ := hn
  have KH : Hid (TxtAt w a n S) := h
  have KM : Hid (MatAt w ma r (fun _ => n) (fun i j => ((F i j : Nat) : Int))) := hm
  have K0 : Hid (OwnT (w.alloc (.cells #[] 9)) w.heap.size (some ⟨w.heap.size, 0, none⟩) 0 0 (bod n F (fun i p => tat (S i) p) l)) := litT w _
  have hn0' : 0 < n := by omega
  obtain ⟨b0, off0, rfl, hc0⟩ := h 0 hn0'
  rw [Nat.add_zero] at hc0
  have hsz0 := hS 0 hn0'
  clear h hm
  go_enter Try.func96, Try.ntmps96
  go_wp2
  go_loopw [5, 6] (fun v i wr => ∃ k G c : Nat, k ≤ r ∧ i = .int .i64 (k : Int) ∧ v = .slice (some ⟨G, 0, none⟩) k c ∧ OwnT wr w.heap.size (some ⟨G, 0, none⟩) k c (bod n F (fun i p => tat (S i) p) l) ∧ Below w.heap.size w wr) (fun _ i _ => r - (intOf i).toNat)
  case atStart => exact ⟨0, _, _, Nat.zero_le _, rfl, rfl, K0.out, (Below.refl _ _).alloc (Nat.le_refl _) _⟩
  case round =>
    obtain ⟨k, G, c, hk, rfl, rfl, hown, hbel⟩ := hrel
    clear K0
    by_cases hlt : k < r
    · have hki : (k : Int) < (r : Int) := by omega
      obtain ⟨b1, off1, ai, ci, rfl, hc1w, hr1w⟩ := KM.out.rowE hlt
      obtain ⟨b2, off2, rfl, hrz⟩ := hr1w.some hn0'
      have hc1 := (hbel.cell (p := ⟨b1, off1 + k, none⟩) (block_lt_of_cell hc1w)).trans hc1w
      have hz0w := hrz 0 hn0'
      rw [Nat.add_zero, eI_getD _ _ _ hn0'] at hz0w
      have hz0r := (hbel.cell (p := ⟨b2, off2, none⟩) (block_lt_of_cell hz0w)).trans hz0w
      have hc0r := (hbel.cell (p := ⟨b0, off0, none⟩) (block_lt_of_cell hc0)).trans hc0
      have KZ : Hid (∀ t, t < n → w.cell? ⟨b2, off2 + t, none⟩ = some (.int .i64 ((F k t : Nat) : Int))) := fun t ht => by rw [hrz t ht, eI_getD _ _ _ ht]
      have HF : Hid (scaleS (S 0) ((F k 0 : Nat) : Int) = txt (rs (F k) (fun i p => tat (S i) p) 1) l) := scale_first (R := F k) (T := fun i p => tat (S i) p) hsz0 (hF k 0) (fun _ _ => rfl)
      have KSC : Hid (∀ w, Calls Try.prog 119 #[.string (S 0), .int .i64 ((F k 0 : Nat) : Int)] w fun e w' => e = .returned (.string (txt (rs (F k) (fun i p => tat (S i) p) 1) l)) ∧ Below w.heap.size w w') := fun w => by rw [← HF.out]; exact sScale_any (S 0) _ w (by omega)
      have hl0 := block_lt_of_cell hc0r
      have hl1 := block_lt_of_cell hc1
      have hl2 := block_lt_of_cell hz0r
      have KO : Hid (OwnT wr w.heap.size (some ⟨G, 0, none⟩) k c (bod n F (fun i p => tat (S i) p) l)) := hown
      have KB : Hid (Below w.heap.size w wr) := hbel
      have KC1 : Hid (w.cell? ⟨b1, off1 + k, none⟩ = some (.slice (some ⟨b2, off2, none⟩) n ci)) := hc1w
      obtain ⟨s0, hs0⟩ : ∃ s0, S 0 = s0 := ⟨_, rfl⟩
      obtain ⟨x0, hx0⟩ : ∃ x0, F k 0 = x0 := ⟨_, rfl⟩
      rw [hs0] at hc0r KSC
      rw [hx0] at hz0r KSC
      clear hr1w hrz hz0w hown hbel HF hs0 hx0 hc1w
      go_wp2_with fail
      go_region_held3 (fun w' => w'.cell? ⟨b0, off0, none⟩ = some (.string s0) ∧ w'.cell? ⟨b1, off1 + k, none⟩ = some (.slice (some ⟨b2, off2, none⟩) n ci) ∧ w'.cell? ⟨b2, off2, none⟩ = some (.int .i64 (x0 : Int))) (go_keep) ((go_at_call 119; refine Calls.mono (KSC.out _) ?_; rintro e w5 ⟨rfl, hb5'⟩; have hb5 := below_of_drew hb5'; clear hb5'; have h50 := (hb5.cell (p := ⟨b0, off0, none⟩) hl0).trans hc0r; have h51 := (hb5.cell (p := ⟨b1, off1 + k, none⟩) hl1).trans hc1; have h52 := (hb5.cell (p := ⟨b2, off2, none⟩) hl2).trans hz0r))
      all_goals
        have KO5 : Hid (OwnT w5 w.heap.size (some ⟨G, 0, none⟩) k c (bod n F (fun i p => tat (S i) p) l)) := OwnT.below KO.out hb5
        have KB5 : Hid (Below w.heap.size w w5) := below2 KB.out hb5
        clear h50 h51 h52 hc0r hc1 hz0r KO KB hb5 KSC
        go_wp2
        go_loopw [7, 8] (fun v i wr => ∃ q : Nat, 1 ≤ q ∧ q ≤ n ∧ i = .int .i64 (q : Int) ∧ v = .string (txt (rs (F k) (fun i p => tat (S i) p) q) l) ∧ OwnT wr w.heap.size (some ⟨G, 0, none⟩) k c (bod n F (fun i p => tat (S i) p) l) ∧ Below w.heap.size w wr) (fun _ i _ => n - (intOf i).toNat)
        case atStart => exact ⟨1, Nat.le_refl _, hn1, rfl, rfl, KO5.out, KB5.out⟩
        case round =>
          obtain ⟨q, hq1, hq, rfl, rfl, hown, hbel⟩ := hrel
          clear KO5 KB5
          by_cases hqn : q < n
          · have hqi : (q : Int) < (n : Int) := by omega
            obtain ⟨b3, off3, eb, hctw⟩ := KH.out q hqn
            cases eb
            have hct := (hbel.cell (p := ⟨b0, off0 + q, none⟩) (block_lt_of_cell hctw)).trans hctw
            have hc1 := (hbel.cell (p := ⟨b1, off1 + k, none⟩) (block_lt_of_cell KC1.out)).trans KC1.out
            have hzq := (hbel.cell (p := ⟨b2, off2 + q, none⟩) (block_lt_of_cell (KZ.out q hqn))).trans (KZ.out q hqn)
            have HA : Hid (addS (txt (rs (F k) (fun i p => tat (S i) p) q) l) (scaleS (S q) ((F k q : Nat) : Int)) = txt (rs (F k) (fun i p => tat (S i) p) (q + 1)) l) := add_next (R := F k) (T := fun i p => tat (S i) p) (hS q hqn) (hF k q) (fun _ _ => rfl)
            have hszq := hS q hqn
            have KSC : Hid (∀ w, Calls Try.prog 119 #[.string (S q), .int .i64 ((F k q : Nat) : Int)] w fun e w' => e = .returned (.string (scaleS (S q) ((F k q : Nat) : Int))) ∧ Below w.heap.size w w') := fun w => sScale_any (S q) _ w (by omega)
            have KAD : Hid (∀ w, Calls Try.prog 120 #[.string (txt (rs (F k) (fun i p => tat (S i) p) q) l), .string (scaleS (S q) ((F k q : Nat) : Int))] w fun e w' => e = .returned (.string (txt (rs (F k) (fun i p => tat (S i) p) (q + 1)) l)) ∧ Below w.heap.size w w') := fun w => by rw [← HA.out]; exact sAddT_any _ _ w (by rw [txt_size]; exact hl)
            have hl0 := block_lt_of_cell hct
            have hl1 := block_lt_of_cell hc1
            have hl2 := block_lt_of_cell hzq
            have KO : Hid (OwnT wr w.heap.size (some ⟨G, 0, none⟩) k c (bod n F (fun i p => tat (S i) p) l)) := hown
            have KB : Hid (Below w.heap.size w wr) := hbel
            generalize scaleS (S q) ((F k q : Nat) : Int) = sq at KSC KAD
            obtain ⟨tq, htq⟩ : ∃ tq, S q = tq := ⟨_, rfl⟩
            obtain ⟨xq, hxq⟩ : ∃ xq, F k q = xq := ⟨_, rfl⟩
            obtain ⟨cur, hcur⟩ : ∃ cur, txt (rs (F k) (fun i p => tat (S i) p) q) l = cur := ⟨_, rfl⟩
            obtain ⟨nxt, hnxt⟩ : ∃ nxt, txt (rs (F k) (fun i p => tat (S i) p) (q + 1)) l = nxt := ⟨_, rfl⟩
            have KNX : Hid (txt (rs (F k) (fun i p => tat (S i) p) (q + 1)) l = nxt) := hnxt
            rw [htq] at hct KSC
            rw [hxq] at hzq KSC
            rw [hcur, hnxt] at KAD
            rw [hcur]
            clear hown hbel HA htq hxq hnxt hctw hszq hcur
            go_wp2_with fail
            go_region_held3 (fun w' => w'.cell? ⟨b0, off0 + q, none⟩ = some (.string tq) ∧ w'.cell? ⟨b1, off1 + k, none⟩ = some (.slice (some ⟨b2, off2, none⟩) n ci) ∧ w'.cell? ⟨b2, off2 + q, none⟩ = some (.int .i64 (xq : Int))) (go_keep) ((first | (go_at_call 119; refine Calls.mono (KSC.out _) ?_; rintro e w5 ⟨rfl, hb5'⟩; have hb5 := below_of_drew hb5'; clear hb5'; have h50 := (hb5.cell (p := ⟨b0, off0 + q, none⟩) hl0).trans hct; have h51 := (hb5.cell (p := ⟨b1, off1 + k, none⟩) hl1).trans hc1; have h52 := (hb5.cell (p := ⟨b2, off2 + q, none⟩) hl2).trans hzq) | (guard_hyp hb5; go_at_call 120; refine Calls.mono (KAD.out _) ?_; rintro e w6 ⟨rfl, hb6⟩; have h60 := (hb6.cell (p := ⟨b0, off0 + q, none⟩) (block_lt_of_cell h50)).trans h50; have h61 := (hb6.cell (p := ⟨b1, off1 + k, none⟩) (block_lt_of_cell h51)).trans h51; have h62 := (hb6.cell (p := ⟨b2, off2 + q, none⟩) (block_lt_of_cell h52)).trans h52)))
            all_goals
              have HO : Hid (OwnT w6 w.heap.size (some ⟨G, 0, none⟩) k c (bod n F (fun i p => tat (S i) p) l)) := OwnT.below (OwnT.below KO.out hb5) hb6
              have HB : Hid (Below w.heap.size w w6) := below2 (below2 KB.out hb5) hb6
              clear h50 h51 h52 h60 h61 h62 hct hc1 hzq KO KB hb5 hb6 KSC KAD
              go_wp2
              go_roundw
              case rel => exact ⟨q + 1, by omega, by omega, by go_num, by rw [KNX.out], HO.out, HB.out⟩
              case measure => simp [intOf] <;> omega
          · obtain rfl : q = n := by omega
            have hqi : ¬ (q : Int) < (q : Int) := by omega
            have hsz := hbel.size
            have hGl := (World.ownsRow.lt hown _ rfl).1
            obtain ⟨sv, hsv⟩ : ∃ sv, txt (rs (F k) (fun i p => tat (S i) p) q) l = sv := ⟨_, rfl⟩
            have KSV : Hid (sv = bod q F (fun i p => tat (S i) p) l k) := hsv.symm
            rw [hsv]
            clear hsv
            go_wp2_with (at_builtin; refine wpList_append_lies _ (by rfl) _ _ 44 (by rfl) w.heap.size 9 i0 (.string ByteArray.empty) 1 16 Try.underlying44 hi hz0 hz1 hz2 rfl (by decide) (.slice (some ⟨G, 0, none⟩) k c) k _ (by rfl) (World.ownsRow.alloc hown _) ⟨wr.heap.size, 0, none⟩ 1 1 [.string sv] (by rfl) (by rfl) (World.news_of_block (cs := #[.string sv]) (t := 9) (fr := (0, 0)) (heap_alloc_new wr _)) (by simp [Value.oneCell']) (by omega) (by unfold maxLen; omega) (by omega) (by simp; omega) (wr.heap.size + 1) (by simp) ?_; intro g2 cap3 w2 hown2 hgrow hat hltg)
            have HO : Hid (OwnT w2 w.heap.size (some ⟨g2, 0, none⟩) (k + 1) cap3 (bod q F (fun i p => tat (S i) p) l)) := by
              show OwnT _ _ _ _ _ _
              unfold OwnT
              rw [sL_snoc, ← KSV.out]
              exact hown2
            have hb' : Below w.heap.size w w2 := (hbel.alloc hsz _).grown (show World.grownBy _ w2 (some G) from hgrow) (by simp; omega) (fun j hj => by cases hj; exact hGl)
            clear hown2 hgrow hat hltg hown
            go_roundw
            case rel => exact ⟨k + 1, g2, cap3, by omega, by go_num, rfl, HO.out, hb'⟩
            case measure => simp [intOf] <;> omega
    · obtain rfl : k = r := by omega
      have HO : Hid _ := hown
      clear hown
      go_wp2
      go_ret
      exact ⟨G, c, rfl, HO.out, hbel⟩
end Go.Proofs.Ytmggogdnfgkljaa

/- What the model makes of a text. Condition: a text of at most 2^20 bytes. -/
namespace Go.Proofs.Ytmggogdnfgkljaa
open Go.ChangeShapes Go.WideShapes Go.ChangeAt Go.RowKit

/-- append onto a row of ours; nothing may be appended, too. -/
theorem wpList_append_all {P : Program} (w : World) {ops : Array Oper} {rest : List Oper} {o : Oper} {a : Act} {Q : Exit → Act → World → Prop} (hgd : o.guard = none) (s x : Operand) (t : TypeId)
    (ho : o.op = .call { callee := .builtin .append, args := #[s, x], argTypes := #[t, t] })
    (base : Nat) (e : TypeId) (i : TypeInfo) (z : Value) (size bytes : Nat) (ht : P.underlying t = some (.slice e)) (hi : P.info? e = some i) (hz : i.zero = some z)
    (hsize : i.size = size) (hby : i.bytes = bytes) (hzs : z.cells.size = size) (hsz : 0 < size)
    (g0 n cap0 : Nat) (xs : List Value) (hs : a.eval s = .slice (some ⟨g0, 0, none⟩) n cap0) (hown : w.ownsRow base e size (.slice (some ⟨g0, 0, none⟩) n cap0) n xs)
    (ad : Addr) (m c : Nat) (news : List Value) (hx : a.eval x = .slice (some ad) m c) (hl : news.length = m * size) (hnews : ∀ j u, news[j]? = some u → w.cell? (ad.add j) = some u) (h1 : ∀ u ∈ news, u.oneCell' = true)
    (h63 : n + m ≤ maxLen) (hbytes : (n + m) * bytes ≤ 140737488355328) (hbase : base ≤ w.heap.size)
    (h : ∀ g cap w', w'.ownsRow base e size (.slice (some ⟨g, 0, none⟩) (n + m) cap) (n + m) (xs ++ news) → w.grownBy w' (some g0) → wpList P ops Q rest (a.put o.dst (.slice (some ⟨g, 0, none⟩) (n + m) cap)) w') :
    wpList P ops Q (o :: rest) a w := by
  refine wpList_append_own w hgd s x t ho base e i z size bytes ht hi hz hsize hby hzs hsz _ n xs hs hown ad m c news hx hl hnews h1 h63 hbytes hbase fun v' w' h2 h3 h4 => ?_
  have hne : v' ≠ .slice none 0 0 := fun e => by have := h4.1 e; cases this.1
  rcases h2.2 with ⟨e, _⟩ | ⟨g, cap, cur, e, _⟩
  · exact absurd e hne
  · subst e
    exact h g cap w' h2 h3
theorem eI_snocB (f : Nat → Nat) (k : Nat) : (eI f (k + 1)).map (Value.int .u8) = (eI f k).map (Value.int .u8) ++ [.int .u8 ((f k : Nat) : Int)] := by
  rw [eI_snoc, List.map_append]
  rfl
theorem frm_head (s : ByteArray) (n x y : Nat) (hn : s.size = n) (hx : n / 256 = x) (hy : n % 256 = y) : [Value.int .u8 (x : Int), Value.int .u8 (y : Int)] ++ (eI (tat s) n).map (Value.int .u8) = (eI (frm s) (2 + n)).map (Value.int .u8) := by
  apply List.ext_getElem?
  intro i
  by_cases h : i < 2 + n
  · rw [List.getElem?_map, eI_get _ _ _ h]
    match i, h with
    | 0, _ => simp [frm, hn, hx]
    | 1, _ => simp [frm, hn, hy]
    | j + 2, h =>
      have hj : j < n := by omega
      rw [List.getElem?_append_right (by simp)]
      simp [eI, hj, frm]
  · rw [List.getElem?_eq_none (by simp [eI_len]; omega), List.getElem?_eq_none (by simp [eI_len]; omega)]
theorem news_bytes {w : World} (s : ByteArray) (cap : Nat) (fr : Nat × Nat) : ∀ j u, ((eI (tat s) s.size).map (Value.int .u8))[j]? = some u → (w.alloc (.cells (bytesRow s cap) 5 fr)).cell? ((⟨w.heap.size, 0, none⟩ : Addr).add j) = some u := fun j u hu => by
  have hj : j < s.size := by
    by_cases hh : j < s.size
    · exact hh
    · rw [List.getElem?_eq_none (by simp [eI_len]; omega)] at hu; cases hu
  have ea : (⟨w.heap.size, 0, none⟩ : Addr).add j = ⟨w.heap.size, j, none⟩ := by unfold Addr.add; split <;> simp_all
  rw [ea, World.cell?_alloc_mark, bytesRow_at s cap j hj, ← hu]
  rw [List.getElem?_map, eI_get _ _ _ hj]
  have : tat s j = s.data[j].toNat := tat_in s j hj
  simp [this]
theorem one_u8 (f : Nat → Nat) (n : Nat) : ∀ u ∈ (eI f n).map (Value.int .u8), u.oneCell' = true := by
  intro u hu
  simp at hu
  obtain ⟨y, _, rfl⟩ := hu
  rfl
set_option maxRecDepth 100000 in
set_option maxHeartbeats 4000000 in
theorem sEncode_any (s : ByteArray) (k n : Int) (w : World) (hs : s.size ≤ 1048576) :
    Calls Try.prog 36 #[.string s, .int .i64 k, .int .i64 n] w fun e w' => ∃ v, e = .returned (.tuple #[v, .bool (encOk s k n)]) ∧ ResT w w' v (encR s k n) (encS s k.toNat) ∧ Below w.heap.size w w' := by
  obtain ⟨i0, hi, hz0, hz1, hz2⟩ := info_parts Try.infoByte
  obtain ⟨i1, hj, hy0, hy1, hy2⟩ := info_parts Try.infoStr
  obtain ⟨sz, hsz⟩ : ∃ sz, s.size = sz := ⟨_, rfl⟩
  by_cases hs2 : sz ≤ 2000
  case neg =>
    have he : encOk s k n = false := by unfold encOk; simp; omega
    have hr : encR s k n = 0 := by unfold encR; rw [if_neg (by rw [he]; simp)]
    rw [he, hr]
    have h1 : (sz : Int) > 2000 := by omega
    clear he hr
    go_enter Try.func36, Try.ntmps36
    go_wp2
    go_ret2
    exact ⟨_, rfl, ⟨_, _, rfl, litT _ _⟩, (Below.refl _ _).alloc (Nat.le_refl _) _⟩
  have hs2i : ¬ (sz : Int) > 2000 := by omega
  by_cases hok : sprOk k n = true
  case neg =>
    have hok' : sprOk k n = false := by simpa using hok
    have he : encOk s k n = false := by unfold encOk; rw [hok']; simp
    have hr : encR s k n = 0 := by unfold encR; rw [if_neg (by rw [he]; simp)]
    rw [he, hr]
    clear he hr hok
    go_enter Try.func36, Try.ntmps36
    go_wp2_with (go_at_call 95; refine (s4Ok_any _ _ _).mono ?_; rintro e w' ⟨rfl, hw⟩; obtain rfl := hw.symm)
    go_ret2
    exact ⟨_, rfl, ⟨_, _, rfl, litT _ _⟩, (Below.refl _ _).alloc (Nat.le_refl _) _⟩
  obtain ⟨h1, h2, h3⟩ := sprOk_parts hok
  obtain ⟨K, rfl⟩ := Int.eq_ofNat_of_zero_le (show 0 ≤ k by omega)
  obtain ⟨M, rfl⟩ := Int.eq_ofNat_of_zero_le (show 0 ≤ n by omega)
  have hR : sprR (K : Int) (M : Int) = M := by unfold sprR; rw [if_pos hok]; simp
  have KSP : Hid (∀ w, Calls Try.prog 30 #[.int .i64 (K : Int), .int .i64 (M : Int)] w fun e w' => ∃ v, e = .returned (.tuple #[v, .bool true]) ∧ ResM w w' v M K (Gm.sprd K) ∧ Below w.heap.size w w') := fun w => by
    have := sSpread_any (K : Int) (M : Int) w
    rw [hok, hR, Int.toNat_natCast] at this
    exact this
  have he : encOk s (K : Int) (M : Int) = true := by unfold encOk; rw [hok]; simp; omega
  have hr : encR s (K : Int) (M : Int) = M := by unfold encR; rw [if_pos he]; simp
  rw [he, hr, Int.toNat_natCast]
  have hK1 : 1 ≤ K := by omega
  have hK16 : K ≤ 16 := by omega
  have hB := fun w => sBodyLen_any (sz : Int) (K : Int) w
  rw [blI_yes hs2 hK1 hK16] at hB
  have hbg := blen_ge (s := sz) hK1
  have hbp := blen_pos (s := sz) hK1
  have hble := blen_le (s := sz) hK1
  have KEN : Hid (encS s K = bod K (Gm.sprd K) (pcs (frm s) (blen sz K)) (blen sz K)) := by show _ = _; unfold encS; rw [hsz]; unfold enc; rw [hsz]
  obtain ⟨l, hl⟩ : ∃ l, blen sz K = l := ⟨_, rfl⟩
  rw [hl] at hB hbg hbp hble KEN
  obtain ⟨NN, hNN⟩ : ∃ NN, K * l = NN := ⟨_, rfl⟩
  have hNb : NN ≤ 100000 := by rw [← hNN]; exact Nat.le_trans (Nat.mul_le_mul hK16 hble) (by omega)
  rw [hNN] at hbg
  have hm : (K : Int) * (l : Int) = (NN : Int) := by rw [← hNN, Int.natCast_mul]
  have hwm : IntKind.i64.wrap ((K : Int) * (l : Int)) = (NN : Int) := by rw [hm, IntKind.wrap_i64]; omega
  have KNN : Hid (NN = K * l) := hNN.symm
  have hFl : ∀ q, frm s q < 256 := fun q => frm_lt (by omega) _
  obtain ⟨x, hx⟩ : ∃ x, sz / 256 = x := ⟨_, rfl⟩
  obtain ⟨y, hy⟩ : ∃ y, sz % 256 = y := ⟨_, rfl⟩
  have KHD : Hid ([Value.int .u8 (x : Int), Value.int .u8 (y : Int)] ++ (eI (tat s) sz).map (Value.int .u8) = (eI (frm s) (2 + sz)).map (Value.int .u8)) := frm_head s sz x y hsz hx hy
  have e1 : IntKind.u8.wrap ((sz : Int) / 256) = (x : Int) := by rw [IntKind.wrap_u8]; omega
  have e2 : IntKind.u8.wrap ((sz : Int) % 256) = (y : Int) := by rw [IntKind.wrap_u8]; omega
  have e3 : Int.tdiv (sz : Int) 256 = (sz : Int) / 256 := by rw [Int.tdiv_eq_ediv_of_nonneg (by omega)]
  have e4 : Int.tmod (sz : Int) 256 = (sz : Int) % 256 := by rw [Int.tmod_eq_emod_of_nonneg (by omega)]
  have hcvt := fun w s => run_bytes_of_string (P := Try.prog) w 9 22 5 s Try.underlying9 Try.underlying22 Try.underlying5
  have KNB : Hid (∀ (cap : Nat) (fr : Nat × Nat) (j : Nat) (u : Value), ((eI (tat s) sz).map (Value.int .u8))[j]? = some u → (((w.alloc (.cells #[.int .u8 (x : Int), .int .u8 (y : Int)] 5)).alloc (.cells (bytesRow s cap) 5 fr)).drew).cell? ((⟨w.heap.size + 1, 0, none⟩ : Addr).add j) = some u) := fun cap fr j u hu => by
    have h1 := news_bytes (w := w.alloc (.cells #[.int .u8 (x : Int), .int .u8 (y : Int)] 5)) s cap fr j u (by rw [hsz]; exact hu)
    have e : (w.alloc (.cells #[.int .u8 (x : Int), .int .u8 (y : Int)] 5)).heap.size = w.heap.size + 1 := by simp
    rw [e] at h1
    exact h1
  have KO1 : Hid ((w.alloc (.cells #[.int .u8 (x : Int), .int .u8 (y : Int)] 5)).ownsRow w.heap.size 5 1 (.slice (some ⟨w.heap.size, 0, none⟩) 2 2) 2 [Value.int .u8 (x : Int), Value.int .u8 (y : Int)]) := World.ownsRow_lit w #[.int .u8 (x : Int), .int .u8 (y : Int)] 2 (Nat.le_refl _) (by unfold maxLen; omega) rfl
  have hlen : ((eI (tat s) sz).map (Value.int .u8)).length = sz * 1 := by simp [eI_len]
  have KONE : Hid _ := one_u8 (tat s) sz
  clear he hr hl hNN hR hm hx hy
  go_enter Try.func36, Try.ntmps36
  go_wp2_with (first | (go_at_call 95; refine (s4Ok_any _ _ _).mono ?_; rintro e w' ⟨rfl, hw⟩; obtain rfl := hw.symm; clear hw) | (go_at_call 53; refine (hB _).mono ?_; rintro e w' ⟨rfl, hw⟩; obtain rfl := hw.symm; clear hw) | (at_builtin; (refine wpList_append_all _ (by rfl) _ _ 22 (by rfl) w.heap.size 5 i0 (.int .u8 0) 1 1 Try.underlying22 hi hz0 hz1 hz2 rfl (by decide) w.heap.size 2 2 _ (by rfl) ((World.ownsRow.alloc KO1.out _).drew) ⟨w.heap.size + 1, 0, none⟩ sz _ ((eI (tat s) sz).map (Value.int .u8)) (by rfl) hlen (KNB.out _ _) KONE.out (by unfold maxLen; omega) (by omega) (by simp; omega) ?_); intro g3 cap3 w3 hown3 hgrow3))
  have hb3 : Below w.heap.size w w3 := ((((Below.refl w.heap.size w).alloc (Nat.le_refl _) (.cells #[.int .u8 (x : Int), .int .u8 (y : Int)] 5)).alloc (by simp) _).drew).grown hgrow3 (by simp; omega) (fun j hj => by cases hj; exact Nat.le_refl _)
  have K3 : Hid (OwnB w3 w.heap.size g3 (2 + sz) cap3 (frm s)) := by
    show OwnB _ _ _ _ _ _
    unfold OwnB
    rw [← KHD.out]
    exact hown3
  have KB3 : Hid (Below w.heap.size w w3) := hb3
  clear hown3 hgrow3 hb3 KNB KO1 KONE hlen e1 e2 e3 e4 KHD hcvt hB
  go_loopw [9] (fun v wr => ∃ m g c : Nat, 2 + sz ≤ m ∧ m ≤ NN ∧ v = .slice (some ⟨g, 0, none⟩) m c ∧ OwnB wr w.heap.size g m c (frm s) ∧ Below w.heap.size w wr) (fun v _ => NN - lenV v)
  case atStart => exact ⟨2 + sz, g3, cap3, Nat.le_refl _, by omega, rfl, K3.out, KB3.out⟩
  case round =>
    obtain ⟨m, g, c, hm1, hm2, rfl, hown, hbel⟩ := hrel
    clear K3 KB3
    by_cases hlt : m < NN
    · have hmi : (m : Int) < (NN : Int) := by omega
      have hsz1 := hbel.size
      have hgl := hown.lt.1
      have KF0 : Hid (frm s m = 0) := frm_out (by omega)
      go_wp2_with (at_builtin; refine wpList_append_lies _ (by rfl) _ _ 22 (by rfl) w.heap.size 5 i0 (.int .u8 0) 1 1 Try.underlying22 hi hz0 hz1 hz2 rfl (by decide) (.slice (some ⟨g, 0, none⟩) m c) m _ (by rfl) (World.ownsRow.alloc hown _) ⟨wr.heap.size, 0, none⟩ 1 1 [.int .u8 0] (by rfl) (by rfl) (World.news_of_block (cs := #[.int .u8 0]) (t := 5) (fr := (0, 0)) (heap_alloc_new wr _)) (by simp [Value.oneCell']) (by omega) (by unfold maxLen; omega) (by omega) (by simp; omega) (wr.heap.size + 1) (by simp) ?_; intro g4 cap4 w4 hown4 hgrow4 hat4 hltg4)
      have HO : Hid (OwnB w4 w.heap.size g4 (m + 1) cap4 (frm s)) := by
        show OwnB _ _ _ _ _ _
        unfold OwnB
        rw [eI_snocB, KF0.out]
        exact hown4
      have hb' : Below w.heap.size w w4 := (hbel.alloc hsz1 _).grown (show World.grownBy _ w4 (some g) from hgrow4) (by simp; omega) (fun j hj => by cases hj; exact hgl)
      clear hown4 hgrow4 hat4 hltg4 hown
      go_roundw
      case rel => exact ⟨m + 1, g4, cap4, by omega, by omega, rfl, HO.out, hb'⟩
      case measure => simp [lenV] <;> omega
    · obtain rfl : NN = m := by omega
      have hmi : ¬ (NN : Int) < (NN : Int) := by omega
      have KA : Hid (∀ q, q < NN → wr.cell? ⟨g, q, none⟩ = some (.int .u8 ((frm s q : Nat) : Int))) := fun q hq => hown.cell hq
      have hcap : NN ≤ c := owns_cap hown
      have hszr := hbel.size
      have KBr : Hid (Below w.heap.size w wr) := hbel
      obtain ⟨wA, hwA⟩ : ∃ wA, wr = wA := ⟨_, rfl⟩
      rw [hwA] at KA KBr hszr
      have K0 : Hid (OwnT (wA.alloc (.cells #[] 9)) wA.heap.size (some ⟨wA.heap.size, 0, none⟩) 0 0 (fun j => txt (pcs (frm s) l j) l)) := litT wA _
      clear hown hbel
      go_wp2
      clear hwA
      go_loopw [10, 11] (fun v i wr => ∃ j a G c2 : Nat, j ≤ K ∧ Hid (a = j * l) ∧ i = .int .i64 (j : Int) ∧ v = .slice (some ⟨G, 0, none⟩) j c2 ∧ OwnT wr wA.heap.size (some ⟨G, 0, none⟩) j c2 (fun j => txt (pcs (frm s) l j) l) ∧ Below wA.heap.size wA wr) (fun _ i _ => K - (intOf i).toNat)
      case atStart => exact ⟨0, 0, _, _, Nat.zero_le _, by show 0 = 0 * l; omega, rfl, rfl, K0.out, (Below.refl _ _).alloc (Nat.le_refl _) _⟩
      case round =>
        obtain ⟨j, a, G, c2, hjK, HA, rfl, rfl, hown, hbel⟩ := hrel
        clear K0
        by_cases hjl : j < K
        · have hji : (j : Int) < (K : Int) := by omega
          have hsz1 := hbel.size
          have hgl := (World.ownsRow.lt hown _ rfl).1
          have hal : a + l ≤ NN := by
            rw [HA.out, KNN.out]
            have : (j + 1) * l ≤ K * l := Nat.mul_le_mul_right _ hjl
            rw [Nat.succ_mul] at this
            omega
          have hj1 : (j : Int) * (l : Int) = (a : Int) := by rw [HA.out, Int.natCast_mul]
          have hj2 : ((j : Int) + 1) * (l : Int) = (a : Int) + (l : Int) := by rw [Int.add_mul, hj1, Int.one_mul]
          have hw1 : IntKind.i64.wrap ((j : Int) * (l : Int)) = (a : Int) := by rw [hj1, IntKind.wrap_i64]; omega
          have hw2 : IntKind.i64.wrap (((j : Int) + 1) * (l : Int)) = (a : Int) + (l : Int) := by rw [hj2, IntKind.wrap_i64]; omega
          have h1' : (0 : Int) ≤ (a : Int) := by omega
          have h2' : (a : Int) ≤ (a : Int) + (l : Int) := by omega
          have h3' : (a : Int) + (l : Int) ≤ (c : Int) := by omega
          have h4' : a + l - a = l := by omega
          have h5' : ¬ (c = a) := by omega
          have hcell : ∀ p, p < l → wr.cell? ⟨g, a + p, none⟩ = some (.int .u8 ((eI (pcs (frm s) l j) l).getD p 0)) := fun p hp => by
            have h0 := KA.out (a + p) (by omega)
            rw [(hbel.cell (p := ⟨g, a + p, none⟩) (block_lt_of_cell h0)).trans h0, eI_getD _ _ _ hp]
            unfold pcs
            rw [HA.out]
          have hcv := run_convert_bytes_arg (P := Try.prog) wr 22 5 Try.underlying22 Try.underlying5 g a l (c - a) (eI (pcs (frm s) l j) l) (eI_len _ _) hcell 9 Try.underlying9
          rw [show strOfNums (eI (pcs (frm s) l j) l) = txt (pcs (frm s) l j) l from rfl] at hcv
          obtain ⟨sv, hsv⟩ : ∃ sv, txt (pcs (frm s) l j) l = sv := ⟨_, rfl⟩
          rw [hsv] at hcv
          have KSV : Hid (txt (pcs (frm s) l j) l = sv) := hsv
          have HA2 : Hid (a + l = (j + 1) * l) := by show _ = _; rw [HA.out, Nat.succ_mul]
          clear hcell hsv hj1 hj2
          go_wp2_with (at_builtin; refine wpList_append_lies _ (by rfl) _ _ 44 (by rfl) wA.heap.size 9 i1 (.string ByteArray.empty) 1 16 Try.underlying44 hj hy0 hy1 hy2 rfl (by decide) (.slice (some ⟨G, 0, none⟩) j c2) j _ (by rfl) (World.ownsRow.alloc hown _) ⟨wr.heap.size, 0, none⟩ 1 1 [.string sv] (by rfl) (by rfl) (World.news_of_block (cs := #[.string sv]) (t := 9) (fr := (0, 0)) (heap_alloc_new wr _)) (by simp [Value.oneCell']) (by omega) (by unfold maxLen; omega) (by omega) (by simp; omega) (wr.heap.size + 1) (by simp) ?_; intro g2 cap2 w2 hown2 hgrow hat hltg)
          have HO : Hid (OwnT w2 wA.heap.size (some ⟨g2, 0, none⟩) (j + 1) cap2 (fun j => txt (pcs (frm s) l j) l)) := by
            show OwnT _ _ _ _ _ _
            unfold OwnT
            rw [sL_snoc, KSV.out]
            exact hown2
          have hb' : Below wA.heap.size wA w2 := (hbel.alloc hsz1 _).grown (show World.grownBy _ w2 (some G) from hgrow) (by simp; omega) (fun j hj => by cases hj; exact hgl)
          clear hown2 hgrow hat hltg hown
          go_roundw
          case rel => exact ⟨j + 1, a + l, g2, cap2, by omega, HA2, by go_num, rfl, HO.out, hb'⟩
          case measure => simp [intOf] <;> omega
        · obtain rfl : K = j := by omega
          have hji : ¬ (K : Int) < (K : Int) := by omega
          have KT : Hid (TxtAt wr (some ⟨G, 0, none⟩) K (fun j => txt (pcs (frm s) l j) l)) := OwnT.at hown
          have hsz1 := hbel.size
          clear hown
          go_wp2_with fail
          refine Calls.mono (KSP.out _) ?_
          rintro e w5 ⟨v, rfl, hRM, hb5⟩
          obtain ⟨am, cm, Am, Cm, rfl, hMM⟩ := hRM
          have KMA : Hid (MatAt w5 am M (fun _ => K) (fun i j => ((Gm.sprd K i j : Nat) : Int))) := hMM.at
          have KT5 : Hid (TxtAt w5 (some ⟨G, 0, none⟩) K (fun j => txt (pcs (frm s) l j) l)) := KT.out.below hb5
          have hs5 := hb5.size
          clear hMM KT
          go_wp2_with fail
          refine Calls.mono (sRows_any am cm M (Gm.sprd K) (some ⟨G, 0, none⟩) c2 K l (fun j => txt (pcs (frm s) l j) l) w5 KMA.out KT5.out (fun _ _ => txt_size _ _) (by omega) ⟨hK1, hK16⟩ (by omega) (Gm.sprd_byt K)) ?_
          rintro e w6 ⟨G6, c6, rfl, hO6, hb6⟩
          have HO : Hid (ResT w w6 (.slice (some ⟨G6, 0, none⟩) M c6) M (encS s K)) := ⟨_, _, rfl, by
            rw [KEN.out]
            exact OwnT.congr (OwnT.base hO6 (by omega)) (fun i _ => bod_congr (fun _ _ => rfl) (fun t p _ hp => tat_txt hp (hFl _)))⟩
          clear hO6 KMA KT5
          go_wp2
          go_ret2
          exact ⟨_, rfl, HO.out, below2 (below2 (below2 KBr.out hbel) hb5) hb6⟩
end Go.Proofs.Ytmggogdnfgkljaa

/- The laws' marks over lists of texts. Conditions: at most 1000 texts, marks up to 10^6. -/
namespace Go.Proofs.Ytmggogdnfgkljaa
open Go.ChangeShapes Go.WideShapes Go.ChangeAt Go.RowKit

def mtGo : Nat → Nat → ByteArray → ByteArray
  | 0, _, o => o
  | f + 1, k, o => if k = 0 then o else mtGo f (k / 10) (strOfNums [((48 + k % 10 : Nat) : Int)] ++ o)
/-- The text of a mark. -/
def mtxt (k : Nat) : ByteArray := if k = 0 then ⟨#[109, 48]⟩ else (⟨#[109]⟩ : ByteArray) ++ mtGo k k ByteArray.empty
theorem mtGo_zero (f : Nat) (o : ByteArray) : mtGo f 0 o = o := by cases f <;> rfl
set_option maxRecDepth 100000 in
set_option maxHeartbeats 1000000 in
theorem markText_any (k : Nat) (w : World) (hk : k ≤ 10000000) : Calls Try.prog 107 #[.int .i64 (k : Int)] w fun e w' => e = .returned (.string (mtxt k)) ∧ Below w.heap.size w w' := by
  by_cases h0 : k = 0
  · subst h0
    have HM : Hid (mtxt 0 = ⟨#[109, 48]⟩) := rfl
    go_enter Try.func107, Try.ntmps107
    go_wp2
    go_ret
    exact ⟨ret_str HM.out.symm, Below.refl _ _⟩
  · have hki : ¬ (k : Int) ≤ 0 := by omega
    have HM : Hid (mtxt k = (⟨#[109]⟩ : ByteArray) ++ mtGo k k ByteArray.empty) := by show _ = _; unfold mtxt; rw [if_neg h0]
    go_enter Try.func107, Try.ntmps107
    go_wp2
    go_loopw [0, 3] (fun v0 v3 wr => ∃ (j f : Nat) (o : ByteArray), j ≤ f ∧ o.size + j ≤ k ∧ v0 = .int .i64 (j : Int) ∧ v3 = .string o ∧ Hid (mtGo f j o = mtGo k k ByteArray.empty) ∧ Below w.heap.size w wr) (fun v0 _ _ => (intOf v0).toNat)
    case atStart => exact ⟨k, k, ByteArray.empty, Nat.le_refl _, by show 0 + k ≤ k; omega, rfl, rfl, rfl, Below.refl _ _⟩
    case round =>
      obtain ⟨j, f, o, hjf, hoj, rfl, rfl, HG, hbel⟩ := hrel
      by_cases hj : j = 0
      · subst hj
        have HO : Hid (mtxt k = (⟨#[109]⟩ : ByteArray) ++ o) := by show _ = _; rw [HM.out, ← HG.out, mtGo_zero]
        have hsz : o.size ≤ 10000000 := by omega
        go_wp2
        go_ret
        exact ⟨ret_str HO.out.symm, hbel⟩
      · have hji : (0 : Int) < (j : Int) := by omega
        have hji2 : (j : Int) > 0 := by omega
        obtain ⟨f', rfl⟩ : ∃ f', f = f' + 1 := ⟨f - 1, by omega⟩
        have HG2 : Hid (mtGo f' (j / 10) (strOfNums [((48 + j % 10 : Nat) : Int)] ++ o) = mtGo k k ByteArray.empty) := by
          show _ = _
          rw [← HG.out]
          show _ = if j = 0 then _ else _
          rw [if_neg hj]
        obtain ⟨d, hd⟩ : ∃ d, 48 + j % 10 = d := ⟨_, rfl⟩
        rw [hd] at HG2
        have hdl : d < 256 := by omega
        have e1 : Int.tmod (j : Int) 10 = (j : Int) % 10 := by rw [Int.tmod_eq_emod_of_nonneg (by omega)]
        have e2 : Int.tdiv (j : Int) 10 = (j : Int) / 10 := by rw [Int.tdiv_eq_ediv_of_nonneg (by omega)]
        have e3 : IntKind.i64.wrap (48 + (j : Int) % 10) = (d : Int) := by rw [IntKind.wrap_i64]; omega
        have e4 : IntKind.u8.wrap (d : Int) = (d : Int) := by rw [IntKind.wrap_u8]; omega
        obtain ⟨j', hj'⟩ : ∃ j', j / 10 = j' := ⟨_, rfl⟩
        have e5 : (j : Int) / 10 = (j' : Int) := by omega
        have e6 : IntKind.i64.wrap (j' : Int) = (j' : Int) := by rw [IntKind.wrap_i64]; omega
        rw [hj'] at HG2
        have hcv := run_convert_bytes_arg (P := Try.prog) (wr.alloc (.cells #[.int .u8 (d : Int)] 5)) 22 5 Try.underlying22 Try.underlying5 wr.heap.size 0 1 1 [(d : Int)] rfl (fun i hi => by
          obtain rfl : i = 0 := by omega
          rw [cell_of_one (heap_alloc_new wr _)]
          rfl) 9 Try.underlying9
        have hss : (strOfNums [(d : Int)]).size = 1 := by rw [strOfNums_size]; rfl
        have hso : o.size ≤ 10000000 := by omega
        have HS : Hid ((strOfNums [(d : Int)] ++ o).size + j' ≤ k) := by show _ ≤ _; rw [ByteArray.size_append, hss]; omega
        have hb2 : Below w.heap.size w (wr.alloc (.cells #[.int .u8 (d : Int)] 5)) := hbel.alloc hbel.size _
        generalize strOfNums [(d : Int)] = sd at hcv hss HS HG2
        clear HG hd
        go_wp2
        go_roundw
        case rel => exact ⟨j', f', sd ++ o, by omega, HS.out, by simp [*], rfl, HG2, hb2⟩
        case measure => simp [intOf, *] <;> omega
/-- A list of texts of ours that lies from block 'B' on, ahead of block 'E'. -/
def RowT (w : World) (B E : Nat) (a : Option Addr) (n cap : Nat) (S : Nat → ByteArray) : Prop := OwnT w B a n cap S ∧ ∀ x, a = some x → B ≤ x.block ∧ x.block < E
theorem OwnT.row {w : World} {B : Nat} {a : Option Addr} {n cap : Nat} {S : Nat → ByteArray} (h : OwnT w B a n cap S) : RowT w B w.heap.size a n cap S := by
  refine ⟨h, fun x e => ?_⟩
  subst e
  exact World.ownsRow.lt h x.block rfl
theorem RowT.below {w w' : World} {B E : Nat} {a : Option Addr} {n cap : Nat} {S : Nat → ByteArray} (h : RowT w B E a n cap S) (hb : Below w.heap.size w w') : RowT w' B E a n cap S := ⟨h.1.below hb, h.2⟩
theorem RowT.at {w : World} {B E : Nat} {a : Option Addr} {n cap : Nat} {S : Nat → ByteArray} (h : RowT w B E a n cap S) : TxtAt w a n S := h.1.at
theorem RowT.turned {w w' : World} {B E B' E' : Nat} {a : Option Addr} {n cap : Nat} {S : Nat → ByteArray} (h : RowT w B E a n cap S) (ht : TurnM w w' B' E') (hd : E ≤ B' ∨ E' ≤ B) : RowT w' B E a n cap S :=
  ⟨own_turn2 h.1 ht (fun x e hx => by have := h.2 x e; omega), h.2⟩
theorem TurnM.ofBelow {w w' : World} (B E : Nat) (h : Below w.heap.size w w') : TurnM w w' B E := ⟨h.os, h.tape, h.output, h.size, fun j hj _ => h.block j hj⟩
theorem TurnM.set (w : World) {B E g : Nat} (j : Nat) (v : Value) (hB : B ≤ g) (hE : g < E) : TurnM w (w.setCell ⟨g, j, none⟩ v) B E := ⟨rfl, rfl, rfl, by simp, fun i _ hi => heap_setCell_other w ⟨g, j, none⟩ i v (fun e => by have e' : i = g := e; omega)⟩
set_option maxHeartbeats 1000000 in
theorem markT_any (B E : Nat) (a : Option Addr) (n cap : Nat) (S : Nat → ByteArray) (k q : Nat) (w : World) (h : RowT w B E a n cap S) (hn : n ≤ 1000) (hk : k ≤ 1000000) (hq : k + n = q) :
    Calls Try.prog 55 #[.slice a n cap, .int .i64 (k : Int)] w fun e w' => e = .returned (.int .i64 (q : Int)) ∧ RowT w' B E a n cap (fun i => mtxt (k + i)) ∧ TurnM w w' B E := by
  subst hq
  have K0 : Hid (RowT w B E a n cap (fun i => if i < 0 then mtxt (k + i) else S i)) := ⟨h.1.congr (fun i _ => by simp), h.2⟩
  clear h
  go_enter Try.func55, Try.ntmps55
  go_wp2
  go_loopw [1, 5] (fun p i wr => ∃ c x : Nat, c ≤ n ∧ k + c = x ∧ p = .int .i64 (x : Int) ∧ i = .int .i64 (c : Int) ∧ RowT wr B E a n cap (fun i => if i < c then mtxt (k + i) else S i) ∧ TurnM w wr B E) (fun _ i _ => n - (intOf i).toNat)
  case atStart => exact ⟨0, k, Nat.zero_le _, rfl, rfl, rfl, K0.out, TurnM.refl _ _ _⟩
  case round =>
    obtain ⟨c, x, hc, hx, rfl, rfl, hR, hT⟩ := hrel
    clear K0
    by_cases hlt : c < n
    · have hlti : (c : Int) < (n : Int) := by omega
      obtain ⟨g, rfl⟩ : ∃ g, a = some ⟨g, 0, none⟩ := by
        rcases own_shape hR.1 with ⟨_, h0, _⟩ | ⟨g, _, e, _⟩
        · omega
        · exact ⟨g, e⟩
      have hgB := hR.2 _ rfl
      have KR : Hid (RowT wr B E (some ⟨g, 0, none⟩) n cap (fun i => if i < c then mtxt (k + i) else S i)) := hR
      have KT : Hid (TurnM w wr B E) := hT
      clear hR hT
      go_wp2_with fail
      refine (markText_any x _ (by omega)).mono ?_
      rintro e w1 ⟨rfl, hb1⟩
      have hR1 := KR.out.below hb1
      obtain ⟨old, hold⟩ : ∃ v, w1.cell? ⟨g, c, none⟩ = some v := by
        rw [World.ownsRow.cellAt hR1.1 c (by omega)]
        exact ⟨_, sL_get _ _ _ hlt⟩
      have hfr := World.ownsRow.frozenAt hR1.1 c
      have hst := World.ownsRow.stored hR1.1 c (.string (mtxt x))
      rw [sL_set _ _ _ _ hlt] at hst
      have HO : Hid (RowT (w1.setCell ⟨g, c, none⟩ (.string (mtxt x))) B E (some ⟨g, 0, none⟩) n cap (fun i => if i < c + 1 then mtxt (k + i) else S i)) := ⟨OwnT.congr hst.1 (fun i _ => by
        by_cases e : i = c
        · subst e; simp [hx]
        · by_cases e2 : i < c
          · simp [e, e2, show i < c + 1 by omega]
          · simp [e, e2, show ¬ i < c + 1 by omega]), hR1.2⟩
      have HT : Hid (TurnM w (w1.setCell ⟨g, c, none⟩ (.string (mtxt x))) B E) := (KT.out.trans (TurnM.ofBelow B E hb1)).trans (TurnM.set w1 c _ hgB.1 hgB.2)
      generalize mtxt x = mx at HO HT
      clear hst hR1 KR KT
      go_wp2
      go_roundw
      case rel => exact ⟨c + 1, x + 1, by omega, by omega, by go_num, by go_num, HO.out, HT.out⟩
      case measure => simp [intOf] <;> omega
    · obtain rfl : c = n := by omega
      subst hx
      have HR : Hid (RowT wr B E a c cap (fun i => mtxt (k + i))) := ⟨hR.1.congr (fun i hi => if_pos hi), hR.2⟩
      have HT : Hid (TurnM w wr B E) := hT
      clear hR hT
      go_wp2
      go_ret
      exact ⟨rfl, HR.out, HT.out⟩
set_option maxHeartbeats 1000000 in
theorem heldT_any (a : Option Addr) (n cap k q : Nat) (w : World) (h : TxtAt w a n (fun i => mtxt (k + i))) (hn : n ≤ 1000) (hk : k ≤ 1000000) (hq : k + n = q) :
    Calls Try.prog 56 #[.slice a n cap, .int .i64 (k : Int)] w fun e w' => e = .returned (.int .i64 (q : Int)) ∧ Below w.heap.size w w' := by
  subst hq
  have KH : Hid (TxtAt w a n (fun i => mtxt (k + i))) := h
  clear h
  go_enter Try.func56, Try.ntmps56
  go_wp2
  go_loopw [1, 5] (fun p i wr => ∃ c x : Nat, c ≤ n ∧ k + c = x ∧ p = .int .i64 (x : Int) ∧ i = .int .i64 (c : Int) ∧ Below w.heap.size w wr) (fun _ i _ => n - (intOf i).toNat)
  case atStart => exact ⟨0, k, Nat.zero_le _, rfl, rfl, rfl, Below.refl _ _⟩
  case round =>
    obtain ⟨c, x, hc, hx, rfl, rfl, hbel⟩ := hrel
    by_cases hlt : c < n
    · have hlti : (c : Int) < (n : Int) := by omega
      obtain ⟨b, off, rfl, hcell⟩ := KH.out.below hbel c hlt
      simp only [hx] at hcell
      have KC : Hid (∀ w, Calls Try.prog 107 #[.int .i64 (x : Int)] w fun e w' => e = .returned (.string (mtxt x)) ∧ Below w.heap.size w w') := fun w => markText_any x w (by omega)
      generalize mtxt x = mx at hcell KC
      have hbq := ba_beq mx
      have hlc := block_lt_of_cell hcell
      go_wp2_with fail
      go_region_held3 (fun w' => w'.cell? ⟨b, off + c, none⟩ = some (.string mx)) (go_keep) ((go_at_call 107; refine Calls.mono (KC.out _) ?_; rintro e w5 ⟨rfl, hb5'⟩; have hb5 := below_of_drew hb5'; clear hb5'; have h50 := (hb5.cell (p := ⟨b, off + c, none⟩) hlc).trans hcell))
      all_goals
        have HB : Hid (Below w.heap.size w w5) := below2 hbel hb5
        clear hb5 h50
        go_wp2
        go_roundw
        case rel => exact ⟨c + 1, x + 1, by omega, by omega, by go_num, by go_num, HB.out⟩
        case measure => simp [intOf] <;> omega
    · obtain rfl : c = n := by omega
      subst hx
      go_wp2
      go_ret
      exact ⟨rfl, hbel⟩
end Go.Proofs.Ytmggogdnfgkljaa
