/- Lists of texts in memory; the laws' own helpers over them: a copy, equal ones, their length, marks. Conditions: at most 2^20 texts. -/
import Derived.Test.YtkcnpkkihbpnmaaDoorD6
import Derived.Deep.Strs
import Derived.Deep.RegionHeld3
import Derived.Deep.AppendLies
import Derived.Test.YtkcnpkkihbpnmaaDoorD5
import Derived.Test.YtkcnpkkihbpnmaaDoorRows
namespace Go.Proofs.YtkcnpkkihbpnmaaDoor
set_option maxRecDepth 2000
open Go.ChangeShapes Go.WideShapes Go.ChangeAt Go.RowKit

theorem Tryd.infoStr : (Tryd.prog.info? 9).map (fun i => (i.zero, i.size, i.bytes)) = some (some (.string ByteArray.empty), 1, 16) := by kernel_rfl
/-- A list of texts that is read. -/
def TxtAt (w : World) (a : Option Addr) (n : Nat) (S : Nat → ByteArray) : Prop := ∀ i, i < n → ∃ b off, a = some ⟨b, off, none⟩ ∧ w.cell? ⟨b, off + i, none⟩ = some (.string (S i))
theorem TxtAt.below {w w' : World} {a : Option Addr} {n : Nat} {S : Nat → ByteArray} (h : TxtAt w a n S) (hb : Below w.heap.size w w') : TxtAt w' a n S := fun i hi => by
  obtain ⟨b, off, e, hc⟩ := h i hi
  exact ⟨b, off, e, (hb.cell (p := ⟨b, off + i, none⟩) (block_lt_of_cell hc)).trans hc⟩
theorem TxtAt.congr {w : World} {a : Option Addr} {n : Nat} {S S' : Nat → ByteArray} (h : TxtAt w a n S) (e : ∀ i, i < n → S i = S' i) : TxtAt w a n S' := fun i hi => by
  obtain ⟨b, off, ea, hc⟩ := h i hi
  exact ⟨b, off, ea, by rw [← e i hi]; exact hc⟩
theorem TxtAt.some {w : World} {a : Option Addr} {n : Nat} {S : Nat → ByteArray} (h : TxtAt w a n S) (hn : 0 < n) : ∃ b off, a = some ⟨b, off, none⟩ ∧ ∀ i, i < n → w.cell? ⟨b, off + i, none⟩ = .some (.string (S i)) := by
  obtain ⟨b, off, e, _⟩ := h 0 hn
  refine ⟨b, off, e, fun i hi => ?_⟩
  obtain ⟨b', off', e', hc⟩ := h i hi
  rw [e] at e'
  simp at e'
  obtain ⟨rfl, rfl⟩ := e'
  exact hc
/-- Texts in a row. -/
def sL (S : Nat → ByteArray) (n : Nat) : List Value := (List.range n).map fun i => Value.string (S i)
theorem sL_len (S : Nat → ByteArray) (n : Nat) : (sL S n).length = n := by simp [sL]
theorem sL_get (S : Nat → ByteArray) (n i : Nat) (h : i < n) : (sL S n)[i]? = some (Value.string (S i)) := by simp [sL, h]
theorem sL_congr {S S' : Nat → ByteArray} {n : Nat} (h : ∀ i, i < n → S i = S' i) : sL S n = sL S' n := by
  unfold sL
  apply List.map_congr_left
  intro i hi
  rw [h i (List.mem_range.1 hi)]
theorem sL_set (S : Nat → ByteArray) (n k : Nat) (s : ByteArray) (h : k < n) : (sL S n).set k (.string s) = sL (fun i => if i = k then s else S i) n := by
  apply List.ext_getElem?
  intro i
  rw [List.getElem?_set]
  by_cases hi : i < n
  · by_cases e : k = i
    · subst e; simp [sL, h]
    · simp [sL, hi, e, Ne.symm e]
  · by_cases e : k = i
    · omega
    · rw [if_neg e, List.getElem?_eq_none (by rw [sL_len]; omega), List.getElem?_eq_none (by rw [sL_len]; omega)]
theorem sL_empty (n : Nat) : sL (fun _ => ByteArray.empty) n = List.replicate n (Value.string ByteArray.empty) := by
  apply List.ext_getElem?
  intro i
  by_cases hi : i < n
  · rw [sL_get _ _ _ hi]; simp [hi]
  · rw [List.getElem?_eq_none (by rw [sL_len]; omega), List.getElem?_eq_none (by simp; omega)]
/-- A list of texts of ours. -/
def OwnT (w : World) (B : Nat) (a : Option Addr) (n cap : Nat) (S : Nat → ByteArray) : Prop := w.ownsRow B 9 1 (.slice a n cap) n (sL S n)
theorem OwnT.at {w : World} {B : Nat} {a : Option Addr} {n cap : Nat} {S : Nat → ByteArray} (h : OwnT w B a n cap S) : TxtAt w a n S := by
  intro i hi
  rcases own_shape h with ⟨rfl, rfl, rfl⟩ | ⟨g, cur, rfl, _⟩
  · omega
  · exact ⟨g, 0, rfl, by rw [Nat.zero_add, h.cellAt i (by omega), sL_get _ _ _ hi]⟩
theorem OwnT.below {w w' : World} {B : Nat} {a : Option Addr} {n cap : Nat} {S : Nat → ByteArray} (h : OwnT w B a n cap S) (hb : Below w.heap.size w w') : OwnT w' B a n cap S := ownsRow_below h hb
theorem OwnT.congr {w : World} {B : Nat} {a : Option Addr} {n cap : Nat} {S S' : Nat → ByteArray} (h : OwnT w B a n cap S) (e : ∀ i, i < n → S i = S' i) : OwnT w B a n cap S' := by
  unfold OwnT at *
  rw [← sL_congr e]
  exact h
theorem OwnT.base {w : World} {B B' : Nat} {a : Option Addr} {n cap : Nat} {S : Nat → ByteArray} (h : OwnT w B a n cap S) (hB : B' ≤ B) : OwnT w B' a n cap S := own_base h hB
theorem OwnT.nil (w : World) (B : Nat) (S : Nat → ByteArray) : OwnT w B none 0 0 S := World.ownsRow_nil w B _ _
theorem ba_beq (s : ByteArray) : (s.toList == s.toList) = true := by simp
set_option maxHeartbeats 1000000 in
theorem eqT_same (a b : Option Addr) (n ca cb : Nat) (S : Nat → ByteArray) (w : World) (ha : TxtAt w a n S) (hb : TxtAt w b n S) (hn : n ≤ 1048576) :
    Calls Tryd.prog 68 #[.slice a n ca, .slice b n cb] w fun e w' => e = .returned (.bool true) ∧ Below w.heap.size w w' := by
  go_enter Tryd.func68, Tryd.ntmps68
  go_wp2
  go_loopw [5] (fun i wr => ∃ k : Nat, k ≤ n ∧ i = .int .i64 k ∧ Below w.heap.size w wr) (fun i _ => n - (intOf i).toNat)
  case atStart => exact ⟨0, Nat.zero_le _, rfl, Below.refl _ _⟩
  case round =>
    obtain ⟨k, hk, rfl, hbel⟩ := hrel
    have ha' := ha.below hbel
    have hb' := hb.below hbel
    clear ha hb
    by_cases hlt : k < n
    · obtain ⟨ba, oa, rfl, hca⟩ := ha' k hlt
      obtain ⟨bb, ob, rfl, hcb⟩ := hb' k hlt
      have hlti : (k : Int) < (n : Int) := by omega
      clear ha' hb'
      generalize S k = s at hca hcb
      have hbq := ba_beq s
      go_wp2
      go_quiet (fail)
      go_wp2
      go_roundw
      case rel => exact ⟨k + 1, by omega, by go_num, below_drewN hbel _⟩
      case measure => simp [intOf]; omega
    · go_wp2
      go_ret
      exact ⟨rfl, hbel⟩
set_option maxHeartbeats 1000000 in
theorem toT_any (a : Option Addr) (n cap : Nat) (S : Nat → ByteArray) (w : World) (h : TxtAt w a n S) (hn : n ≤ 1048576) :
    Calls Tryd.prog 61 #[.slice a n cap] w fun e w' => e = .returned (.slice (some ⟨w.heap.size, 0, none⟩) n n) ∧ OwnT w' w.heap.size (some ⟨w.heap.size, 0, none⟩) n n S ∧ Below w.heap.size w w' := by
  obtain ⟨i0, hi, hz0, hz1, hz2⟩ := info_parts Tryd.infoStr
  have KH : Hid (TxtAt w a n S) := h
  clear h
  go_enter Tryd.func61, Tryd.ntmps61
  go_wp2_with (at_make; refine wpList_make_full _ rfl _ _ 91 rfl w.heap.size 9 i0 (.string ByteArray.empty) 1 Tryd.underlying91 hi hz0 hz1 .i64 .i64 _ _ n rfl rfl rfl rfl (by rw [hz2]; omega) (by unfold maxLen; omega) (Nat.le_refl _) ?_; intro w1 hown hgrow)
  have hb1 : Below w.heap.size w w1 := (Below.refl _ _).grown hgrow (Nat.le_refl _) (by simp)
  have ho1 : OwnT w1 w.heap.size (some ⟨w.heap.size, 0, none⟩) n n (fun i => if i < 0 then S i else ByteArray.empty) := by
    have e : sL (fun i => if i < 0 then S i else ByteArray.empty) n = List.replicate n (Value.string ByteArray.empty) := by rw [← sL_empty]; exact sL_congr (fun i _ => by simp)
    unfold OwnT
    rw [e]
    simpa [Value.cells, toList_madeCells_one] using hown
  clear hown hgrow
  go_loopw [4] (fun i wr => ∃ k : Nat, k ≤ n ∧ i = .int .i64 k ∧ OwnT wr w.heap.size (some ⟨w.heap.size, 0, none⟩) n n (fun i => if i < k then S i else ByteArray.empty) ∧ Below w.heap.size w wr) (fun i _ => n - (intOf i).toNat)
  case atStart => exact ⟨0, Nat.zero_le _, rfl, ho1, hb1⟩
  case round =>
    obtain ⟨k, hk, rfl, hown, hbel⟩ := hrel
    clear ho1 hb1
    by_cases hlt : k < n
    · obtain ⟨b, off, rfl, hc⟩ := KH.out.below hbel k hlt
      have hlti : (k : Int) < (n : Int) := by omega
      obtain ⟨old, hold⟩ : ∃ v, wr.cell? ⟨w.heap.size, k, none⟩ = some v := by
        rw [World.ownsRow.cellAt hown k (by omega)]
        exact ⟨_, sL_get _ _ _ hlt⟩
      have hfr := World.ownsRow.frozenAt hown k
      have hst := World.ownsRow.stored hown k (.string (S k))
      rw [sL_set _ _ _ _ hlt] at hst
      have HO : Hid (OwnT (wr.setCell ⟨w.heap.size, k, none⟩ (.string (S k))) w.heap.size (some ⟨w.heap.size, 0, none⟩) n n (fun i => if i < k + 1 then S i else ByteArray.empty)) := OwnT.congr hst.1 (fun i _ => by
        by_cases e : i = k
        · simp [e]
        · by_cases e2 : i < k
          · simp [e, e2, show i < k + 1 by omega]
          · simp [e, e2, show ¬ i < k + 1 by omega])
      have hne : Below w.heap.size w (wr.setCell ⟨w.heap.size, k, none⟩ (.string (S k))) := hbel.setCell (Nat.le_refl _) _
      clear hst hown
      go_wp2
      go_roundw
      case rel => exact ⟨k + 1, by omega, by go_num, HO.out, hne⟩
      case measure => simp [intOf]; omega
    · obtain rfl : k = n := by omega
      have HO : Hid (OwnT wr w.heap.size (some ⟨w.heap.size, 0, none⟩) k k S) := hown.congr (fun i hi => if_pos hi)
      clear hown
      go_wp2
      go_ret
      exact ⟨rfl, HO.out, hbel⟩
set_option maxHeartbeats 1000000 in
theorem szT_any (a : Option Addr) (n cap : Nat) (S : Nat → ByteArray) (l : Nat) (w : World) (h : TxtAt w a n S) (hl : l ≤ 1048576) (hn : n ≤ maxLen) (hL : ∀ i, i < n → (S i).size ≤ maxLen) :
    Calls Tryd.prog 59 #[.slice a n cap, .int .i64 (l : Int)] w fun e w' => e = .returned (.int .i64 (szF (fun i => (S i).size) n l)) ∧ w' = w := by
  unfold maxLen at hn hL
  by_cases h1 : n ≤ l
  · obtain ⟨d, hd⟩ : ∃ d, l - n = d := ⟨_, rfl⟩
    have hw : IntKind.i64.wrap ((l : Int) - (n : Int)) = (d : Int) := by rw [IntKind.wrap_i64]; omega
    have h0 : ¬ ((d : Int) < 0) := by omega
    have KL : Hid _ := hL
    have KH : Hid (TxtAt w a n S) := h
    clear hL h
    go_enter Tryd.func59, Tryd.ntmps59
    go_wp2
    go_loop [1, 5] (fun p i => ∃ c q : Nat, c ≤ n ∧ q ≤ 1048576 ∧ Hid (tot (fun i => (S i).size) c + q = d) ∧ p = .int .i64 (q : Int) ∧ i = .int .i64 (c : Int)) (fun _ i => n - (intOf i).toNat)
    case atStart => exact ⟨0, d, Nat.zero_le _, by omega, by show 0 + d = d; omega, rfl, rfl⟩
    case round =>
      obtain ⟨c, q, hc, hq, HT, rfl, rfl⟩ := hrel
      clear hw h0
      by_cases hlt : c < n
      · obtain ⟨b, off, rfl, hcell⟩ := KH.out c hlt
        have hLc := KL.out c hlt
        have hti := tot_le (fun i => (S i).size) hlt
        have hlti : (c : Int) < (n : Int) := by omega
        have HT' := HT.out
        obtain ⟨s, hs⟩ : ∃ s, S c = s := ⟨_, rfl⟩
        have hti' : tot (fun i => (S i).size) c + s.size ≤ tot (fun i => (S i).size) n := by rw [← hs]; exact hti
        have KTS : Hid (tot (fun i => (S i).size) (c + 1) = tot (fun i => (S i).size) c + s.size) := by rw [← hs]; rfl
        rw [hs] at hcell hLc
        obtain ⟨lc, hlc⟩ : ∃ lc, s.size = lc := ⟨_, rfl⟩
        rw [hlc] at hLc hti' KTS
        clear hti hs
        by_cases h2 : lc ≤ q
        · obtain ⟨q', hq'⟩ : ∃ q', q - lc = q' := ⟨_, rfl⟩
          have hw2 : IntKind.i64.wrap ((q : Int) - (lc : Int)) = (q' : Int) := by rw [IntKind.wrap_i64]; omega
          have h3 : ¬ ((q' : Int) < 0) := by omega
          have HT2 : Hid (tot (fun i => (S i).size) (c + 1) + q' = d) := by show _ = _; rw [KTS.out]; omega
          have hq2 : q' ≤ 1048576 := by omega
          clear HT HT' hti' KTS
          go_wp2
          go_round
          case rel => exact ⟨c + 1, q', by omega, hq2, HT2, rfl, by go_num⟩
          case measure => simp [intOf] <;> omega
        · have hw2 : IntKind.i64.wrap ((q : Int) - (lc : Int)) = (q : Int) - (lc : Int) := by rw [IntKind.wrap_i64]; omega
          have h3 : (q : Int) - (lc : Int) < 0 := by omega
          have HR : Hid (szF (fun i => (S i).size) n l = -1) := by
            show _ = _
            unfold szF
            rw [if_neg (by omega)]
          clear HT HT' hti' KTS
          go_wp2
          go_ret
          exact ⟨ret_int HR.out.symm, rfl⟩
      · obtain rfl : c = n := by omega
        have HR : Hid (szF (fun i => (S i).size) c l = (q : Int)) := by
          have := HT.out
          show _ = _
          unfold szF
          rw [if_pos (by omega)]
          omega
        clear KH
        go_wp2
        go_ret
        exact ⟨ret_int HR.out.symm, rfl⟩
  · have h0 : (l : Int) - (n : Int) < 0 := by omega
    have hw : IntKind.i64.wrap ((l : Int) - (n : Int)) = (l : Int) - (n : Int) := by rw [IntKind.wrap_i64]; omega
    have HR : Hid (szF (fun i => (S i).size) n l = -1) := by show _ = _; unfold szF; rw [if_neg (by omega)]
    clear h hL
    go_enter Tryd.func59, Tryd.ntmps59
    go_wp2
    go_ret
    exact ⟨ret_int HR.out.symm, rfl⟩
end Go.Proofs.YtkcnpkkihbpnmaaDoor
/- The laws' marks over lists of texts. Conditions: at most 1000 texts, marks up to 10^6. -/
namespace Go.Proofs.YtkcnpkkihbpnmaaDoor
set_option maxRecDepth 2000
open Go.ChangeShapes Go.WideShapes Go.ChangeAt Go.RowKit

/-- A list of texts of ours that lies from block 'B' on, ahead of block 'E'. -/
def RowT (w : World) (B E : Nat) (a : Option Addr) (n cap : Nat) (S : Nat → ByteArray) : Prop := OwnT w B a n cap S ∧ ∀ x, a = some x → B ≤ x.block ∧ x.block < E
theorem OwnT.row {w : World} {B : Nat} {a : Option Addr} {n cap : Nat} {S : Nat → ByteArray} (h : OwnT w B a n cap S) : RowT w B w.heap.size a n cap S := by
  refine ⟨h, fun x e => ?_⟩
  subst e
  exact World.ownsRow.lt h x.block rfl
theorem RowT.below {w w' : World} {B E : Nat} {a : Option Addr} {n cap : Nat} {S : Nat → ByteArray} (h : RowT w B E a n cap S) (hb : Below w.heap.size w w') : RowT w' B E a n cap S := ⟨h.1.below hb, h.2⟩
theorem RowT.at {w : World} {B E : Nat} {a : Option Addr} {n cap : Nat} {S : Nat → ByteArray} (h : RowT w B E a n cap S) : TxtAt w a n S := h.1.at
theorem RowT.turned {w w' : World} {B E B' E' : Nat} {a : Option Addr} {n cap : Nat} {S : Nat → ByteArray} (h : RowT w B E a n cap S) (ht : TurnM w w' B' E') (hd : E ≤ B' ∨ E' ≤ B) : RowT w' B E a n cap S :=
  ⟨own_turn2 h.1 ht (fun x e hx => by have := h.2 x e; omega), h.2⟩
theorem TurnM.set (w : World) {B E g : Nat} (j : Nat) (v : Value) (hB : B ≤ g) (hE : g < E) : TurnM w (w.setCell ⟨g, j, none⟩ v) B E := ⟨rfl, rfl, rfl, by simp, fun i _ hi => heap_setCell_other w ⟨g, j, none⟩ i v (fun e => by have e' : i = g := e; omega)⟩
end Go.Proofs.YtkcnpkkihbpnmaaDoor
/- A piece as the machine holds it. Definitions and lemmas; no walk. -/
namespace Go.Proofs.YtkcnpkkihbpnmaaDoor
set_option maxRecDepth 2000
open Go.ChangeShapes Go.WideShapes Go.ChangeAt Go.RowKit

/-- A piece as the machine holds it. -/
abbrev pcC (r : ByteArray) (k n i : Int) (b : ByteArray) (v : Value) : Array Value := #[.string r, .int .i64 k, .int .i64 n, .int .i64 i, .string b, v]
abbrev pcV (r : ByteArray) (k n i : Int) (b : ByteArray) (v : Value) : Value := .agg (pcC r k n i b v)
theorem Tryd.infoPc : (Tryd.prog.info? 100).map (·.size) = some 6 := by kernel_rfl
theorem OwnT.setFar {w : World} {B g o : Nat} {a : Option Addr} {n c : Nat} {S : Nat → ByteArray} {v : Value} (h : OwnT w B a n c S) (hB : g < B) : OwnT (w.setCell ⟨g, o, none⟩ v) B a n c S :=
  own_kept h (grown_set _ _ _ _) (fun x e => by subst e; have := (World.ownsRow.lt h x.block rfl).1; omega)
end Go.Proofs.YtkcnpkkihbpnmaaDoor
/- Marks over long lists of texts; a list of texts that came in. Conditions: at most 2^20 texts. -/
namespace Go.Proofs.YtkcnpkkihbpnmaaDoor
set_option maxRecDepth 2000
open Go.ChangeShapes Go.WideShapes Go.ChangeAt Go.RowKit

/-- A list of texts that came in. -/
def IsTxt (w : World) (a : Option Addr) (n : Nat) (S : Nat → ByteArray) : Prop := TxtAt w a n S ∧ n ≤ maxLen ∧ ∀ i, i < n → (S i).size ≤ maxLen
/-- As the form reads it. -/
theorem isTxt_of {w : World} {a : Addr} {len cap m : Nat} {S : Nat → ByteArray} (hl : len ≤ cap) (hm : cap ≤ maxLen) (hlm : len ≤ m) (h : ∀ i, i < m → w.cell? (a.add i) = some (.string (S i)) ∧ (S i).size ≤ maxLen) : IsTxt w (some a) len S := by
  refine ⟨fun i hi => ?_, Nat.le_trans hl hm, fun i hi => (h i (by omega)).2⟩
  have h1 := (h i (by omega)).1
  obtain ⟨b, off, spot⟩ := a
  have hspot : spot = none := by
    have h0 := (h 0 (by omega)).1
    simpa [Addr.add] using World.cell?_spot h0
  subst hspot
  have ea : ∀ (b off i : Nat), (⟨b, off, none⟩ : Addr).add i = ⟨b, off + i, none⟩ := fun b off i => by unfold Addr.add; split <;> simp_all
  rw [ea] at h1
  exact ⟨b, off, rfl, h1⟩
end Go.Proofs.YtkcnpkkihbpnmaaDoor
