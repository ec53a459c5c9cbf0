/- Rows of cells of our own; what a turn of other blocks leaves of them; sums of lengths. Definitions and lemmas; no walk. -/
import Derived.Test.YtpomffkpjldloaaGreatI6
import Derived.Shelf.Abstract
import Derived.Deep.RegionHeld3
import Derived.Deep.AppendLies
import Derived.Deep.Strs
import Derived.Test.YtpomffkpjldloaaGreatI5
import Derived.Test.YtpomffkpjldloaaGreatRows
namespace Go.Proofs.YtpomffkpjldloaaGreat
set_option maxRecDepth 2000
open Go.ChangeShapes Go.WideShapes Go.ChangeAt Go.RowKit

theorem below_of_drew {w w1 : World} (h : Below w.drew.heap.size w.drew w1) : Below w.heap.size w w1 := ⟨h.os, h.tape, h.output, h.size, h.block⟩
theorem own_shape {w : World} {B e s : Nat} {a : Option Addr} {n cap n' : Nat} {xs : List Value} (h : w.ownsRow B e s (.slice a n cap) n' xs) :
    (a = none ∧ n = 0 ∧ cap = 0) ∨ ∃ g cur, a = some ⟨g, 0, none⟩ ∧ B ≤ g ∧ w.heap[g]? = some (.cells cur e (0, 0)) ∧ n ≤ cap := by
  rcases h.2 with ⟨h', _⟩ | ⟨g, cap', cur, h', hb, hg, hn, _⟩
  · cases h'; exact .inl ⟨rfl, rfl, rfl⟩
  · cases h'; exact .inr ⟨g, cur, rfl, hb, hg, hn⟩
theorem own_kept {w w' : World} {B e s n : Nat} {a : Option Addr} {l c b : Nat} {xs : List Value} (h : w.ownsRow B e s (.slice a l c) n xs) (hg : w.grownBy w' (some b)) (hn : ∀ x, a = some x → x.block ≠ b) : w'.ownsRow B e s (.slice a l c) n xs := by
  refine World.ownsRow.kept h hg ?_
  cases a with
  | none => exact .inl rfl
  | some x => exact .inr (by simp [Value.ownBlock]; exact hn x rfl)
theorem grown_set (w : World) (g j : Nat) (v : Value) : w.grownBy (w.setCell ⟨g, j, none⟩ v) (some g) :=
  ⟨rfl, rfl, rfl, by simp, fun i _ hi => heap_setCell_other w ⟨g, j, none⟩ i _ (fun e => hi (by simp [e]))⟩
/-- Only blocks from 'B' on, ahead of 'E', have turned. -/
structure TurnM (w w' : World) (B E : Nat) : Prop where
  os : w'.os = w.os
  tape : w'.tape = w.tape
  output : w'.output = w.output
  size : w.heap.size ≤ w'.heap.size
  block : ∀ j, j < w.heap.size → (j < B ∨ E ≤ j) → w'.heap[j]? = w.heap[j]?
theorem TurnM.refl (w : World) (B E : Nat) : TurnM w w B E := ⟨rfl, rfl, rfl, Nat.le_refl _, fun _ _ _ => rfl⟩
theorem TurnM.trans {w w1 w2 : World} {B E : Nat} (h : TurnM w w1 B E) (h2 : TurnM w1 w2 B E) : TurnM w w2 B E :=
  ⟨h2.os.trans h.os, h2.tape.trans h.tape, h2.output.trans h.output, Nat.le_trans h.size h2.size, fun j hj hr => (h2.block j (Nat.lt_of_lt_of_le hj h.size) hr).trans (h.block j hj hr)⟩
theorem TurnM.below {w w' : World} {B E s : Nat} (h : TurnM w w' B E) (hs : s ≤ B) (hw : s ≤ w.heap.size) : Below s w w' :=
  ⟨h.os, h.tape, h.output, h.size, fun j hj => h.block j (by omega) (.inl (by omega))⟩
theorem own_turn {w w' : World} {B E B' E' e s n l c : Nat} {a : Option Addr} {xs : List Value} (h : w.ownsRow B e s (.slice a l c) n xs) (ht : TurnM w w' B' E') (hE : ∀ x, a = some x → x.block < E) (hd : E ≤ B' ∨ E' ≤ B) : w'.ownsRow B e s (.slice a l c) n xs := by
  refine ⟨h.1, ?_⟩
  rcases h.2 with h' | ⟨g, cap, cur, h1, h2, h3, h4⟩
  · exact .inl h'
  · refine .inr ⟨g, cap, cur, h1, h2, ?_, h4⟩
    cases h1
    have := hE _ rfl
    rw [ht.block g (Array.getElem?_eq_some_iff.1 h3).1 (by simp at this; omega)]
    exact h3
theorem own_turn2 {w w' : World} {B b e0 e s n l c : Nat} {a : Option Addr} {xs : List Value} (h : w.ownsRow B e s (.slice a l c) n xs) (ht : TurnM w w' b e0) (hx : ∀ x, a = some x → ¬ (b ≤ x.block ∧ x.block < e0)) : w'.ownsRow B e s (.slice a l c) n xs := by
  refine ⟨h.1, ?_⟩
  rcases h.2 with h' | ⟨g, cap, cur, h1, h2, h3, h4⟩
  · exact .inl h'
  · refine .inr ⟨g, cap, cur, h1, h2, ?_, h4⟩
    cases h1
    have := hx _ rfl
    rw [ht.block g (Array.getElem?_eq_some_iff.1 h3).1 (by simp at this; omega)]
    exact h3
/-- How many numbers the rows ahead of 'n' hold. -/
def tot (L : Nat → Nat) : Nat → Nat
  | 0 => 0
  | n + 1 => tot L n + L n
theorem tot_le (L : Nat → Nat) {i n : Nat} (h : i < n) : tot L i + L i ≤ tot L n := by
  induction n with
  | zero => omega
  | succ n ih =>
    by_cases e : i = n
    · subst e; exact Nat.le_refl _
    · have := ih (by omega)
      show _ ≤ tot L n + L n
      omega
theorem own_base {w : World} {B B' e s n : Nat} {v : Value} {xs : List Value} (h : w.ownsRow B e s v n xs) (hB : B' ≤ B) : w.ownsRow B' e s v n xs := by
  refine ⟨h.1, ?_⟩
  rcases h.2 with h' | ⟨g, cap, cur, h1, h2, h3⟩
  · exact .inl h'
  · exact .inr ⟨g, cap, cur, h1, by omega, h3⟩
/-- What is left of 'l' behind 'n' rows, or that it is too little. -/
def szF (L : Nat → Nat) (n l : Nat) : Int := if n + tot L n ≤ l then ((l - (n + tot L n) : Nat) : Int) else -1
end Go.Proofs.YtpomffkpjldloaaGreat
/- append onto a row of ours, as laws of the walk over any program. No condition but what each says. -/
namespace Go.Proofs.YtpomffkpjldloaaGreat
set_option maxRecDepth 2000
open Go.ChangeShapes Go.WideShapes Go.ChangeAt Go.RowKit

end Go.Proofs.YtpomffkpjldloaaGreat
/- Lists of texts in memory; the laws' own helpers over them: a copy, equal ones, their length, marks. Conditions: at most 2^20 texts. -/
namespace Go.Proofs.YtpomffkpjldloaaGreat
set_option maxRecDepth 2000
open Go.ChangeShapes Go.WideShapes Go.ChangeAt Go.RowKit

theorem Tryz.infoStr : (Tryz.prog.info? 9).map (fun i => (i.zero, i.size, i.bytes)) = some (some (.string ByteArray.empty), 1, 16) := by kernel_rfl
/-- A list of texts that is read. -/
def TxtAt (w : World) (a : Option Addr) (n : Nat) (S : Nat → ByteArray) : Prop := ∀ i, i < n → ∃ b off, a = some ⟨b, off, none⟩ ∧ w.cell? ⟨b, off + i, none⟩ = some (.string (S i))
theorem TxtAt.below {w w' : World} {a : Option Addr} {n : Nat} {S : Nat → ByteArray} (h : TxtAt w a n S) (hb : Below w.heap.size w w') : TxtAt w' a n S := fun i hi => by
  obtain ⟨b, off, e, hc⟩ := h i hi
  exact ⟨b, off, e, (hb.cell (p := ⟨b, off + i, none⟩) (block_lt_of_cell hc)).trans hc⟩
theorem TxtAt.congr {w : World} {a : Option Addr} {n : Nat} {S S' : Nat → ByteArray} (h : TxtAt w a n S) (e : ∀ i, i < n → S i = S' i) : TxtAt w a n S' := fun i hi => by
  obtain ⟨b, off, ea, hc⟩ := h i hi
  exact ⟨b, off, ea, by rw [← e i hi]; exact hc⟩
theorem TxtAt.some {w : World} {a : Option Addr} {n : Nat} {S : Nat → ByteArray} (h : TxtAt w a n S) (hn : 0 < n) : ∃ b off, a = some ⟨b, off, none⟩ ∧ ∀ i, i < n → w.cell? ⟨b, off + i, none⟩ = .some (.string (S i)) := by
  obtain ⟨b, off, e, _⟩ := h 0 hn
  refine ⟨b, off, e, fun i hi => ?_⟩
  obtain ⟨b', off', e', hc⟩ := h i hi
  rw [e] at e'
  simp at e'
  obtain ⟨rfl, rfl⟩ := e'
  exact hc
/-- Texts in a row. -/
def sL (S : Nat → ByteArray) (n : Nat) : List Value := (List.range n).map fun i => Value.string (S i)
theorem sL_len (S : Nat → ByteArray) (n : Nat) : (sL S n).length = n := by simp [sL]
theorem sL_get (S : Nat → ByteArray) (n i : Nat) (h : i < n) : (sL S n)[i]? = some (Value.string (S i)) := by simp [sL, h]
theorem sL_congr {S S' : Nat → ByteArray} {n : Nat} (h : ∀ i, i < n → S i = S' i) : sL S n = sL S' n := by
  unfold sL
  apply List.map_congr_left
  intro i hi
  rw [h i (List.mem_range.1 hi)]
theorem sL_set (S : Nat → ByteArray) (n k : Nat) (s : ByteArray) (h : k < n) : (sL S n).set k (.string s) = sL (fun i => if i = k then s else S i) n := by
  apply List.ext_getElem?
  intro i
  rw [List.getElem?_set]
  by_cases hi : i < n
  · by_cases e : k = i
    · subst e; simp [sL, h]
    · simp [sL, hi, e, Ne.symm e]
  · by_cases e : k = i
    · omega
    · rw [if_neg e, List.getElem?_eq_none (by rw [sL_len]; omega), List.getElem?_eq_none (by rw [sL_len]; omega)]
theorem sL_empty (n : Nat) : sL (fun _ => ByteArray.empty) n = List.replicate n (Value.string ByteArray.empty) := by
  apply List.ext_getElem?
  intro i
  by_cases hi : i < n
  · rw [sL_get _ _ _ hi]; simp [hi]
  · rw [List.getElem?_eq_none (by rw [sL_len]; omega), List.getElem?_eq_none (by simp; omega)]
/-- A list of texts of ours. -/
def OwnT (w : World) (B : Nat) (a : Option Addr) (n cap : Nat) (S : Nat → ByteArray) : Prop := w.ownsRow B 9 1 (.slice a n cap) n (sL S n)
theorem OwnT.at {w : World} {B : Nat} {a : Option Addr} {n cap : Nat} {S : Nat → ByteArray} (h : OwnT w B a n cap S) : TxtAt w a n S := by
  intro i hi
  rcases own_shape h with ⟨rfl, rfl, rfl⟩ | ⟨g, cur, rfl, _⟩
  · omega
  · exact ⟨g, 0, rfl, by rw [Nat.zero_add, h.cellAt i (by omega), sL_get _ _ _ hi]⟩
theorem OwnT.below {w w' : World} {B : Nat} {a : Option Addr} {n cap : Nat} {S : Nat → ByteArray} (h : OwnT w B a n cap S) (hb : Below w.heap.size w w') : OwnT w' B a n cap S := ownsRow_below h hb
theorem OwnT.congr {w : World} {B : Nat} {a : Option Addr} {n cap : Nat} {S S' : Nat → ByteArray} (h : OwnT w B a n cap S) (e : ∀ i, i < n → S i = S' i) : OwnT w B a n cap S' := by
  unfold OwnT at *
  rw [← sL_congr e]
  exact h
theorem OwnT.base {w : World} {B B' : Nat} {a : Option Addr} {n cap : Nat} {S : Nat → ByteArray} (h : OwnT w B a n cap S) (hB : B' ≤ B) : OwnT w B' a n cap S := own_base h hB
theorem OwnT.nil (w : World) (B : Nat) (S : Nat → ByteArray) : OwnT w B none 0 0 S := World.ownsRow_nil w B _ _
/-- A list of texts that was answered, in new memory. -/
def ResT (w w' : World) (v : Value) (n : Nat) (S : Nat → ByteArray) : Prop := ∃ a cap, v = .slice a n cap ∧ OwnT w' w.heap.size a n cap S
theorem ResT.none (w w' : World) (S : Nat → ByteArray) : ResT w w' (.slice none 0 0) 0 S := ⟨_, _, rfl, OwnT.nil _ _ _⟩
theorem ResT.congr {w w' : World} {v : Value} {n : Nat} {S S' : Nat → ByteArray} (h : ResT w w' v n S) (e : ∀ i, i < n → S i = S' i) : ResT w w' v n S' := by
  obtain ⟨a, cap, rfl, ho⟩ := h
  exact ⟨a, cap, rfl, ho.congr e⟩
theorem ba_beq (s : ByteArray) : (s.toList == s.toList) = true := by simp
theorem ba_ne {s u : ByteArray} (h : s ≠ u) : (s.toList == u.toList) = false := by
  rw [ByteArray.toList_eq, ByteArray.toList_eq]
  simp only [beq_eq_false_iff_ne, ne_eq]
  intro e
  exact h (ByteArray.ext (Array.toList_inj.1 e))

set_option maxHeartbeats 1000000 in
theorem eqT_same (a b : Option Addr) (n ca cb : Nat) (S : Nat → ByteArray) (w : World) (ha : TxtAt w a n S) (hb : TxtAt w b n S) (hn : n ≤ 1048576) :
    Calls Tryz.prog 79 #[.slice a n ca, .slice b n cb] w fun e w' => e = .returned (.bool true) ∧ Below w.heap.size w w' := by
  go_enter Tryz.func79, Tryz.ntmps79
  go_wp2
  go_loopw [5] (fun i wr => ∃ k : Nat, k ≤ n ∧ i = .int .i64 k ∧ Below w.heap.size w wr) (fun i _ => n - (intOf i).toNat)
  case atStart => exact ⟨0, Nat.zero_le _, rfl, Below.refl _ _⟩
  case round =>
    obtain ⟨k, hk, rfl, hbel⟩ := hrel
    have ha' := ha.below hbel
    have hb' := hb.below hbel
    clear ha hb
    by_cases hlt : k < n
    · obtain ⟨ba, oa, rfl, hca⟩ := ha' k hlt
      obtain ⟨bb, ob, rfl, hcb⟩ := hb' k hlt
      have hlti : (k : Int) < (n : Int) := by omega
      clear ha' hb'
      generalize S k = s at hca hcb
      have hbq := ba_beq s
      go_wp2
      go_quiet (fail)
      go_wp2
      go_roundw
      case rel => exact ⟨k + 1, by omega, by go_num, below_drewN hbel _⟩
      case measure => simp [intOf]; omega
    · go_wp2
      go_ret
      exact ⟨rfl, hbel⟩
set_option maxHeartbeats 1000000 in
theorem toT_any (a : Option Addr) (n cap : Nat) (S : Nat → ByteArray) (w : World) (h : TxtAt w a n S) (hn : n ≤ 1048576) :
    Calls Tryz.prog 73 #[.slice a n cap] w fun e w' => e = .returned (.slice (some ⟨w.heap.size, 0, none⟩) n n) ∧ OwnT w' w.heap.size (some ⟨w.heap.size, 0, none⟩) n n S ∧ Below w.heap.size w w' := by
  obtain ⟨i0, hi, hz0, hz1, hz2⟩ := info_parts Tryz.infoStr
  have KH : Hid (TxtAt w a n S) := h
  clear h
  go_enter Tryz.func73, Tryz.ntmps73
  go_wp2_with (at_make; refine wpList_make_full _ rfl _ _ 96 rfl w.heap.size 9 i0 (.string ByteArray.empty) 1 Tryz.underlying96 hi hz0 hz1 .i64 .i64 _ _ n rfl rfl rfl rfl (by rw [hz2]; omega) (by unfold maxLen; omega) (Nat.le_refl _) ?_; intro w1 hown hgrow)
  have hb1 : Below w.heap.size w w1 := (Below.refl _ _).grown hgrow (Nat.le_refl _) (by simp)
  have ho1 : OwnT w1 w.heap.size (some ⟨w.heap.size, 0, none⟩) n n (fun i => if i < 0 then S i else ByteArray.empty) := by
    have e : sL (fun i => if i < 0 then S i else ByteArray.empty) n = List.replicate n (Value.string ByteArray.empty) := by rw [← sL_empty]; exact sL_congr (fun i _ => by simp)
    unfold OwnT
    rw [e]
    simpa [Value.cells, toList_madeCells_one] using hown
  clear hown hgrow
  go_loopw [4] (fun i wr => ∃ k : Nat, k ≤ n ∧ i = .int .i64 k ∧ OwnT wr w.heap.size (some ⟨w.heap.size, 0, none⟩) n n (fun i => if i < k then S i else ByteArray.empty) ∧ Below w.heap.size w wr) (fun i _ => n - (intOf i).toNat)
  case atStart => exact ⟨0, Nat.zero_le _, rfl, ho1, hb1⟩
  case round =>
    obtain ⟨k, hk, rfl, hown, hbel⟩ := hrel
    clear ho1 hb1
    by_cases hlt : k < n
    · obtain ⟨b, off, rfl, hc⟩ := KH.out.below hbel k hlt
      have hlti : (k : Int) < (n : Int) := by omega
      obtain ⟨old, hold⟩ : ∃ v, wr.cell? ⟨w.heap.size, k, none⟩ = some v := by
        rw [World.ownsRow.cellAt hown k (by omega)]
        exact ⟨_, sL_get _ _ _ hlt⟩
      have hfr := World.ownsRow.frozenAt hown k
      have hst := World.ownsRow.stored hown k (.string (S k))
      rw [sL_set _ _ _ _ hlt] at hst
      have HO : Hid (OwnT (wr.setCell ⟨w.heap.size, k, none⟩ (.string (S k))) w.heap.size (some ⟨w.heap.size, 0, none⟩) n n (fun i => if i < k + 1 then S i else ByteArray.empty)) := OwnT.congr hst.1 (fun i _ => by
        by_cases e : i = k
        · simp [e]
        · by_cases e2 : i < k
          · simp [e, e2, show i < k + 1 by omega]
          · simp [e, e2, show ¬ i < k + 1 by omega])
      have hne : Below w.heap.size w (wr.setCell ⟨w.heap.size, k, none⟩ (.string (S k))) := hbel.setCell (Nat.le_refl _) _
      clear hst hown
      go_wp2
      go_roundw
      case rel => exact ⟨k + 1, by omega, by go_num, HO.out, hne⟩
      case measure => simp [intOf]; omega
    · obtain rfl : k = n := by omega
      have HO : Hid (OwnT wr w.heap.size (some ⟨w.heap.size, 0, none⟩) k k S) := hown.congr (fun i hi => if_pos hi)
      clear hown
      go_wp2
      go_ret
      exact ⟨rfl, HO.out, hbel⟩
set_option maxHeartbeats 1000000 in
theorem szT_any (a : Option Addr) (n cap : Nat) (S : Nat → ByteArray) (l : Nat) (w : World) (h : TxtAt w a n S) (hl : l ≤ 1048576) (hn : n ≤ maxLen) (hL : ∀ i, i < n → (S i).size ≤ maxLen) :
    Calls Tryz.prog 68 #[.slice a n cap, .int .i64 (l : Int)] w fun e w' => e = .returned (.int .i64 (szF (fun i => (S i).size) n l)) ∧ w' = w := by
  unfold maxLen at hn hL
  by_cases h1 : n ≤ l
  · obtain ⟨d, hd⟩ : ∃ d, l - n = d := ⟨_, rfl⟩
    have hw : IntKind.i64.wrap ((l : Int) - (n : Int)) = (d : Int) := by rw [IntKind.wrap_i64]; omega
    have h0 : ¬ ((d : Int) < 0) := by omega
    have KL : Hid _ := hL
    have KH : Hid (TxtAt w a n S) := h
    clear hL h
    go_enter Tryz.func68, Tryz.ntmps68
    go_wp2
    go_loop [1, 5] (fun p i => ∃ c q : Nat, c ≤ n ∧ q ≤ 1048576 ∧ Hid (tot (fun i => (S i).size) c + q = d) ∧ p = .int .i64 (q : Int) ∧ i = .int .i64 (c : Int)) (fun _ i => n - (intOf i).toNat)
    case atStart => exact ⟨0, d, Nat.zero_le _, by omega, by show 0 + d = d; omega, rfl, rfl⟩
    case round =>
      obtain ⟨c, q, hc, hq, HT, rfl, rfl⟩ := hrel
      clear hw h0
      by_cases hlt : c < n
      · obtain ⟨b, off, rfl, hcell⟩ := KH.out c hlt
        have hLc := KL.out c hlt
        have hti := tot_le (fun i => (S i).size) hlt
        have hlti : (c : Int) < (n : Int) := by omega
        have HT' := HT.out
        obtain ⟨s, hs⟩ : ∃ s, S c = s := ⟨_, rfl⟩
        have hti' : tot (fun i => (S i).size) c + s.size ≤ tot (fun i => (S i).size) n := by rw [← hs]; exact hti
        have KTS : Hid (tot (fun i => (S i).size) (c + 1) = tot (fun i => (S i).size) c + s.size) := by rw [← hs]; rfl
        rw [hs] at hcell hLc
        obtain ⟨lc, hlc⟩ : ∃ lc, s.size = lc := ⟨_, rfl⟩
        rw [hlc] at hLc hti' KTS
        clear hti hs
        by_cases h2 : lc ≤ q
        · obtain ⟨q', hq'⟩ : ∃ q', q - lc = q' := ⟨_, rfl⟩
          have hw2 : IntKind.i64.wrap ((q : Int) - (lc : Int)) = (q' : Int) := by rw [IntKind.wrap_i64]; omega
          have h3 : ¬ ((q' : Int) < 0) := by omega
          have HT2 : Hid (tot (fun i => (S i).size) (c + 1) + q' = d) := by show _ = _; rw [KTS.out]; omega
          have hq2 : q' ≤ 1048576 := by omega
          clear HT HT' hti' KTS
          go_wp2
          go_round
          case rel => exact ⟨c + 1, q', by omega, hq2, HT2, rfl, by go_num⟩
          case measure => simp [intOf] <;> omega
        · have hw2 : IntKind.i64.wrap ((q : Int) - (lc : Int)) = (q : Int) - (lc : Int) := by rw [IntKind.wrap_i64]; omega
          have h3 : (q : Int) - (lc : Int) < 0 := by omega
          have HR : Hid (szF (fun i => (S i).size) n l = -1) := by
            show _ = _
            unfold szF
            rw [if_neg (by omega)]
          clear HT HT' hti' KTS
          go_wp2
          go_ret
          exact ⟨ret_int HR.out.symm, rfl⟩
      · obtain rfl : c = n := by omega
        have HR : Hid (szF (fun i => (S i).size) c l = (q : Int)) := by
          have := HT.out
          show _ = _
          unfold szF
          rw [if_pos (by omega)]
          omega
        clear KH
        go_wp2
        go_ret
        exact ⟨ret_int HR.out.symm, rfl⟩
  · have h0 : (l : Int) - (n : Int) < 0 := by omega
    have hw : IntKind.i64.wrap ((l : Int) - (n : Int)) = (l : Int) - (n : Int) := by rw [IntKind.wrap_i64]; omega
    have HR : Hid (szF (fun i => (S i).size) n l = -1) := by show _ = _; unfold szF; rw [if_neg (by omega)]
    clear h hL
    go_enter Tryz.func68, Tryz.ntmps68
    go_wp2
    go_ret
    exact ⟨ret_int HR.out.symm, rfl⟩
end Go.Proofs.YtpomffkpjldloaaGreat
/- The program's functions over polynomials that write or call in an open order: numbers, putting one scaled on top of another, values. Conditions: lists of at most 2^20 numbers, byte numbers. -/
namespace Go.Proofs.YtpomffkpjldloaaGreat
set_option maxRecDepth 2000
open Go.ChangeShapes Go.WideShapes Go.ChangeAt Go.RowKit

end Go.Proofs.YtpomffkpjldloaaGreat
/- The laws' marks over lists of texts. Conditions: at most 1000 texts, marks up to 10^6. -/
namespace Go.Proofs.YtpomffkpjldloaaGreat
set_option maxRecDepth 2000
open Go.ChangeShapes Go.WideShapes Go.ChangeAt Go.RowKit

/-- A list of texts of ours that lies from block 'B' on, ahead of block 'E'. -/
def RowT (w : World) (B E : Nat) (a : Option Addr) (n cap : Nat) (S : Nat → ByteArray) : Prop := OwnT w B a n cap S ∧ ∀ x, a = some x → B ≤ x.block ∧ x.block < E
theorem OwnT.row {w : World} {B : Nat} {a : Option Addr} {n cap : Nat} {S : Nat → ByteArray} (h : OwnT w B a n cap S) : RowT w B w.heap.size a n cap S := by
  refine ⟨h, fun x e => ?_⟩
  subst e
  exact World.ownsRow.lt h x.block rfl
theorem ResT.row {w w' : World} {v : Value} {n : Nat} {S : Nat → ByteArray} (h : ResT w w' v n S) : ∃ a cap, v = .slice a n cap ∧ RowT w' w.heap.size w'.heap.size a n cap S := by
  obtain ⟨a, cap, rfl, ho⟩ := h
  exact ⟨a, cap, rfl, ho.row⟩
theorem RowT.below {w w' : World} {B E : Nat} {a : Option Addr} {n cap : Nat} {S : Nat → ByteArray} (h : RowT w B E a n cap S) (hb : Below w.heap.size w w') : RowT w' B E a n cap S := ⟨h.1.below hb, h.2⟩
theorem RowT.at {w : World} {B E : Nat} {a : Option Addr} {n cap : Nat} {S : Nat → ByteArray} (h : RowT w B E a n cap S) : TxtAt w a n S := h.1.at
theorem RowT.turned {w w' : World} {B E B' E' : Nat} {a : Option Addr} {n cap : Nat} {S : Nat → ByteArray} (h : RowT w B E a n cap S) (ht : TurnM w w' B' E') (hd : E ≤ B' ∨ E' ≤ B) : RowT w' B E a n cap S :=
  ⟨own_turn2 h.1 ht (fun x e hx => by have := h.2 x e; omega), h.2⟩
theorem TurnM.set (w : World) {B E g : Nat} (j : Nat) (v : Value) (hB : B ≤ g) (hE : g < E) : TurnM w (w.setCell ⟨g, j, none⟩ v) B E := ⟨rfl, rfl, rfl, by simp, fun i _ hi => heap_setCell_other w ⟨g, j, none⟩ i v (fun e => by have e' : i = g := e; omega)⟩
end Go.Proofs.YtpomffkpjldloaaGreat
/- A piece as the machine holds it. Definitions and lemmas; no walk. -/
namespace Go.Proofs.YtpomffkpjldloaaGreat
set_option maxRecDepth 2000
open Go.ChangeShapes Go.WideShapes Go.ChangeAt Go.RowKit

/-- A piece as the machine holds it. -/
abbrev pcC (r : ByteArray) (k n i : Int) (b : ByteArray) (v : Value) : Array Value := #[.string r, .int .i64 k, .int .i64 n, .int .i64 i, .string b, v]
abbrev pcV (r : ByteArray) (k n i : Int) (b : ByteArray) (v : Value) : Value := .agg (pcC r k n i b v)
theorem Tryz.infoPc : (Tryz.prog.info? 101).map (·.size) = some 6 := by kernel_rfl
theorem OwnT.setFar {w : World} {B g o : Nat} {a : Option Addr} {n c : Nat} {S : Nat → ByteArray} {v : Value} (h : OwnT w B a n c S) (hB : g < B) : OwnT (w.setCell ⟨g, o, none⟩ v) B a n c S :=
  own_kept h (grown_set _ _ _ _) (fun x e => by subst e; have := (World.ownsRow.lt h x.block rfl).1; omega)
end Go.Proofs.YtpomffkpjldloaaGreat
/- The program's division of polynomials: what the quotient and the rest are, and where they lie. Conditions: byte numbers, the divisor's last number not 0, lists of at most 2^20 numbers. -/
namespace Go.Proofs.YtpomffkpjldloaaGreat
set_option maxRecDepth 2000
open Go.ChangeShapes Go.WideShapes Go.ChangeAt Go.RowKit

end Go.Proofs.YtpomffkpjldloaaGreat
/- A list without the noughts at its end, in the program and in its model; byte numbers and polynomials in the model. Conditions: lists of at most 2^20 numbers. -/
namespace Go.Proofs.YtpomffkpjldloaaGreat
set_option maxRecDepth 2000
open Go.ChangeShapes Go.WideShapes Go.ChangeAt Go.RowKit

end Go.Proofs.YtpomffkpjldloaaGreat
/- What the laws' walks carry of the rows of whole numbers in play: which numbers they hold and between which blocks they lie; and the laws' own helpers that mark a row and look at the marks. Condition: rows of at most 2^20 numbers. -/
namespace Go.Proofs.YtpomffkpjldloaaGreat
set_option maxRecDepth 2000
open Go.ChangeShapes Go.WideShapes Go.ChangeAt Go.RowKit

/-- A row of ours that lies from block 'B' on, ahead of block 'E'. -/
def RowI (w : World) (B E : Nat) (a : Option Addr) (n cap : Nat) (zs : List Int) : Prop := OwnI w B (.slice a n cap) zs ∧ n = zs.length ∧ n ≤ cap ∧ ∀ k, (Value.slice a n cap).ownBlock = some k → B ≤ k ∧ k < E
theorem OwnI.row {w : World} {B E : Nat} {v : Value} {zs : List Int} (h : OwnI w B v zs) (hE : ∀ k, v.ownBlock = some k → k < E) : ∃ a cap, v = .slice a zs.length cap ∧ RowI w B E a zs.length cap zs := by
  rcases h.2 with ⟨e, hn⟩ | ⟨g, cap, cur, e, hB, hg, hcap, _⟩
  · refine ⟨none, 0, by rw [e, hn], ?_, rfl, by omega, fun k hk => by cases hk⟩
    rw [hn, ← e]
    exact h
  · subst e
    exact ⟨_, _, rfl, h, rfl, hcap, fun k hk => ⟨(World.ownsRow.lt h k hk).1, hE k hk⟩⟩
theorem RowI.ints {w : World} {B E : Nat} {a : Option Addr} {n cap : Nat} {zs : List Int} (h : RowI w B E a n cap zs) : IntsAt w a n zs := by
  obtain ⟨ho, rfl, _, _⟩ := h
  obtain ⟨a', cap', e, hi, _⟩ := ho.view
  cases e
  exact hi
theorem RowI.below {w w' : World} {B E : Nat} {a : Option Addr} {n cap : Nat} {zs : List Int} (h : RowI w B E a n cap zs) (hb : Below w.heap.size w w') : RowI w' B E a n cap zs := ⟨h.1.below hb, h.2⟩
/-- At most one block has turned, one that lies from 'B' on, ahead of 'E'. -/
def Turned (w w' : World) (B E : Nat) : Prop := ∃ r, w.grownBy w' r ∧ ∀ g, r = some g → B ≤ g ∧ g < E
theorem RowI.turned {w w' : World} {B E B' E' : Nat} {a : Option Addr} {n cap : Nat} {zs : List Int} (h : RowI w B E a n cap zs) (ht : Turned w w' B' E') (hd : E ≤ B' ∨ E' ≤ B) : RowI w' B E a n cap zs := by
  obtain ⟨r, hg, hr⟩ := ht
  refine ⟨World.ownsRow.kept h.1 hg ?_, h.2⟩
  cases hv : (Value.slice a n cap).ownBlock with
  | none => exact .inl rfl
  | some k =>
    right
    intro e
    have h1 := h.2.2.2 k hv
    have h2 := hr k e.symm
    omega
theorem Turned.below {w w' : World} {B E s : Nat} (h : Turned w w' B E) (hs : s ≤ B) (hw : s ≤ w.heap.size) : Below s w w' := by
  obtain ⟨r, hg, hr⟩ := h
  exact ⟨hg.os, hg.tape, hg.output, hg.size, fun j hj => hg.block j (by omega) (fun e => by have := hr j e.symm; omega)⟩
theorem Turned.size {w w' : World} {B E : Nat} (h : Turned w w' B E) : w.heap.size ≤ w'.heap.size := by
  obtain ⟨r, hg, _⟩ := h
  exact hg.size
/-- A list that was handed in: it lies ahead of block 's'. -/
def Arg (w : World) (s : Nat) (a : Option Addr) (n : Nat) (zs : List Int) : Prop := IntsAt w a n zs ∧ (0 < n → ∀ b off, a = some ⟨b, off, none⟩ → b < s)
theorem Arg.below {w w' : World} {s : Nat} {a : Option Addr} {n : Nat} {zs : List Int} (h : Arg w s a n zs) (hb : Below w.heap.size w w') : Arg w' s a n zs := ⟨h.1.below hb, h.2⟩
theorem Arg.turned {w w' : World} {s B E : Nat} {a : Option Addr} {n : Nat} {zs : List Int} (h : Arg w s a n zs) (ht : Turned w w' B E) (hs : s ≤ B) : Arg w' s a n zs := by
  obtain ⟨r, hg, hr⟩ := ht
  refine ⟨⟨h.1.1, fun i hi => ?_⟩, h.2⟩
  obtain ⟨b, off, e, hc⟩ := h.1.2 i hi
  refine ⟨b, off, e, hg.cell hc (fun e' => ?_)⟩
  have h1 := h.2 (by omega) b off e
  have h2 := hr b e'.symm
  omega
/-- The marks from 'k' on. -/
def marks (k n : Nat) : List Int := eI (fun i => k + i) n

end Go.Proofs.YtpomffkpjldloaaGreat
/- Marks over long lists of texts; a list of texts that came in. Conditions: at most 2^20 texts. -/
namespace Go.Proofs.YtpomffkpjldloaaGreat
set_option maxRecDepth 2000
open Go.ChangeShapes Go.WideShapes Go.ChangeAt Go.RowKit

/-- A list of texts that came in. -/
def IsTxt (w : World) (a : Option Addr) (n : Nat) (S : Nat → ByteArray) : Prop := TxtAt w a n S ∧ n ≤ maxLen ∧ ∀ i, i < n → (S i).size ≤ maxLen
/-- As the form reads it. -/
theorem isTxt_of {w : World} {a : Addr} {len cap m : Nat} {S : Nat → ByteArray} (hl : len ≤ cap) (hm : cap ≤ maxLen) (hlm : len ≤ m) (h : ∀ i, i < m → w.cell? (a.add i) = some (.string (S i)) ∧ (S i).size ≤ maxLen) : IsTxt w (some a) len S := by
  refine ⟨fun i hi => ?_, Nat.le_trans hl hm, fun i hi => (h i (by omega)).2⟩
  have h1 := (h i (by omega)).1
  obtain ⟨b, off, spot⟩ := a
  have hspot : spot = none := by
    have h0 := (h 0 (by omega)).1
    simpa [Addr.add] using World.cell?_spot h0
  subst hspot
  have ea : ∀ (b off i : Nat), (⟨b, off, none⟩ : Addr).add i = ⟨b, off + i, none⟩ := fun b off i => by unfold Addr.add; split <;> simp_all
  rw [ea] at h1
  exact ⟨b, off, rfl, h1⟩
/-- The same, known to lie ahead of block 's'. -/
def ArgT (w : World) (s : Nat) (a : Option Addr) (n : Nat) (S : Nat → ByteArray) : Prop := TxtAt w a n S ∧ (0 < n → ∀ b off, a = some ⟨b, off, none⟩ → b < s)
theorem ArgT.below {w w' : World} {s : Nat} {a : Option Addr} {n : Nat} {S : Nat → ByteArray} (h : ArgT w s a n S) (hb : Below w.heap.size w w') : ArgT w' s a n S := ⟨h.1.below hb, h.2⟩
theorem ArgT.keep {w w' : World} {s : Nat} {a : Option Addr} {n : Nat} {S : Nat → ByteArray} (h : ArgT w s a n S) (hb : Below s w w') : ArgT w' s a n S :=
  ⟨fun i hi => by
    obtain ⟨b, off, e, hc⟩ := h.1 i hi
    exact ⟨b, off, e, (hb.cell (p := ⟨b, off + i, none⟩) (h.2 (by omega) b off e)).trans hc⟩, h.2⟩
end Go.Proofs.YtpomffkpjldloaaGreat
