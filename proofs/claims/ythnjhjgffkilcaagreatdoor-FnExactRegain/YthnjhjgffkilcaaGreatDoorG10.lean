/- Rows of cells of our own; what a turn of other blocks leaves of them; sums of lengths. Definitions and lemmas; no walk. -/
import Derived.Test.YthnjhjgffkilcaaGreatDoorG6
import Derived.Shelf.Abstract
import Derived.Deep.RegionHeld3
import Derived.Deep.AppendLies
import Derived.Deep.Strs
import Derived.Test.YthnjhjgffkilcaaGreatDoorG1
import Derived.Defers
import Derived.Recover
import Derived.Deep.MidRow
import Derived.Test.YthnjhjgffkilcaaGreatDoorG5
import Derived.Test.YthnjhjgffkilcaaGreatDoorRows
namespace Go.Proofs.YthnjhjgffkilcaaGreatDoor
set_option maxRecDepth 2000
open Go.ChangeShapes Go.WideShapes Go.ChangeAt Go.RowKit

theorem below_of_drew {w w1 : World} (h : Below w.drew.heap.size w.drew w1) : Below w.heap.size w w1 := ⟨h.os, h.tape, h.output, h.size, h.block⟩
theorem own_shape {w : World} {B e s : Nat} {a : Option Addr} {n cap n' : Nat} {xs : List Value} (h : w.ownsRow B e s (.slice a n cap) n' xs) :
    (a = none ∧ n = 0 ∧ cap = 0) ∨ ∃ g cur, a = some ⟨g, 0, none⟩ ∧ B ≤ g ∧ w.heap[g]? = some (.cells cur e (0, 0)) ∧ n ≤ cap := by
  rcases h.2 with ⟨h', _⟩ | ⟨g, cap', cur, h', hb, hg, hn, _⟩
  · cases h'; exact .inl ⟨rfl, rfl, rfl⟩
  · cases h'; exact .inr ⟨g, cur, rfl, hb, hg, hn⟩
theorem own_kept {w w' : World} {B e s n : Nat} {a : Option Addr} {l c b : Nat} {xs : List Value} (h : w.ownsRow B e s (.slice a l c) n xs) (hg : w.grownBy w' (some b)) (hn : ∀ x, a = some x → x.block ≠ b) : w'.ownsRow B e s (.slice a l c) n xs := by
  refine World.ownsRow.kept h hg ?_
  cases a with
  | none => exact .inl rfl
  | some x => exact .inr (by simp [Value.ownBlock]; exact hn x rfl)
theorem grown_set (w : World) (g j : Nat) (v : Value) : w.grownBy (w.setCell ⟨g, j, none⟩ v) (some g) :=
  ⟨rfl, rfl, rfl, by simp, fun i _ hi => heap_setCell_other w ⟨g, j, none⟩ i _ (fun e => hi (by simp [e]))⟩
/-- Only blocks from 'B' on, ahead of 'E', have turned. -/
structure TurnM (w w' : World) (B E : Nat) : Prop where
  os : w'.os = w.os
  tape : w'.tape = w.tape
  output : w'.output = w.output
  size : w.heap.size ≤ w'.heap.size
  block : ∀ j, j < w.heap.size → (j < B ∨ E ≤ j) → w'.heap[j]? = w.heap[j]?
theorem TurnM.refl (w : World) (B E : Nat) : TurnM w w B E := ⟨rfl, rfl, rfl, Nat.le_refl _, fun _ _ _ => rfl⟩
theorem TurnM.trans {w w1 w2 : World} {B E : Nat} (h : TurnM w w1 B E) (h2 : TurnM w1 w2 B E) : TurnM w w2 B E :=
  ⟨h2.os.trans h.os, h2.tape.trans h.tape, h2.output.trans h.output, Nat.le_trans h.size h2.size, fun j hj hr => (h2.block j (Nat.lt_of_lt_of_le hj h.size) hr).trans (h.block j hj hr)⟩
theorem TurnM.below {w w' : World} {B E s : Nat} (h : TurnM w w' B E) (hs : s ≤ B) (hw : s ≤ w.heap.size) : Below s w w' :=
  ⟨h.os, h.tape, h.output, h.size, fun j hj => h.block j (by omega) (.inl (by omega))⟩
theorem own_turn {w w' : World} {B E B' E' e s n l c : Nat} {a : Option Addr} {xs : List Value} (h : w.ownsRow B e s (.slice a l c) n xs) (ht : TurnM w w' B' E') (hE : ∀ x, a = some x → x.block < E) (hd : E ≤ B' ∨ E' ≤ B) : w'.ownsRow B e s (.slice a l c) n xs := by
  refine ⟨h.1, ?_⟩
  rcases h.2 with h' | ⟨g, cap, cur, h1, h2, h3, h4⟩
  · exact .inl h'
  · refine .inr ⟨g, cap, cur, h1, h2, ?_, h4⟩
    cases h1
    have := hE _ rfl
    rw [ht.block g (Array.getElem?_eq_some_iff.1 h3).1 (by simp at this; omega)]
    exact h3
theorem own_turn2 {w w' : World} {B b e0 e s n l c : Nat} {a : Option Addr} {xs : List Value} (h : w.ownsRow B e s (.slice a l c) n xs) (ht : TurnM w w' b e0) (hx : ∀ x, a = some x → ¬ (b ≤ x.block ∧ x.block < e0)) : w'.ownsRow B e s (.slice a l c) n xs := by
  refine ⟨h.1, ?_⟩
  rcases h.2 with h' | ⟨g, cap, cur, h1, h2, h3, h4⟩
  · exact .inl h'
  · refine .inr ⟨g, cap, cur, h1, h2, ?_, h4⟩
    cases h1
    have := hx _ rfl
    rw [ht.block g (Array.getElem?_eq_some_iff.1 h3).1 (by simp at this; omega)]
    exact h3
/-- How many numbers the rows ahead of 'n' hold. -/
def tot (L : Nat → Nat) : Nat → Nat
  | 0 => 0
  | n + 1 => tot L n + L n
theorem tot_le (L : Nat → Nat) {i n : Nat} (h : i < n) : tot L i + L i ≤ tot L n := by
  induction n with
  | zero => omega
  | succ n ih =>
    by_cases e : i = n
    · subst e; exact Nat.le_refl _
    · have := ih (by omega)
      show _ ≤ tot L n + L n
      omega
theorem own_base {w : World} {B B' e s n : Nat} {v : Value} {xs : List Value} (h : w.ownsRow B e s v n xs) (hB : B' ≤ B) : w.ownsRow B' e s v n xs := by
  refine ⟨h.1, ?_⟩
  rcases h.2 with h' | ⟨g, cap, cur, h1, h2, h3⟩
  · exact .inl h'
  · exact .inr ⟨g, cap, cur, h1, by omega, h3⟩
/-- What is left of 'l' behind 'n' rows, or that it is too little. -/
def szF (L : Nat → Nat) (n l : Nat) : Int := if n + tot L n ≤ l then ((l - (n + tot L n) : Nat) : Int) else -1
end Go.Proofs.YthnjhjgffkilcaaGreatDoor
/- append onto a row of ours, as laws of the walk over any program. No condition but what each says. -/
namespace Go.Proofs.YthnjhjgffkilcaaGreatDoor
set_option maxRecDepth 2000
open Go.ChangeShapes Go.WideShapes Go.ChangeAt Go.RowKit

/-- append onto a row of ours; nothing may be appended, too. -/
theorem wpList_append_all {P : Program} (w : World) {ops : Array Oper} {rest : List Oper} {o : Oper} {a : Act} {Q : Exit → Act → World → Prop} (hgd : o.guard = none) (s x : Operand) (t : TypeId)
    (ho : o.op = .call { callee := .builtin .append, args := #[s, x], argTypes := #[t, t] })
    (base : Nat) (e : TypeId) (i : TypeInfo) (z : Value) (size bytes : Nat) (ht : P.underlying t = some (.slice e)) (hi : P.info? e = some i) (hz : i.zero = some z)
    (hsize : i.size = size) (hby : i.bytes = bytes) (hzs : z.cells.size = size) (hsz : 0 < size)
    (g0 n cap0 : Nat) (xs : List Value) (hs : a.eval s = .slice (some ⟨g0, 0, none⟩) n cap0) (hown : w.ownsRow base e size (.slice (some ⟨g0, 0, none⟩) n cap0) n xs)
    (ad : Addr) (m c : Nat) (news : List Value) (hx : a.eval x = .slice (some ad) m c) (hl : news.length = m * size) (hnews : ∀ j u, news[j]? = some u → w.cell? (ad.add j) = some u) (h1 : ∀ u ∈ news, u.oneCell' = true)
    (h63 : n + m ≤ maxLen) (hbytes : (n + m) * bytes ≤ 140737488355328) (hbase : base ≤ w.heap.size)
    (h : ∀ g cap w', w'.ownsRow base e size (.slice (some ⟨g, 0, none⟩) (n + m) cap) (n + m) (xs ++ news) → w.grownBy w' (some g0) → wpList P ops Q rest (a.put o.dst (.slice (some ⟨g, 0, none⟩) (n + m) cap)) w') :
    wpList P ops Q (o :: rest) a w := by
  refine wpList_append_own w hgd s x t ho base e i z size bytes ht hi hz hsize hby hzs hsz _ n xs hs hown ad m c news hx hl hnews h1 h63 hbytes hbase fun v' w' h2 h3 h4 => ?_
  have hne : v' ≠ .slice none 0 0 := fun e => by have := h4.1 e; cases this.1
  rcases h2.2 with ⟨e, _⟩ | ⟨g, cap, cur, e, _⟩
  · exact absurd e hne
  · subst e
    exact h g cap w' h2 h3
theorem step_append_row {P : Program} (w : World) {ops : Array Oper} {o : Oper} {a : Act} {K : Act → World → Prop} {Q : Exit → Act → World → Prop} {E : Prop} (hgd : o.guard = none) (s x : Operand) (t : TypeId)
    (ho : o.op = .call { callee := .builtin .append, args := #[s, x], argTypes := #[t, t] })
    (base : Nat) (e : TypeId) (i : TypeInfo) (z : Value) (size bytes : Nat) (ht : P.underlying t = some (.slice e)) (hi : P.info? e = some i) (hz : i.zero = some z)
    (hsize : i.size = size) (hby : i.bytes = bytes) (hzs : z.cells.size = size) (hsz : 0 < size)
    (g0 n cap0 : Nat) (xs : List Value) (hs : a.eval s = .slice (some ⟨g0, 0, none⟩) n cap0) (hown : w.ownsRow base e size (.slice (some ⟨g0, 0, none⟩) n cap0) n xs)
    (ad : Addr) (m c : Nat) (news : List Value) (hx : a.eval x = .slice (some ad) m c) (hl : news.length = m * size) (hnews : ∀ j u, news[j]? = some u → w.cell? (ad.add j) = some u) (h1 : ∀ u ∈ news, u.oneCell' = true)
    (h63 : n + m ≤ maxLen) (hbytes : (n + m) * bytes ≤ 140737488355328) (hbase : base ≤ w.heap.size)
    (h : ∀ g cap w', w'.ownsRow base e size (.slice (some ⟨g, 0, none⟩) (n + m) cap) (n + m) (xs ++ news) → w.grownBy w' (some g0) → K (a.put o.dst (.slice (some ⟨g, 0, none⟩) (n + m) cap)) w') :
    if Region.wanted o (yielded ops a.tmps) = true then Oper.wp P o a w K Q else E := by
  have hw : Region.wanted o (yielded ops a.tmps) = true := by simp [Region.wanted, hgd]
  rw [if_pos hw]
  refine wp_append_own w s x t ho base e i z size bytes ht hi hz hsize hby hzs hsz _ n xs hs hown ad m c news hx hl hnews h1 h63 hbytes hbase fun v' w' h2 h3 h4 => ?_
  have hne : v' ≠ .slice none 0 0 := fun e => by have := h4.1 e; cases this.1
  rcases h2.2 with ⟨e, _⟩ | ⟨g, cap, cur, e, _⟩
  · exact absurd e hne
  · subst e
    exact h g cap w' h2 h3

end Go.Proofs.YthnjhjgffkilcaaGreatDoor
/- Lists of texts in memory; the laws' own helpers over them: a copy, equal ones, their length, marks. Conditions: at most 2^20 texts. -/
namespace Go.Proofs.YthnjhjgffkilcaaGreatDoor
set_option maxRecDepth 2000
open Go.ChangeShapes Go.WideShapes Go.ChangeAt Go.RowKit

theorem Tryz.infoStr : (Tryz.prog.info? 9).map (fun i => (i.zero, i.size, i.bytes)) = some (some (.string ByteArray.empty), 1, 16) := by kernel_rfl
/-- A list of texts that is read. -/
def TxtAt (w : World) (a : Option Addr) (n : Nat) (S : Nat → ByteArray) : Prop := ∀ i, i < n → ∃ b off, a = some ⟨b, off, none⟩ ∧ w.cell? ⟨b, off + i, none⟩ = some (.string (S i))
theorem TxtAt.below {w w' : World} {a : Option Addr} {n : Nat} {S : Nat → ByteArray} (h : TxtAt w a n S) (hb : Below w.heap.size w w') : TxtAt w' a n S := fun i hi => by
  obtain ⟨b, off, e, hc⟩ := h i hi
  exact ⟨b, off, e, (hb.cell (p := ⟨b, off + i, none⟩) (block_lt_of_cell hc)).trans hc⟩
theorem TxtAt.congr {w : World} {a : Option Addr} {n : Nat} {S S' : Nat → ByteArray} (h : TxtAt w a n S) (e : ∀ i, i < n → S i = S' i) : TxtAt w a n S' := fun i hi => by
  obtain ⟨b, off, ea, hc⟩ := h i hi
  exact ⟨b, off, ea, by rw [← e i hi]; exact hc⟩
theorem TxtAt.some {w : World} {a : Option Addr} {n : Nat} {S : Nat → ByteArray} (h : TxtAt w a n S) (hn : 0 < n) : ∃ b off, a = some ⟨b, off, none⟩ ∧ ∀ i, i < n → w.cell? ⟨b, off + i, none⟩ = .some (.string (S i)) := by
  obtain ⟨b, off, e, _⟩ := h 0 hn
  refine ⟨b, off, e, fun i hi => ?_⟩
  obtain ⟨b', off', e', hc⟩ := h i hi
  rw [e] at e'
  simp at e'
  obtain ⟨rfl, rfl⟩ := e'
  exact hc
/-- Texts in a row. -/
def sL (S : Nat → ByteArray) (n : Nat) : List Value := (List.range n).map fun i => Value.string (S i)
theorem sL_len (S : Nat → ByteArray) (n : Nat) : (sL S n).length = n := by simp [sL]
theorem sL_get (S : Nat → ByteArray) (n i : Nat) (h : i < n) : (sL S n)[i]? = some (Value.string (S i)) := by simp [sL, h]
theorem sL_congr {S S' : Nat → ByteArray} {n : Nat} (h : ∀ i, i < n → S i = S' i) : sL S n = sL S' n := by
  unfold sL
  apply List.map_congr_left
  intro i hi
  rw [h i (List.mem_range.1 hi)]
theorem sL_snoc (S : Nat → ByteArray) (n : Nat) : sL S (n + 1) = sL S n ++ [Value.string (S n)] := by
  unfold sL
  rw [List.range_succ, List.map_append]
  rfl
theorem sL_set (S : Nat → ByteArray) (n k : Nat) (s : ByteArray) (h : k < n) : (sL S n).set k (.string s) = sL (fun i => if i = k then s else S i) n := by
  apply List.ext_getElem?
  intro i
  rw [List.getElem?_set]
  by_cases hi : i < n
  · by_cases e : k = i
    · subst e; simp [sL, h]
    · simp [sL, hi, e, Ne.symm e]
  · by_cases e : k = i
    · omega
    · rw [if_neg e, List.getElem?_eq_none (by rw [sL_len]; omega), List.getElem?_eq_none (by rw [sL_len]; omega)]
theorem sL_empty (n : Nat) : sL (fun _ => ByteArray.empty) n = List.replicate n (Value.string ByteArray.empty) := by
  apply List.ext_getElem?
  intro i
  by_cases hi : i < n
  · rw [sL_get _ _ _ hi]; simp [hi]
  · rw [List.getElem?_eq_none (by rw [sL_len]; omega), List.getElem?_eq_none (by simp; omega)]
/-- A list of texts of ours. -/
def OwnT (w : World) (B : Nat) (a : Option Addr) (n cap : Nat) (S : Nat → ByteArray) : Prop := w.ownsRow B 9 1 (.slice a n cap) n (sL S n)
theorem OwnT.at {w : World} {B : Nat} {a : Option Addr} {n cap : Nat} {S : Nat → ByteArray} (h : OwnT w B a n cap S) : TxtAt w a n S := by
  intro i hi
  rcases own_shape h with ⟨rfl, rfl, rfl⟩ | ⟨g, cur, rfl, _⟩
  · omega
  · exact ⟨g, 0, rfl, by rw [Nat.zero_add, h.cellAt i (by omega), sL_get _ _ _ hi]⟩
theorem OwnT.below {w w' : World} {B : Nat} {a : Option Addr} {n cap : Nat} {S : Nat → ByteArray} (h : OwnT w B a n cap S) (hb : Below w.heap.size w w') : OwnT w' B a n cap S := ownsRow_below h hb
theorem OwnT.congr {w : World} {B : Nat} {a : Option Addr} {n cap : Nat} {S S' : Nat → ByteArray} (h : OwnT w B a n cap S) (e : ∀ i, i < n → S i = S' i) : OwnT w B a n cap S' := by
  unfold OwnT at *
  rw [← sL_congr e]
  exact h
theorem OwnT.base {w : World} {B B' : Nat} {a : Option Addr} {n cap : Nat} {S : Nat → ByteArray} (h : OwnT w B a n cap S) (hB : B' ≤ B) : OwnT w B' a n cap S := own_base h hB
theorem OwnT.nil (w : World) (B : Nat) (S : Nat → ByteArray) : OwnT w B none 0 0 S := World.ownsRow_nil w B _ _
theorem litT (w : World) (S : Nat → ByteArray) : OwnT (w.alloc (.cells #[] 9)) w.heap.size (some ⟨w.heap.size, 0, none⟩) 0 0 S :=
  World.ownsRow_lit w #[] 0 (Nat.le_refl _) (by unfold maxLen; omega) rfl
/-- A list of texts that was answered, in new memory. -/
def ResT (w w' : World) (v : Value) (n : Nat) (S : Nat → ByteArray) : Prop := ∃ a cap, v = .slice a n cap ∧ OwnT w' w.heap.size a n cap S
theorem ResT.none (w w' : World) (S : Nat → ByteArray) : ResT w w' (.slice none 0 0) 0 S := ⟨_, _, rfl, OwnT.nil _ _ _⟩
theorem ResT.congr {w w' : World} {v : Value} {n : Nat} {S S' : Nat → ByteArray} (h : ResT w w' v n S) (e : ∀ i, i < n → S i = S' i) : ResT w w' v n S' := by
  obtain ⟨a, cap, rfl, ho⟩ := h
  exact ⟨a, cap, rfl, ho.congr e⟩
theorem ba_beq (s : ByteArray) : (s.toList == s.toList) = true := by simp
theorem ba_ne {s u : ByteArray} (h : s ≠ u) : (s.toList == u.toList) = false := by
  rw [ByteArray.toList_eq, ByteArray.toList_eq]
  simp only [beq_eq_false_iff_ne, ne_eq]
  intro e
  exact h (ByteArray.ext (Array.toList_inj.1 e))

set_option maxHeartbeats 1000000 in
theorem eqT_same (a b : Option Addr) (n ca cb : Nat) (S : Nat → ByteArray) (w : World) (ha : TxtAt w a n S) (hb : TxtAt w b n S) (hn : n ≤ 1048576) :
    Calls Tryz.prog 98 #[.slice a n ca, .slice b n cb] w fun e w' => e = .returned (.bool true) ∧ Below w.heap.size w w' := by
  go_enter Tryz.func98, Tryz.ntmps98
  go_wp2
  go_loopw [5] (fun i wr => ∃ k : Nat, k ≤ n ∧ i = .int .i64 k ∧ Below w.heap.size w wr) (fun i _ => n - (intOf i).toNat)
  case atStart => exact ⟨0, Nat.zero_le _, rfl, Below.refl _ _⟩
  case round =>
    obtain ⟨k, hk, rfl, hbel⟩ := hrel
    have ha' := ha.below hbel
    have hb' := hb.below hbel
    clear ha hb
    by_cases hlt : k < n
    · obtain ⟨ba, oa, rfl, hca⟩ := ha' k hlt
      obtain ⟨bb, ob, rfl, hcb⟩ := hb' k hlt
      have hlti : (k : Int) < (n : Int) := by omega
      clear ha' hb'
      generalize S k = s at hca hcb
      have hbq := ba_beq s
      go_wp2
      go_quiet (fail)
      go_wp2
      go_roundw
      case rel => exact ⟨k + 1, by omega, by go_num, below_drewN hbel _⟩
      case measure => simp [intOf]; omega
    · go_wp2
      go_ret
      exact ⟨rfl, hbel⟩
set_option maxHeartbeats 1000000 in
theorem toT_any (a : Option Addr) (n cap : Nat) (S : Nat → ByteArray) (w : World) (h : TxtAt w a n S) (hn : n ≤ 1048576) :
    Calls Tryz.prog 149 #[.slice a n cap] w fun e w' => e = .returned (.slice (some ⟨w.heap.size, 0, none⟩) n n) ∧ OwnT w' w.heap.size (some ⟨w.heap.size, 0, none⟩) n n S ∧ Below w.heap.size w w' := by
  obtain ⟨i0, hi, hz0, hz1, hz2⟩ := info_parts Tryz.infoStr
  have KH : Hid (TxtAt w a n S) := h
  clear h
  go_enter Tryz.func149, Tryz.ntmps149
  go_wp2_with (at_make; refine wpList_make_full _ rfl _ _ 31 rfl w.heap.size 9 i0 (.string ByteArray.empty) 1 Tryz.underlying31 hi hz0 hz1 .i64 .i64 _ _ n rfl rfl rfl rfl (by rw [hz2]; omega) (by unfold maxLen; omega) (Nat.le_refl _) ?_; intro w1 hown hgrow)
  have hb1 : Below w.heap.size w w1 := (Below.refl _ _).grown hgrow (Nat.le_refl _) (by simp)
  have ho1 : OwnT w1 w.heap.size (some ⟨w.heap.size, 0, none⟩) n n (fun i => if i < 0 then S i else ByteArray.empty) := by
    have e : sL (fun i => if i < 0 then S i else ByteArray.empty) n = List.replicate n (Value.string ByteArray.empty) := by rw [← sL_empty]; exact sL_congr (fun i _ => by simp)
    unfold OwnT
    rw [e]
    simpa [Value.cells, toList_madeCells_one] using hown
  clear hown hgrow
  go_loopw [4] (fun i wr => ∃ k : Nat, k ≤ n ∧ i = .int .i64 k ∧ OwnT wr w.heap.size (some ⟨w.heap.size, 0, none⟩) n n (fun i => if i < k then S i else ByteArray.empty) ∧ Below w.heap.size w wr) (fun i _ => n - (intOf i).toNat)
  case atStart => exact ⟨0, Nat.zero_le _, rfl, ho1, hb1⟩
  case round =>
    obtain ⟨k, hk, rfl, hown, hbel⟩ := hrel
    clear ho1 hb1
    by_cases hlt : k < n
    · obtain ⟨b, off, rfl, hc⟩ := KH.out.below hbel k hlt
      have hlti : (k : Int) < (n : Int) := by omega
      obtain ⟨old, hold⟩ : ∃ v, wr.cell? ⟨w.heap.size, k, none⟩ = some v := by
        rw [World.ownsRow.cellAt hown k (by omega)]
        exact ⟨_, sL_get _ _ _ hlt⟩
      have hfr := World.ownsRow.frozenAt hown k
      have hst := World.ownsRow.stored hown k (.string (S k))
      rw [sL_set _ _ _ _ hlt] at hst
      have HO : Hid (OwnT (wr.setCell ⟨w.heap.size, k, none⟩ (.string (S k))) w.heap.size (some ⟨w.heap.size, 0, none⟩) n n (fun i => if i < k + 1 then S i else ByteArray.empty)) := OwnT.congr hst.1 (fun i _ => by
        by_cases e : i = k
        · simp [e]
        · by_cases e2 : i < k
          · simp [e, e2, show i < k + 1 by omega]
          · simp [e, e2, show ¬ i < k + 1 by omega])
      have hne : Below w.heap.size w (wr.setCell ⟨w.heap.size, k, none⟩ (.string (S k))) := hbel.setCell (Nat.le_refl _) _
      clear hst hown
      go_wp2
      go_roundw
      case rel => exact ⟨k + 1, by omega, by go_num, HO.out, hne⟩
      case measure => simp [intOf]; omega
    · obtain rfl : k = n := by omega
      have HO : Hid (OwnT wr w.heap.size (some ⟨w.heap.size, 0, none⟩) k k S) := hown.congr (fun i hi => if_pos hi)
      clear hown
      go_wp2
      go_ret
      exact ⟨rfl, HO.out, hbel⟩
set_option maxHeartbeats 1000000 in
theorem szT_any (a : Option Addr) (n cap : Nat) (S : Nat → ByteArray) (l : Nat) (w : World) (h : TxtAt w a n S) (hl : l ≤ 1048576) (hn : n ≤ maxLen) (hL : ∀ i, i < n → (S i).size ≤ maxLen) :
    Calls Tryz.prog 148 #[.slice a n cap, .int .i64 (l : Int)] w fun e w' => e = .returned (.int .i64 (szF (fun i => (S i).size) n l)) ∧ w' = w := by
  unfold maxLen at hn hL
  by_cases h1 : n ≤ l
  · obtain ⟨d, hd⟩ : ∃ d, l - n = d := ⟨_, rfl⟩
    have hw : IntKind.i64.wrap ((l : Int) - (n : Int)) = (d : Int) := by rw [IntKind.wrap_i64]; omega
    have h0 : ¬ ((d : Int) < 0) := by omega
    have KL : Hid _ := hL
    have KH : Hid (TxtAt w a n S) := h
    clear hL h
    go_enter Tryz.func148, Tryz.ntmps148
    go_wp2
    go_loop [1, 5] (fun p i => ∃ c q : Nat, c ≤ n ∧ q ≤ 1048576 ∧ Hid (tot (fun i => (S i).size) c + q = d) ∧ p = .int .i64 (q : Int) ∧ i = .int .i64 (c : Int)) (fun _ i => n - (intOf i).toNat)
    case atStart => exact ⟨0, d, Nat.zero_le _, by omega, by show 0 + d = d; omega, rfl, rfl⟩
    case round =>
      obtain ⟨c, q, hc, hq, HT, rfl, rfl⟩ := hrel
      clear hw h0
      by_cases hlt : c < n
      · obtain ⟨b, off, rfl, hcell⟩ := KH.out c hlt
        have hLc := KL.out c hlt
        have hti := tot_le (fun i => (S i).size) hlt
        have hlti : (c : Int) < (n : Int) := by omega
        have HT' := HT.out
        obtain ⟨s, hs⟩ : ∃ s, S c = s := ⟨_, rfl⟩
        have hti' : tot (fun i => (S i).size) c + s.size ≤ tot (fun i => (S i).size) n := by rw [← hs]; exact hti
        have KTS : Hid (tot (fun i => (S i).size) (c + 1) = tot (fun i => (S i).size) c + s.size) := by rw [← hs]; rfl
        rw [hs] at hcell hLc
        obtain ⟨lc, hlc⟩ : ∃ lc, s.size = lc := ⟨_, rfl⟩
        rw [hlc] at hLc hti' KTS
        clear hti hs
        by_cases h2 : lc ≤ q
        · obtain ⟨q', hq'⟩ : ∃ q', q - lc = q' := ⟨_, rfl⟩
          have hw2 : IntKind.i64.wrap ((q : Int) - (lc : Int)) = (q' : Int) := by rw [IntKind.wrap_i64]; omega
          have h3 : ¬ ((q' : Int) < 0) := by omega
          have HT2 : Hid (tot (fun i => (S i).size) (c + 1) + q' = d) := by show _ = _; rw [KTS.out]; omega
          have hq2 : q' ≤ 1048576 := by omega
          clear HT HT' hti' KTS
          go_wp2
          go_round
          case rel => exact ⟨c + 1, q', by omega, hq2, HT2, rfl, by go_num⟩
          case measure => simp [intOf] <;> omega
        · have hw2 : IntKind.i64.wrap ((q : Int) - (lc : Int)) = (q : Int) - (lc : Int) := by rw [IntKind.wrap_i64]; omega
          have h3 : (q : Int) - (lc : Int) < 0 := by omega
          have HR : Hid (szF (fun i => (S i).size) n l = -1) := by
            show _ = _
            unfold szF
            rw [if_neg (by omega)]
          clear HT HT' hti' KTS
          go_wp2
          go_ret
          exact ⟨ret_int HR.out.symm, rfl⟩
      · obtain rfl : c = n := by omega
        have HR : Hid (szF (fun i => (S i).size) c l = (q : Int)) := by
          have := HT.out
          show _ = _
          unfold szF
          rw [if_pos (by omega)]
          omega
        clear KH
        go_wp2
        go_ret
        exact ⟨ret_int HR.out.symm, rfl⟩
  · have h0 : (l : Int) - (n : Int) < 0 := by omega
    have hw : IntKind.i64.wrap ((l : Int) - (n : Int)) = (l : Int) - (n : Int) := by rw [IntKind.wrap_i64]; omega
    have HR : Hid (szF (fun i => (S i).size) n l = -1) := by show _ = _; unfold szF; rw [if_neg (by omega)]
    clear h hL
    go_enter Tryz.func148, Tryz.ntmps148
    go_wp2
    go_ret
    exact ⟨ret_int HR.out.symm, rfl⟩
end Go.Proofs.YthnjhjgffkilcaaGreatDoor
/- What refuses, and what is recovered at a face: need, caught, and the faces' deferred closures. Condition: the library's variable errors.errorType holds the type error. -/
namespace Go.Proofs.YthnjhjgffkilcaaGreatDoor
set_option maxRecDepth 2000
open Go.ChangeShapes Go.WideShapes Go.ChangeAt Go.RowKit

/-- The library's variable, as it stands. -/
def ErrT (w : World) : Prop := w.cell? ⟨0, 0, none⟩ = some (.iface 209 (.agg #[.pointer (some ⟨9, 130, none⟩)]))
theorem ErrT.below {w w' : World} (h : ErrT w) (hb : Below w.heap.size w w') : ErrT w' := (hb.cell (p := ⟨0, 0, none⟩) (block_lt_of_cell h)).trans h
theorem ErrT.lt {w : World} (h : ErrT w) : 0 < w.heap.size := block_lt_of_cell h
abbrev failC (c : Int) : List PanicEntry := [{ v := .iface 132 (.int .i64 c), recovered := false }]
theorem need_ok (c : Int) (w : World) : Calls Tryz.prog 57 #[.bool true, .int .i64 c] w fun e w' => e = .returned (.tuple #[]) ∧ w' = w := by
  go_enter Tryz.func57, Tryz.ntmps57
  go_wp2
  go_end0
  exact ⟨rfl, rfl⟩
theorem need_no (c : Int) (w : World) : Calls Tryz.prog 57 #[.bool false, .int .i64 c] w fun e w' => e = .panicked (failC c) ∧ w' = w := by
  go_enter Tryz.func57, Tryz.ntmps57
  go_wp2
  simp [bodyPost]
theorem caught_nil (w : World) : Calls Tryz.prog 55 #[.nilIface] w fun e w' => e = .returned (.int .i64 0) ∧ w' = w := by
  go_enter Tryz.func55, Tryz.ntmps55
  go_wp2
  go_ret
  exact ⟨rfl, rfl⟩
set_option maxHeartbeats 1000000 in
theorem caught_fail (c : Int) (w : World) (h : ErrT w) : Calls Tryz.prog 55 #[.iface 132 (.int .i64 c)] w fun e w' => e = .returned (.int .i64 c) ∧ Below w.heap.size w w' := by
  have ta := fun xT : TypeId => run_typeAssert_hasB (P := Tryz.prog) (t := 132) (asserted := 130) Tryz.underlying130 (by kernel_rfl) (.int .i64 c) xT w
  obtain ⟨w0, HW0⟩ : ∃ x, Hid (x = w.alloc (.cells #[.int .i64 0] 132)) := ⟨_, rfl⟩
  obtain ⟨B, HB⟩ : ∃ x, Hid (x = w.heap.size) := ⟨_, rfl⟩
  have c0 : w0.cell? ⟨B, 0, none⟩ = some (.int .i64 0) := by rw [HW0.out, HB.out]; simp
  have f0 : w0.frozen? ⟨B, 0, none⟩ = false := by rw [HW0.out, HB.out]; simp
  have b0 : Below w.heap.size w w0 := by rw [HW0.out]; exact (Below.refl _ _).alloc (Nat.le_refl _) _
  have KA : Hid _ := as_hit c ⟨B, 0, none⟩ (.int .i64 0) w0 (h.below b0) c0 f0
  have KB : Hid (Below w.heap.size w w0) := b0
  have lB : B < w0.heap.size := block_lt_of_cell c0
  have hBw : w.heap.size ≤ B := by rw [HB.out]; exact Nat.le_refl _
  clear h f0 b0
  go_enter Tryz.func55, Tryz.ntmps55
  go_wp2_with fail
  rw [← HW0.out, ← HB.out]
  refine Calls.mono KA.out ?_
  rintro e w' ⟨rfl, W, bW, rfl⟩
  have c1 : (W.setCell ⟨B, 0, none⟩ (.int .i64 c)).cell? ⟨B, 0, none⟩ = some (.int .i64 c) := World.cell?_setCell_same _ _ _ ((bW.cell (p := ⟨B, 0, none⟩) lB).trans c0)
  have HF : Hid (Below w.heap.size w (W.setCell ⟨B, 0, none⟩ (.int .i64 c))) := (KB.out.trans (bW.mono KB.out.size)).setCell hBw _
  generalize W.setCell ⟨B, 0, none⟩ (.int .i64 c) = w2 at c1 HF
  clear bW c0
  go_wp2
  go_ret
  exact ⟨rfl, HF.out⟩
set_option maxHeartbeats 1000000 in
theorem catchR_panicking (p : Addr) (old : Value) (c : Int) (older : List PanicEntry) (w : World) (h : ErrT w) (hc : w.cell? p = some old) (hz : w.frozen? p = false) :
    CallsD Tryz.prog 83 #[.pointer (some p)] (.panicking ({ v := .iface 132 (.int .i64 c), recovered := false } :: older)) w fun e u' w' =>
      e = .returned (.tuple #[]) ∧ u' = .panicking ({ v := .iface 132 (.int .i64 c), recovered := true } :: older) ∧ ∃ W, Below w.heap.size w W ∧ w' = W.setCell p (.int .i64 c) := by
  refine callsD_of_wpS Tryz.func83 rfl fun c₀ cs hu => ?_
  apply wpS_region
  simp [wpOpsS, go_sem, recoverD, hu, Tryz.ntmps83]
  have lp := block_lt_of_cell hc
  refine Calls.mono (caught_fail c w h) ?_
  rintro e w' ⟨rfl, hb⟩
  have hc' := (hb.cell (p := p) lp).trans hc
  have hz' := (World.frozen?_of_block (a := p) (hb.block _ lp)).trans hz
  simp [go_sem, hc', hz', bodyPostS, results, Tryz.results83, storeCells, Addr.add]
  exact ⟨w', hb, rfl⟩
set_option maxHeartbeats 1000000 in
theorem catchR_idle (p : Addr) (old : Value) (w : World) (hc : w.cell? p = some old) (hz : w.frozen? p = false) :
    CallsD Tryz.prog 83 #[.pointer (some p)] .returning w fun e u' w' => e = .returned (.tuple #[]) ∧ u' = .returning ∧ w' = w.setCell p (.int .i64 0) := by
  refine callsD_of_wpS Tryz.func83 rfl fun c₀ cs hu => ?_
  apply wpS_region
  simp [wpOpsS, go_sem, recoverD, hu, Tryz.ntmps83]
  refine Calls.mono (caught_nil w) ?_
  rintro e w' ⟨rfl, rfl⟩
  simp [go_sem, hc, hz, bodyPostS, results, Tryz.results83, storeCells, Addr.add]
  cases c₀
  simp_all
end Go.Proofs.YthnjhjgffkilcaaGreatDoor
/- Data in memory, whatever its depth: a value of one cell, or a list of structs whose cells are data. What is read of it, what of it is ours, and what a turn of other blocks leaves of it. Definitions and lemmas; no walk. -/
namespace Go.Proofs.YthnjhjgffkilcaaGreatDoor
set_option maxRecDepth 2000
open Go.ChangeShapes Go.WideShapes Go.ChangeAt Go.RowKit

/-- A datum: one cell without memory behind it, or n structs of sz cells. -/
inductive Dt where
  | val (v : Value)
  | lst (t : TypeId) (sz n : Nat) (f : Nat → Nat → Dt)
/-- What is read at a value is that datum. -/
def Rd (w : World) : Dt → Value → Prop
  | .val v, x => x = v
  | .lst _ sz n f, x => ∃ a cap, x = .slice a n cap ∧ ∀ i, i < n → ∃ b off, a = some ⟨b, off, none⟩ ∧ ∀ q, q < sz → ∃ y, w.cell? ⟨b, off + (i * sz + q), none⟩ = some y ∧ Rd w (f i q) y
theorem Rd.keep {w w' : World} (h : ∀ (p : Addr) (v : Value), w.cell? p = some v → w'.cell? p = some v) : ∀ {d : Dt} {v : Value}, Rd w d v → Rd w' d v := by
  intro d
  induction d with
  | val v => intro x hx; exact hx
  | lst t sz n f ih =>
    rintro x ⟨a, cap, e, hx⟩
    refine ⟨a, cap, e, fun i hi => ?_⟩
    obtain ⟨b, off, ea, hq⟩ := hx i hi
    refine ⟨b, off, ea, fun q hq' => ?_⟩
    obtain ⟨y, hy, hr⟩ := hq q hq'
    exact ⟨y, h _ _ hy, ih i q hr⟩
theorem Rd.below {w w' : World} {d : Dt} {v : Value} (h : Rd w d v) (hb : Below w.heap.size w w') : Rd w' d v :=
  h.keep fun _ _ hp => (hb.cell (block_lt_of_cell hp)).trans hp
theorem Rd.drew {w : World} {d : Dt} {v : Value} (h : Rd w d v) : Rd w.drew d v := Rd.keep (w' := w.drew) (fun p _ hp => by simpa using hp) h
theorem Rd.congr {w : World} {t t' : TypeId} {sz n : Nat} {f f' : Nat → Nat → Dt} {v : Value} (h : Rd w (.lst t sz n f) v) (e : ∀ i q, i < n → q < sz → f i q = f' i q) : Rd w (.lst t' sz n f') v := by
  obtain ⟨a, cap, ex, hx⟩ := h
  refine ⟨a, cap, ex, fun i hi => ?_⟩
  obtain ⟨b, off, ea, hq⟩ := hx i hi
  refine ⟨b, off, ea, fun q hq' => ?_⟩
  obtain ⟨y, hy, hr⟩ := hq q hq'
  exact ⟨y, hy, by rw [← e i q hi hq']; exact hr⟩
theorem Rd.nil (w : World) (t : TypeId) (sz : Nat) (f : Nat → Nat → Dt) (a : Option Addr) (cap : Nat) : Rd w (.lst t sz 0 f) (.slice a 0 cap) := ⟨a, cap, rfl, fun _ hi => absurd hi (Nat.not_lt_zero _)⟩
/-- One struct of a list that is read. -/
theorem Rd.row {w : World} {t : TypeId} {sz n : Nat} {f : Nat → Nat → Dt} {a : Option Addr} {cap : Nat} (h : Rd w (.lst t sz n f) (.slice a n cap)) {i : Nat} (hi : i < n) :
    ∃ (b off : Nat) (y : Nat → Value), a = some ⟨b, off, none⟩ ∧ (∀ q, q < sz → w.cell? ⟨b, off + (i * sz + q), none⟩ = some (y q)) ∧ ∀ q, q < sz → Rd w (f i q) (y q) := by
  obtain ⟨a', cap', e, hx⟩ := h
  cases e
  obtain ⟨b, off, ea, hq⟩ := hx i hi
  have : ∀ q, ∃ y, q < sz → w.cell? ⟨b, off + (i * sz + q), none⟩ = some y ∧ Rd w (f i q) y := fun q => by
    by_cases h : q < sz
    · obtain ⟨y, hy⟩ := hq q h; exact ⟨y, fun _ => hy⟩
    · exact ⟨undef, fun h' => absurd h' h⟩
  obtain ⟨y, hy⟩ := Classical.axiomOfChoice this
  exact ⟨b, off, y, ea, fun q hq => (hy q hq).1, fun q hq => (hy q hq).2⟩
/-! ### Data that is ours -/
/-- The cells of n structs of sz. -/
def cL (sz : Nat) (c : Nat → Nat → Value) (n : Nat) : List Value := (List.range (n * sz)).map fun j => c (j / sz) (j % sz)
theorem cL_len (sz : Nat) (c : Nat → Nat → Value) (n : Nat) : (cL sz c n).length = n * sz := by simp [cL]
theorem mid_lt {sz n i q : Nat} (hi : i < n) (hq : q < sz) : i * sz + q < n * sz := by
  have := Nat.mul_le_mul_right sz (show i + 1 ≤ n by omega)
  rw [Nat.succ_mul] at this
  omega
theorem mid_div {sz i q : Nat} (hq : q < sz) : (i * sz + q) / sz = i := by rw [Nat.mul_comm, Nat.mul_add_div (by omega), Nat.div_eq_of_lt hq, Nat.add_zero]
theorem mid_mod {sz i q : Nat} (hq : q < sz) : (i * sz + q) % sz = q := by rw [Nat.mul_comm, Nat.mul_add_mod, Nat.mod_eq_of_lt hq]
theorem mid_eq {sz j : Nat} : j / sz * sz + j % sz = j := by rw [Nat.mul_comm]; exact Nat.div_add_mod j sz
theorem cL_get (sz : Nat) (c : Nat → Nat → Value) (n i q : Nat) (hi : i < n) (hq : q < sz) : (cL sz c n)[i * sz + q]? = some (c i q) := by
  simp [cL, mid_lt hi hq, mid_div hq, mid_mod hq]
theorem cL_congr {sz : Nat} {c c' : Nat → Nat → Value} {n : Nat} (h : ∀ i q, i < n → q < sz → c i q = c' i q) : cL sz c n = cL sz c' n := by
  unfold cL
  refine List.map_congr_left fun j hj => ?_
  have hj' : j < n * sz := by simpa using hj
  have hs : 0 < sz := by
    rcases Nat.eq_zero_or_pos sz with e | e
    · subst e; omega
    · exact e
  exact h _ _ ((Nat.div_lt_iff_lt_mul hs).2 hj') (Nat.mod_lt _ hs)
theorem cL_set (sz : Nat) (c : Nat → Nat → Value) (n i q : Nat) (v : Value) (hi : i < n) (hq : q < sz) : (cL sz c n).set (i * sz + q) v = cL sz (fun i' q' => if i' = i ∧ q' = q then v else c i' q') n := by
  apply List.ext_getElem?
  intro j
  rw [List.getElem?_set]
  by_cases hj : j < n * sz
  · by_cases e : i * sz + q = j
    · subst e
      rw [if_pos rfl, if_pos (by rw [cL_len]; exact hj), cL_get _ _ _ _ _ hi hq]
      simp
    · rw [if_neg e]
      have hs : 0 < sz := by omega
      have h1 := cL_get sz c n (j / sz) (j % sz) ((Nat.div_lt_iff_lt_mul hs).2 hj) (Nat.mod_lt _ hs)
      have h2 := cL_get sz (fun i' q' => if i' = i ∧ q' = q then v else c i' q') n (j / sz) (j % sz) ((Nat.div_lt_iff_lt_mul hs).2 hj) (Nat.mod_lt _ hs)
      rw [mid_eq] at h1 h2
      rw [h1, h2, if_neg (fun ⟨e1, e2⟩ => e (by rw [← e1, ← e2]; exact mid_eq))]
  · rw [if_neg (fun e => hj (by rw [← e]; exact mid_lt hi hq))]
    rw [List.getElem?_eq_none (by rw [cL_len]; omega), List.getElem?_eq_none (by rw [cL_len]; omega)]
/-- What lies apart: the blocks of each cell's own memory, and the row's block. -/
structure Sep (a : Option Addr) (n sz : Nat) (G : Nat → Nat → Nat → Prop) (F : Nat → Prop) : Prop where
  head : ∀ x, a = some x → F x.block
  sub : ∀ i q g, i < n → q < sz → G i q g → F g
  apart : ∀ i q x, i < n → q < sz → a = some x → ¬ G i q x.block
  each : ∀ i q i' q' g, i < n → q < sz → i' < n → q' < sz → G i q g → G i' q' g → i = i' ∧ q = q'
/-- A datum that is ours: all its blocks are from B on and lie in F; no two lists of it share memory. -/
def Ow (w : World) (B : Nat) : Dt → Value → (Nat → Prop) → Prop
  | .val v, x, _ => x = v
  | .lst t sz n f, x, F => ∃ a cap c G, x = .slice a n cap ∧ w.ownsRow B t sz (.slice a n cap) n (cL sz c n) ∧ Sep a n sz G F ∧ ∀ i q, i < n → q < sz → Ow w B (f i q) (c i q) (G i q)
theorem Ow.mono {w : World} {B : Nat} {d : Dt} {v : Value} {F F' : Nat → Prop} (h : Ow w B d v F) (hF : ∀ g, F g → F' g) : Ow w B d v F' := by
  cases d with
  | val v => exact h
  | lst t sz n f =>
    obtain ⟨a, cap, c, G, e, ho, hs, hr⟩ := h
    exact ⟨a, cap, c, G, e, ho, ⟨fun x hx => hF _ (hs.head x hx), fun i q g hi hq hg => hF _ (hs.sub i q g hi hq hg), hs.apart, hs.each⟩, hr⟩
theorem Ow.frame {w w' : World} {B : Nat} : ∀ {d : Dt} {v : Value} {F : Nat → Prop}, Ow w B d v F → (∀ g, F g → g < w.heap.size → w'.heap[g]? = w.heap[g]?) → Ow w' B d v F := by
  intro d
  induction d with
  | val v => intro x F hx _; exact hx
  | lst t sz n f ih =>
    rintro x F ⟨a, cap, c, G, e, ho, hs, hr⟩ hF
    refine ⟨a, cap, c, G, e, ⟨ho.1, ?_⟩, hs, fun i q hi hq => ih i q (hr i q hi hq) fun g hg => hF g (hs.sub i q g hi hq hg)⟩
    rcases ho.2 with h' | ⟨g, cap', cur, h1, h2, h3, h4⟩
    · exact .inl h'
    · refine .inr ⟨g, cap', cur, h1, h2, ?_, h4⟩
      have hx : a = some ⟨g, 0, none⟩ := by cases h1; rfl
      rw [hF g (hs.head _ hx) (Array.getElem?_eq_some_iff.1 h3).1]
      exact h3
theorem Ow.below {w w' : World} {B : Nat} {d : Dt} {v : Value} {F : Nat → Prop} (h : Ow w B d v F) (hb : Below w.heap.size w w') : Ow w' B d v F := h.frame fun g _ hg => hb.block g hg
theorem Ow.base {w : World} {B B' : Nat} : ∀ {d : Dt} {v : Value} {F : Nat → Prop}, Ow w B d v F → B' ≤ B → Ow w B' d v F := by
  intro d
  induction d with
  | val v => intro x F hx _; exact hx
  | lst t sz n f ih =>
    rintro x F ⟨a, cap, c, G, e, ho, hs, hr⟩ hB
    exact ⟨a, cap, c, G, e, own_base ho hB, hs, fun i q hi hq => ih i q (hr i q hi hq) hB⟩
theorem Ow.rd {w : World} {B : Nat} : ∀ {d : Dt} {v : Value} {F : Nat → Prop}, Ow w B d v F → Rd w d v := by
  intro d
  induction d with
  | val v => intro x F hx; exact hx
  | lst t sz n f ih =>
    rintro x F ⟨a, cap, c, G, e, ho, hs, hr⟩
    refine ⟨a, cap, e, fun i hi => ?_⟩
    rcases own_shape ho with ⟨_, h0, _⟩ | ⟨g, cur, rfl, _⟩
    · omega
    · refine ⟨g, 0, rfl, fun q hq => ⟨c i q, ?_, ih i q (hr i q hi hq)⟩⟩
      rw [Nat.zero_add, ho.cellAt _ (mid_lt hi hq)]
      exact cL_get _ _ _ _ _ hi hq
/-- Its blocks that are there lie from B on: F may be cut down to these. -/
theorem Ow.cut {w : World} {B : Nat} : ∀ {d : Dt} {v : Value} {F : Nat → Prop}, Ow w B d v F → Ow w B d v (fun g => F g ∧ B ≤ g ∧ g < w.heap.size) := by
  intro d
  induction d with
  | val v => intro x F hx; exact hx
  | lst t sz n f ih =>
    rintro x F ⟨a, cap, c, G, e, ho, hs, hr⟩
    refine ⟨a, cap, c, fun i q g => G i q g ∧ B ≤ g ∧ g < w.heap.size, e, ho, ⟨fun x hx => ⟨hs.head x hx, ?_⟩, fun i q g hi hq hg => ⟨hs.sub i q g hi hq hg.1, hg.2⟩, fun i q x hi hq hx hg => hs.apart i q x hi hq hx hg.1, fun i q i' q' g hi hq hi' hq' hg hg' => hs.each i q i' q' g hi hq hi' hq' hg.1 hg'.1⟩, fun i q hi hq => ih i q (hr i q hi hq)⟩
    subst hx
    exact World.ownsRow.lt ho x.block rfl
theorem Ow.nil (w : World) (B : Nat) (t : TypeId) (sz : Nat) (f : Nat → Nat → Dt) (F : Nat → Prop) : Ow w B (.lst t sz 0 f) (.slice none 0 0) F :=
  ⟨none, 0, fun _ _ => undef, fun _ _ _ => False, rfl, by have := World.ownsRow_nil w B t sz; simpa [cL] using this, ⟨fun _ e => (nomatch e), fun _ _ _ hi => absurd hi (Nat.not_lt_zero _), fun _ _ _ hi => absurd hi (Nat.not_lt_zero _), fun _ _ _ _ _ hi => absurd hi (Nat.not_lt_zero _)⟩, fun _ _ hi => absurd hi (Nat.not_lt_zero _)⟩
theorem Ow.congr {w : World} {B : Nat} {t : TypeId} {sz n : Nat} {f f' : Nat → Nat → Dt} {v : Value} {F : Nat → Prop} (h : Ow w B (.lst t sz n f) v F) (e : ∀ i q, i < n → q < sz → f i q = f' i q) : Ow w B (.lst t sz n f') v F := by
  obtain ⟨a, cap, c, G, ex, ho, hs, hr⟩ := h
  exact ⟨a, cap, c, G, ex, ho, hs, fun i q hi hq => by rw [← e i q hi hq]; exact hr i q hi hq⟩
/-- Only blocks of F have turned; new ones may have come. -/
structure Trn (w w' : World) (F : Nat → Prop) : Prop where
  os : w'.os = w.os
  tape : w'.tape = w.tape
  output : w'.output = w.output
  size : w.heap.size ≤ w'.heap.size
  block : ∀ j, j < w.heap.size → ¬ F j → w'.heap[j]? = w.heap[j]?
theorem Trn.refl (w : World) (F : Nat → Prop) : Trn w w F := ⟨rfl, rfl, rfl, Nat.le_refl _, fun _ _ _ => rfl⟩
theorem Trn.trans {w w1 w2 : World} {F : Nat → Prop} (h : Trn w w1 F) (h2 : Trn w1 w2 F) : Trn w w2 F :=
  ⟨h2.os.trans h.os, h2.tape.trans h.tape, h2.output.trans h.output, Nat.le_trans h.size h2.size, fun j hj hn => (h2.block j (Nat.lt_of_lt_of_le hj h.size) hn).trans (h.block j hj hn)⟩
theorem Trn.mono {w w' : World} {F F' : Nat → Prop} (h : Trn w w' F) (hF : ∀ g, F g → F' g) : Trn w w' F' := ⟨h.os, h.tape, h.output, h.size, fun j hj hn => h.block j hj fun hf => hn (hF j hf)⟩
theorem Trn.below {w w' : World} {F : Nat → Prop} {s : Nat} (h : Trn w w' F) (hs : ∀ g, F g → s ≤ g) (hw : s ≤ w.heap.size) : Below s w w' := ⟨h.os, h.tape, h.output, h.size, fun j hj => h.block j (by omega) fun hf => by have := hs j hf; omega⟩
theorem Trn.set (w : World) {F : Nat → Prop} {g : Nat} (j : Nat) (v : Value) (hF : F g) : Trn w (w.setCell ⟨g, j, none⟩ v) F := ⟨rfl, rfl, rfl, by simp, fun i _ hi => heap_setCell_other w ⟨g, j, none⟩ i v (fun e => by subst e; exact hi hF)⟩
theorem Ow.turned {w w' : World} {B : Nat} {d : Dt} {v : Value} {F F' : Nat → Prop} (h : Ow w B d v F) (ht : Trn w w' F') (hd : ∀ g, F g → ¬ F' g) : Ow w' B d v F := h.frame fun g hg hl => ht.block g hl (hd g hg)
end Go.Proofs.YthnjhjgffkilcaaGreatDoor
/- The laws' marks over lists of texts. Conditions: at most 1000 texts, marks up to 10^6. -/
namespace Go.Proofs.YthnjhjgffkilcaaGreatDoor
set_option maxRecDepth 2000
open Go.ChangeShapes Go.WideShapes Go.ChangeAt Go.RowKit

/-- A list of texts of ours that lies from block 'B' on, ahead of block 'E'. -/
def RowT (w : World) (B E : Nat) (a : Option Addr) (n cap : Nat) (S : Nat → ByteArray) : Prop := OwnT w B a n cap S ∧ ∀ x, a = some x → B ≤ x.block ∧ x.block < E
theorem OwnT.row {w : World} {B : Nat} {a : Option Addr} {n cap : Nat} {S : Nat → ByteArray} (h : OwnT w B a n cap S) : RowT w B w.heap.size a n cap S := by
  refine ⟨h, fun x e => ?_⟩
  subst e
  exact World.ownsRow.lt h x.block rfl
theorem ResT.row {w w' : World} {v : Value} {n : Nat} {S : Nat → ByteArray} (h : ResT w w' v n S) : ∃ a cap, v = .slice a n cap ∧ RowT w' w.heap.size w'.heap.size a n cap S := by
  obtain ⟨a, cap, rfl, ho⟩ := h
  exact ⟨a, cap, rfl, ho.row⟩
theorem RowT.below {w w' : World} {B E : Nat} {a : Option Addr} {n cap : Nat} {S : Nat → ByteArray} (h : RowT w B E a n cap S) (hb : Below w.heap.size w w') : RowT w' B E a n cap S := ⟨h.1.below hb, h.2⟩
theorem RowT.at {w : World} {B E : Nat} {a : Option Addr} {n cap : Nat} {S : Nat → ByteArray} (h : RowT w B E a n cap S) : TxtAt w a n S := h.1.at
theorem RowT.turned {w w' : World} {B E B' E' : Nat} {a : Option Addr} {n cap : Nat} {S : Nat → ByteArray} (h : RowT w B E a n cap S) (ht : TurnM w w' B' E') (hd : E ≤ B' ∨ E' ≤ B) : RowT w' B E a n cap S :=
  ⟨own_turn2 h.1 ht (fun x e hx => by have := h.2 x e; omega), h.2⟩
theorem TurnM.set (w : World) {B E g : Nat} (j : Nat) (v : Value) (hB : B ≤ g) (hE : g < E) : TurnM w (w.setCell ⟨g, j, none⟩ v) B E := ⟨rfl, rfl, rfl, by simp, fun i _ hi => heap_setCell_other w ⟨g, j, none⟩ i v (fun e => by have e' : i = g := e; omega)⟩
end Go.Proofs.YthnjhjgffkilcaaGreatDoor
/- A piece as the machine holds it. Definitions and lemmas; no walk. -/
namespace Go.Proofs.YthnjhjgffkilcaaGreatDoor
set_option maxRecDepth 2000
open Go.ChangeShapes Go.WideShapes Go.ChangeAt Go.RowKit

/-- A piece as the machine holds it. -/
abbrev pcC (r : ByteArray) (k n i : Int) (b : ByteArray) (v : Value) : Array Value := #[.string r, .int .i64 k, .int .i64 n, .int .i64 i, .string b, v]
abbrev pcV (r : ByteArray) (k n i : Int) (b : ByteArray) (v : Value) : Value := .agg (pcC r k n i b v)
theorem Tryz.infoPc : (Tryz.prog.info? 33).map (·.size) = some 6 := by kernel_rfl
theorem OwnT.setFar {w : World} {B g o : Nat} {a : Option Addr} {n c : Nat} {S : Nat → ByteArray} {v : Value} (h : OwnT w B a n c S) (hB : g < B) : OwnT (w.setCell ⟨g, o, none⟩ v) B a n c S :=
  own_kept h (grown_set _ _ _ _) (fun x e => by subst e; have := (World.ownsRow.lt h x.block rfl).1; omega)
end Go.Proofs.YthnjhjgffkilcaaGreatDoor
