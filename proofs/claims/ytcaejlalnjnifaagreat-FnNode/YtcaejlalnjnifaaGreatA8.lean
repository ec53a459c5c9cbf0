import Derived.Test.YtcaejlalnjnifaaGreatA6
import Derived.Shelf.Abstract
import Derived.Deep.RegionHeld3
import Derived.Deep.AppendLies
import Derived.Deep.Strs
import Derived.Deep.MidRow
import Derived.Test.YtcaejlalnjnifaaGreatA4
import Derived.Test.YtcaejlalnjnifaaGreatRows
set_option maxHeartbeats 8000000
set_option maxRecDepth 2000
open Go.ChangeShapes Go.WideShapes Go.ChangeAt Go.RowKit
namespace Go.Proofs.YtcaejlalnjnifaaGreat
theorem below_of_drew {w w1 : World} (h : Below w.drew.heap.size w.drew w1) : Below w.heap.size w w1 := ⟨h.os, h.tape, h.output, h.size, h.block⟩
theorem own_shape {w : World} {B e s : Nat} {a : Option Addr} {n cap n' : Nat} {xs : List Value} (h : w.ownsRow B e s (.slice a n cap) n' xs) :
  (a = none ∧ n = 0 ∧ cap = 0) ∨ ∃ g cur, a = some ⟨g, 0, none⟩ ∧ B ≤ g ∧ w.heap[g]? = some (.cells cur e (0, 0)) ∧ n ≤ cap := by
 rcases h.2 with ⟨h', _⟩ | ⟨g, cap', cur, h', hb, hg, hn, _⟩
 ·cases h'; exact .inl ⟨rfl, rfl, rfl⟩
 ·cases h'; exact .inr ⟨g, cur, rfl, hb, hg, hn⟩
theorem own_kept {w w' : World} {B e s n : Nat} {a : Option Addr} {l c b : Nat} {xs : List Value} (h : w.ownsRow B e s (.slice a l c) n xs) (hg : w.grownBy w' (some b)) (hn : ∀ x, a = some x → x.block ≠ b) : w'.ownsRow B e s (.slice a l c) n xs := by
 refine World.ownsRow.kept h hg ?_
 cases a with
 | none => exact .inl rfl
 | some x => exact .inr (by simp [Value.ownBlock]; exact hn x rfl)
theorem grown_set (w : World) (g j : Nat) (v : Value) : w.grownBy (w.setCell ⟨g, j, none⟩ v) (some g) :=
 ⟨rfl, rfl, rfl, by simp, fun i _ hi => heap_setCell_other w ⟨g, j, none⟩ i _ (fun e => hi (by simp [e]))⟩
structure TurnM (w w' : World) (B E : Nat) : Prop where
 os : w'.os = w.os
 tape : w'.tape = w.tape
 output : w'.output = w.output
 size : w.heap.size ≤ w'.heap.size
 block : ∀ j, j < w.heap.size → (j < B ∨ E ≤ j) → w'.heap[j]? = w.heap[j]?
theorem TurnM.refl (w : World) (B E : Nat) : TurnM w w B E := ⟨rfl, rfl, rfl, Nat.le_refl _, fun _ _ _ => rfl⟩
theorem TurnM.trans {w w1 w2 : World} {B E : Nat} (h : TurnM w w1 B E) (h2 : TurnM w1 w2 B E) : TurnM w w2 B E :=
 ⟨h2.os.trans h.os, h2.tape.trans h.tape, h2.output.trans h.output, Nat.le_trans h.size h2.size, fun j hj hr => (h2.block j (Nat.lt_of_lt_of_le hj h.size) hr).trans (h.block j hj hr)⟩
theorem TurnM.below {w w' : World} {B E s : Nat} (h : TurnM w w' B E) (hs : s ≤ B) (hw : s ≤ w.heap.size) : Below s w w' :=
 ⟨h.os, h.tape, h.output, h.size, fun j hj => h.block j (by omega) (.inl (by omega))⟩
theorem own_turn {w w' : World} {B E B' E' e s n l c : Nat} {a : Option Addr} {xs : List Value} (h : w.ownsRow B e s (.slice a l c) n xs) (ht : TurnM w w' B' E') (hE : ∀ x, a = some x → x.block < E) (hd : E ≤ B' ∨ E' ≤ B) : w'.ownsRow B e s (.slice a l c) n xs := by
 refine ⟨h.1, ?_⟩
 rcases h.2 with h' | ⟨g, cap, cur, h1, h2, h3, h4⟩
 ·exact .inl h'
 ·refine .inr ⟨g, cap, cur, h1, h2, ?_, h4⟩
  cases h1
  have := hE _ rfl
  rw [ht.block g (Array.getElem?_eq_some_iff.1 h3).1 (by simp at this; omega)]
  exact h3
theorem own_turn2 {w w' : World} {B b e0 e s n l c : Nat} {a : Option Addr} {xs : List Value} (h : w.ownsRow B e s (.slice a l c) n xs) (ht : TurnM w w' b e0) (hx : ∀ x, a = some x → ¬ (b ≤ x.block ∧ x.block < e0)) : w'.ownsRow B e s (.slice a l c) n xs := by
 refine ⟨h.1, ?_⟩
 rcases h.2 with h' | ⟨g, cap, cur, h1, h2, h3, h4⟩
 ·exact .inl h'
 ·refine .inr ⟨g, cap, cur, h1, h2, ?_, h4⟩
  cases h1
  have := hx _ rfl
  rw [ht.block g (Array.getElem?_eq_some_iff.1 h3).1 (by simp at this; omega)]
  exact h3
def tot (L : Nat → Nat) : Nat → Nat
 | 0 => 0
 | n + 1 => tot L n + L n
theorem own_base {w : World} {B B' e s n : Nat} {v : Value} {xs : List Value} (h : w.ownsRow B e s v n xs) (hB : B' ≤ B) : w.ownsRow B' e s v n xs := by
 refine ⟨h.1, ?_⟩
 rcases h.2 with h' | ⟨g, cap, cur, h1, h2, h3⟩
 ·exact .inl h'
 ·exact .inr ⟨g, cap, cur, h1, by omega, h3⟩
theorem wpList_append_all {P : Program} (w : World) {ops : Array Oper} {rest : List Oper} {o : Oper} {a : Act} {Q : Exit → Act → World → Prop} (hgd : o.guard = none) (s x : Operand) (t : TypeId)
  (ho : o.op = .call { callee := .builtin .append, args := #[s, x], argTypes := #[t, t] })
  (base : Nat) (e : TypeId) (i : TypeInfo) (z : Value) (size bytes : Nat) (ht : P.underlying t = some (.slice e)) (hi : P.info? e = some i) (hz : i.zero = some z)
  (hsize : i.size = size) (hby : i.bytes = bytes) (hzs : z.cells.size = size) (hsz : 0 < size)
  (g0 n cap0 : Nat) (xs : List Value) (hs : a.eval s = .slice (some ⟨g0, 0, none⟩) n cap0) (hown : w.ownsRow base e size (.slice (some ⟨g0, 0, none⟩) n cap0) n xs)
  (ad : Addr) (m c : Nat) (news : List Value) (hx : a.eval x = .slice (some ad) m c) (hl : news.length = m * size) (hnews : ∀ j u, news[j]? = some u → w.cell? (ad.add j) = some u) (h1 : ∀ u ∈ news, u.oneCell' = true)
  (h63 : n + m ≤ maxLen) (hbytes : (n + m) * bytes ≤ 140737488355328) (hbase : base ≤ w.heap.size)
  (h : ∀ g cap w', w'.ownsRow base e size (.slice (some ⟨g, 0, none⟩) (n + m) cap) (n + m) (xs ++ news) → w.grownBy w' (some g0) → wpList P ops Q rest (a.put o.dst (.slice (some ⟨g, 0, none⟩) (n + m) cap)) w') :
  wpList P ops Q (o :: rest) a w := by
 refine wpList_append_own w hgd s x t ho base e i z size bytes ht hi hz hsize hby hzs hsz _ n xs hs hown ad m c news hx hl hnews h1 h63 hbytes hbase fun v' w' h2 h3 h4 => ?_
 have hne : v' ≠ .slice none 0 0 := fun e => by have := h4.1 e; cases this.1
 rcases h2.2 with ⟨e, _⟩ | ⟨g, cap, cur, e, _⟩
 ·exact absurd e hne
 ·subst e
  exact h g cap w' h2 h3
theorem step_append_row {P : Program} (w : World) {ops : Array Oper} {o : Oper} {a : Act} {K : Act → World → Prop} {Q : Exit → Act → World → Prop} {E : Prop} (hgd : o.guard = none) (s x : Operand) (t : TypeId)
  (ho : o.op = .call { callee := .builtin .append, args := #[s, x], argTypes := #[t, t] })
  (base : Nat) (e : TypeId) (i : TypeInfo) (z : Value) (size bytes : Nat) (ht : P.underlying t = some (.slice e)) (hi : P.info? e = some i) (hz : i.zero = some z)
  (hsize : i.size = size) (hby : i.bytes = bytes) (hzs : z.cells.size = size) (hsz : 0 < size)
  (g0 n cap0 : Nat) (xs : List Value) (hs : a.eval s = .slice (some ⟨g0, 0, none⟩) n cap0) (hown : w.ownsRow base e size (.slice (some ⟨g0, 0, none⟩) n cap0) n xs)
  (ad : Addr) (m c : Nat) (news : List Value) (hx : a.eval x = .slice (some ad) m c) (hl : news.length = m * size) (hnews : ∀ j u, news[j]? = some u → w.cell? (ad.add j) = some u) (h1 : ∀ u ∈ news, u.oneCell' = true)
  (h63 : n + m ≤ maxLen) (hbytes : (n + m) * bytes ≤ 140737488355328) (hbase : base ≤ w.heap.size)
  (h : ∀ g cap w', w'.ownsRow base e size (.slice (some ⟨g, 0, none⟩) (n + m) cap) (n + m) (xs ++ news) → w.grownBy w' (some g0) → K (a.put o.dst (.slice (some ⟨g, 0, none⟩) (n + m) cap)) w') :
  if Region.wanted o (yielded ops a.tmps) = true then Oper.wp P o a w K Q else E := by
 have hw : Region.wanted o (yielded ops a.tmps) = true := by simp [Region.wanted, hgd]
 rw [if_pos hw]
 refine wp_append_own w s x t ho base e i z size bytes ht hi hz hsize hby hzs hsz _ n xs hs hown ad m c news hx hl hnews h1 h63 hbytes hbase fun v' w' h2 h3 h4 => ?_
 have hne : v' ≠ .slice none 0 0 := fun e => by have := h4.1 e; cases this.1
 rcases h2.2 with ⟨e, _⟩ | ⟨g, cap, cur, e, _⟩
 ·exact absurd e hne
 ·subst e
  exact h g cap w' h2 h3
theorem Tryz.infoStr : (Tryz.prog.info? 9).map (fun i => (i.zero, i.size, i.bytes)) = some (some (.string ByteArray.empty), 1, 16) := by kernel_rfl
def TxtAt (w : World) (a : Option Addr) (n : Nat) (S : Nat → ByteArray) : Prop := ∀ i, i < n → ∃ b off, a = some ⟨b, off, none⟩ ∧ w.cell? ⟨b, off + i, none⟩ = some (.string (S i))
theorem TxtAt.below {w w' : World} {a : Option Addr} {n : Nat} {S : Nat → ByteArray} (h : TxtAt w a n S) (hb : Below w.heap.size w w') : TxtAt w' a n S := fun i hi => by
 obtain ⟨b, off, e, hc⟩ := h i hi
 exact ⟨b, off, e, (hb.cell (p := ⟨b, off + i, none⟩) (block_lt_of_cell hc)).trans hc⟩
theorem TxtAt.congr {w : World} {a : Option Addr} {n : Nat} {S S' : Nat → ByteArray} (h : TxtAt w a n S) (e : ∀ i, i < n → S i = S' i) : TxtAt w a n S' := fun i hi => by
 obtain ⟨b, off, ea, hc⟩ := h i hi
 exact ⟨b, off, ea, by rw [← e i hi]; exact hc⟩
theorem TxtAt.less {w : World} {a : Option Addr} {n m : Nat} {S : Nat → ByteArray} (h : TxtAt w a n S) (hm : m ≤ n) : TxtAt w a m S := fun i hi => h i (by omega)
theorem TxtAt.some {w : World} {a : Option Addr} {n : Nat} {S : Nat → ByteArray} (h : TxtAt w a n S) (hn : 0 < n) : ∃ b off, a = some ⟨b, off, none⟩ ∧ ∀ i, i < n → w.cell? ⟨b, off + i, none⟩ = .some (.string (S i)) := by
 obtain ⟨b, off, e, _⟩ := h 0 hn
 refine ⟨b, off, e, fun i hi => ?_⟩
 obtain ⟨b', off', e', hc⟩ := h i hi
 rw [e] at e'
 simp at e'
 obtain ⟨rfl, rfl⟩ := e'
 exact hc
def sL (S : Nat → ByteArray) (n : Nat) : List Value := (List.range n).map fun i => Value.string (S i)
theorem sL_len (S : Nat → ByteArray) (n : Nat) : (sL S n).length = n := by simp [sL]
theorem sL_get (S : Nat → ByteArray) (n i : Nat) (h : i < n) : (sL S n)[i]? = some (Value.string (S i)) := by simp [sL, h]
theorem sL_congr {S S' : Nat → ByteArray} {n : Nat} (h : ∀ i, i < n → S i = S' i) : sL S n = sL S' n := by
 unfold sL
 apply List.map_congr_left
 intro i hi
 rw [h i (List.mem_range.1 hi)]
theorem sL_snoc (S : Nat → ByteArray) (n : Nat) : sL S (n + 1) = sL S n ++ [Value.string (S n)] := by
 unfold sL
 rw [List.range_succ, List.map_append]
 rfl
theorem sL_set (S : Nat → ByteArray) (n k : Nat) (s : ByteArray) (h : k < n) : (sL S n).set k (.string s) = sL (fun i => if i = k then s else S i) n := by
 apply List.ext_getElem?
 intro i
 rw [List.getElem?_set]
 by_cases hi : i < n
 ·by_cases e : k = i
  ·subst e; simp [sL, h]
  ·simp [sL, hi, e, Ne.symm e]
 ·by_cases e : k = i
  ·omega
  ·rw [if_neg e, List.getElem?_eq_none (by rw [sL_len]; omega), List.getElem?_eq_none (by rw [sL_len]; omega)]
theorem sL_empty (n : Nat) : sL (fun _ => ByteArray.empty) n = List.replicate n (Value.string ByteArray.empty) := by
 apply List.ext_getElem?
 intro i
 by_cases hi : i < n
 ·rw [sL_get _ _ _ hi]; simp [hi]
 ·rw [List.getElem?_eq_none (by rw [sL_len]; omega), List.getElem?_eq_none (by simp; omega)]
def OwnT (w : World) (B : Nat) (a : Option Addr) (n cap : Nat) (S : Nat → ByteArray) : Prop := w.ownsRow B 9 1 (.slice a n cap) n (sL S n)
theorem OwnT.at {w : World} {B : Nat} {a : Option Addr} {n cap : Nat} {S : Nat → ByteArray} (h : OwnT w B a n cap S) : TxtAt w a n S := by
 intro i hi
 rcases own_shape h with ⟨rfl, rfl, rfl⟩ | ⟨g, cur, rfl, _⟩
 ·omega
 ·exact ⟨g, 0, rfl, by rw [Nat.zero_add, h.cellAt i (by omega), sL_get _ _ _ hi]⟩
theorem OwnT.below {w w' : World} {B : Nat} {a : Option Addr} {n cap : Nat} {S : Nat → ByteArray} (h : OwnT w B a n cap S) (hb : Below w.heap.size w w') : OwnT w' B a n cap S := ownsRow_below h hb
theorem OwnT.congr {w : World} {B : Nat} {a : Option Addr} {n cap : Nat} {S S' : Nat → ByteArray} (h : OwnT w B a n cap S) (e : ∀ i, i < n → S i = S' i) : OwnT w B a n cap S' := by
 unfold OwnT at *
 rw [← sL_congr e]
 exact h
theorem OwnT.base {w : World} {B B' : Nat} {a : Option Addr} {n cap : Nat} {S : Nat → ByteArray} (h : OwnT w B a n cap S) (hB : B' ≤ B) : OwnT w B' a n cap S := own_base h hB
theorem OwnT.nil (w : World) (B : Nat) (S : Nat → ByteArray) : OwnT w B none 0 0 S := World.ownsRow_nil w B _ _
theorem litT (w : World) (S : Nat → ByteArray) : OwnT (w.alloc (.cells #[] 9)) w.heap.size (some ⟨w.heap.size, 0, none⟩) 0 0 S :=
 World.ownsRow_lit w #[] 0 (Nat.le_refl _) (by unfold maxLen; omega) rfl
def ResT (w w' : World) (v : Value) (n : Nat) (S : Nat → ByteArray) : Prop := ∃ a cap, v = .slice a n cap ∧ OwnT w' w.heap.size a n cap S
theorem ResT.none (w w' : World) (S : Nat → ByteArray) : ResT w w' (.slice none 0 0) 0 S := ⟨_, _, rfl, OwnT.nil _ _ _⟩
theorem ResT.congr {w w' : World} {v : Value} {n : Nat} {S S' : Nat → ByteArray} (h : ResT w w' v n S) (e : ∀ i, i < n → S i = S' i) : ResT w w' v n S' := by
 obtain ⟨a, cap, rfl, ho⟩ := h
 exact ⟨a, cap, rfl, ho.congr e⟩
theorem ba_beq (s : ByteArray) : (s.toList == s.toList) = true := by simp
theorem ba_ne {s u : ByteArray} (h : s ≠ u) : (s.toList == u.toList) = false := by
 rw [ByteArray.toList_eq, ByteArray.toList_eq]
 simp only [beq_eq_false_iff_ne, ne_eq]
 intro e
 exact h (ByteArray.ext (Array.toList_inj.1 e))
theorem sameT_same (a b : Option Addr) (n ca cb : Nat) (S : Nat → ByteArray) (w : World) (ha : TxtAt w a n S) (hb : TxtAt w b n S) (hn : n ≤ 1048576) :
  Calls Tryz.prog 62 #[.slice a n ca, .slice b n cb] w fun e w' => e = .returned (.bool true) ∧ Below w.heap.size w w' := by
 go_enter Tryz.func62, Tryz.ntmps62
 go_wp2
 go_loopw [5] (fun i wr => ∃ k : Nat, k ≤ n ∧ i = .int .i64 k ∧ Below w.heap.size w wr) (fun i _ => n - (intOf i).toNat)
 case atStart => exact ⟨0, Nat.zero_le _, rfl, Below.refl _ _⟩
 case round =>
  obtain ⟨k, hk, rfl, hbel⟩ := hrel
  have ha' := ha.below hbel
  have hb' := hb.below hbel
  clear ha hb
  by_cases hlt : k < n
  ·obtain ⟨ba, oa, rfl, hca⟩ := ha' k hlt
   obtain ⟨bb, ob, rfl, hcb⟩ := hb' k hlt
   have hlti : (k : Int) < (n : Int) := by omega
   clear ha' hb'
   generalize S k = s at hca hcb
   have hbq := ba_beq s
   go_wp2
   go_quiet (fail)
   go_wp2
   go_roundw
   case rel => exact ⟨k + 1, by omega, by go_num, below_drewN hbel _⟩
   case measure => simp [intOf]; omega
  ·go_wp2
   go_ret
   exact ⟨rfl, hbel⟩
inductive Dt where
 | val (v : Value)
 | lst (t : TypeId) (sz n : Nat) (f : Nat → Nat → Dt)
def Rd (w : World) : Dt → Value → Prop
 | .val v, x => x = v
 | .lst _ sz n f, x => ∃ a cap, x = .slice a n cap ∧ ∀ i, i < n → ∃ b off, a = some ⟨b, off, none⟩ ∧ ∀ q, q < sz → ∃ y, w.cell? ⟨b, off + (i * sz + q), none⟩ = some y ∧ Rd w (f i q) y
theorem Rd.keep {w w' : World} (h : ∀ (p : Addr) (v : Value), w.cell? p = some v → w'.cell? p = some v) : ∀ {d : Dt} {v : Value}, Rd w d v → Rd w' d v := by
 intro d
 induction d with
 | val v => intro x hx; exact hx
 | lst t sz n f ih =>
  rintro x ⟨a, cap, e, hx⟩
  refine ⟨a, cap, e, fun i hi => ?_⟩
  obtain ⟨b, off, ea, hq⟩ := hx i hi
  refine ⟨b, off, ea, fun q hq' => ?_⟩
  obtain ⟨y, hy, hr⟩ := hq q hq'
  exact ⟨y, h _ _ hy, ih i q hr⟩
theorem Rd.below {w w' : World} {d : Dt} {v : Value} (h : Rd w d v) (hb : Below w.heap.size w w') : Rd w' d v :=
 h.keep fun _ _ hp => (hb.cell (block_lt_of_cell hp)).trans hp
theorem Rd.drew {w : World} {d : Dt} {v : Value} (h : Rd w d v) : Rd w.drew d v := Rd.keep (w' := w.drew) (fun p _ hp => by simpa using hp) h
theorem Rd.congr {w : World} {t t' : TypeId} {sz n : Nat} {f f' : Nat → Nat → Dt} {v : Value} (h : Rd w (.lst t sz n f) v) (e : ∀ i q, i < n → q < sz → f i q = f' i q) : Rd w (.lst t' sz n f') v := by
 obtain ⟨a, cap, ex, hx⟩ := h
 refine ⟨a, cap, ex, fun i hi => ?_⟩
 obtain ⟨b, off, ea, hq⟩ := hx i hi
 refine ⟨b, off, ea, fun q hq' => ?_⟩
 obtain ⟨y, hy, hr⟩ := hq q hq'
 exact ⟨y, hy, by rw [← e i q hi hq']; exact hr⟩
theorem Rd.nil (w : World) (t : TypeId) (sz : Nat) (f : Nat → Nat → Dt) (a : Option Addr) (cap : Nat) : Rd w (.lst t sz 0 f) (.slice a 0 cap) := ⟨a, cap, rfl, fun _ hi => absurd hi (Nat.not_lt_zero _)⟩
theorem Rd.shape {w : World} {t : TypeId} {sz n : Nat} {f : Nat → Nat → Dt} {v : Value} (h : Rd w (.lst t sz n f) v) : ∃ a cap, v = .slice a n cap := by
 obtain ⟨a, cap, e, _⟩ := h
 exact ⟨a, cap, e⟩
theorem Rd.row {w : World} {t : TypeId} {sz n : Nat} {f : Nat → Nat → Dt} {a : Option Addr} {cap : Nat} (h : Rd w (.lst t sz n f) (.slice a n cap)) {i : Nat} (hi : i < n) :
  ∃ (b off : Nat) (y : Nat → Value), a = some ⟨b, off, none⟩ ∧ (∀ q, q < sz → w.cell? ⟨b, off + (i * sz + q), none⟩ = some (y q)) ∧ ∀ q, q < sz → Rd w (f i q) (y q) := by
 obtain ⟨a', cap', e, hx⟩ := h
 cases e
 obtain ⟨b, off, ea, hq⟩ := hx i hi
 have : ∀ q, ∃ y, q < sz → w.cell? ⟨b, off + (i * sz + q), none⟩ = some y ∧ Rd w (f i q) y := fun q => by
  by_cases h : q < sz
  ·obtain ⟨y, hy⟩ := hq q h; exact ⟨y, fun _ => hy⟩
  ·exact ⟨undef, fun h' => absurd h' h⟩
 obtain ⟨y, hy⟩ := Classical.axiomOfChoice this
 exact ⟨b, off, y, ea, fun q hq => (hy q hq).1, fun q hq => (hy q hq).2⟩
def txD (m : Nat) (S : Nat → ByteArray) : Dt := .lst 9 1 m fun i _ => .val (.string (S i))
def inD (zs : List Int) : Dt := .lst 3 1 zs.length fun i _ => .val (.int .i64 (zs.getD i 0))
theorem rd_txt {w : World} {m : Nat} {S : Nat → ByteArray} {a : Option Addr} {cap : Nat} : Rd w (txD m S) (.slice a m cap) ↔ TxtAt w a m S := by
 constructor
 ·rintro ⟨a', cap', e, hx⟩ i hi
  cases e
  obtain ⟨b, off, ea, hq⟩ := hx i hi
  obtain ⟨y, hy, hr⟩ := hq 0 (by omega)
  exact ⟨b, off, ea, by rw [show off + i = off + (i * 1 + 0) by omega, hy]; exact congrArg some hr⟩
 ·intro h
  refine ⟨a, cap, rfl, fun i hi => ?_⟩
  obtain ⟨b, off, ea, hc⟩ := h i hi
  refine ⟨b, off, ea, fun q hq => ?_⟩
  obtain rfl : q = 0 := by omega
  exact ⟨_, by rw [show off + (i * 1 + 0) = off + i by omega]; exact hc, rfl⟩
theorem rd_ints {w : World} {zs : List Int} {a : Option Addr} {cap : Nat} : Rd w (inD zs) (.slice a zs.length cap) ↔ IntsAt w a zs.length zs := by
 constructor
 ·rintro ⟨a', cap', e, hx⟩
  refine ⟨rfl, fun i hi => ?_⟩
  cases e
  obtain ⟨b, off, ea, hq⟩ := hx i hi
  obtain ⟨y, hy, hr⟩ := hq 0 (by omega)
  exact ⟨b, off, ea, by rw [show off + i = off + (i * 1 + 0) by omega, hy]; exact congrArg some hr⟩
 ·intro h
  refine ⟨a, cap, rfl, fun i hi => ?_⟩
  obtain ⟨b, off, ea, hc⟩ := h.2 i hi
  refine ⟨b, off, ea, fun q hq => ?_⟩
  obtain rfl : q = 0 := by omega
  exact ⟨_, by rw [show off + (i * 1 + 0) = off + i by omega]; exact hc, rfl⟩
def cL (sz : Nat) (c : Nat → Nat → Value) (n : Nat) : List Value := (List.range (n * sz)).map fun j => c (j / sz) (j % sz)
theorem cL_len (sz : Nat) (c : Nat → Nat → Value) (n : Nat) : (cL sz c n).length = n * sz := by simp [cL]
theorem mid_lt {sz n i q : Nat} (hi : i < n) (hq : q < sz) : i * sz + q < n * sz := by
 have := Nat.mul_le_mul_right sz (show i + 1 ≤ n by omega)
 rw [Nat.succ_mul] at this
 omega
theorem mid_div {sz i q : Nat} (hq : q < sz) : (i * sz + q) / sz = i := by rw [Nat.mul_comm, Nat.mul_add_div (by omega), Nat.div_eq_of_lt hq, Nat.add_zero]
theorem mid_mod {sz i q : Nat} (hq : q < sz) : (i * sz + q) % sz = q := by rw [Nat.mul_comm, Nat.mul_add_mod, Nat.mod_eq_of_lt hq]
theorem mid_eq {sz j : Nat} : j / sz * sz + j % sz = j := by rw [Nat.mul_comm]; exact Nat.div_add_mod j sz
theorem cL_get (sz : Nat) (c : Nat → Nat → Value) (n i q : Nat) (hi : i < n) (hq : q < sz) : (cL sz c n)[i * sz + q]? = some (c i q) := by
 simp [cL, mid_lt hi hq, mid_div hq, mid_mod hq]
theorem cL_congr {sz : Nat} {c c' : Nat → Nat → Value} {n : Nat} (h : ∀ i q, i < n → q < sz → c i q = c' i q) : cL sz c n = cL sz c' n := by
 unfold cL
 refine List.map_congr_left fun j hj => ?_
 have hj' : j < n * sz := by simpa using hj
 have hs : 0 < sz := by
  rcases Nat.eq_zero_or_pos sz with e | e
  ·subst e; omega
  ·exact e
 exact h _ _ ((Nat.div_lt_iff_lt_mul hs).2 hj') (Nat.mod_lt _ hs)
theorem cL_set (sz : Nat) (c : Nat → Nat → Value) (n i q : Nat) (v : Value) (hi : i < n) (hq : q < sz) : (cL sz c n).set (i * sz + q) v = cL sz (fun i' q' => if i' = i ∧ q' = q then v else c i' q') n := by
 apply List.ext_getElem?
 intro j
 rw [List.getElem?_set]
 by_cases hj : j < n * sz
 ·by_cases e : i * sz + q = j
  ·subst e
   rw [if_pos rfl, if_pos (by rw [cL_len]; exact hj), cL_get _ _ _ _ _ hi hq]
   simp
  ·rw [if_neg e]
   have hs : 0 < sz := by omega
   have h1 := cL_get sz c n (j / sz) (j % sz) ((Nat.div_lt_iff_lt_mul hs).2 hj) (Nat.mod_lt _ hs)
   have h2 := cL_get sz (fun i' q' => if i' = i ∧ q' = q then v else c i' q') n (j / sz) (j % sz) ((Nat.div_lt_iff_lt_mul hs).2 hj) (Nat.mod_lt _ hs)
   rw [mid_eq] at h1 h2
   rw [h1, h2, if_neg (fun ⟨e1, e2⟩ => e (by rw [← e1, ← e2]; exact mid_eq))]
 ·rw [if_neg (fun e => hj (by rw [← e]; exact mid_lt hi hq))]
  rw [List.getElem?_eq_none (by rw [cL_len]; omega), List.getElem?_eq_none (by rw [cL_len]; omega)]
structure Sep (a : Option Addr) (n sz : Nat) (G : Nat → Nat → Nat → Prop) (F : Nat → Prop) : Prop where
 head : ∀ x, a = some x → F x.block
 sub : ∀ i q g, i < n → q < sz → G i q g → F g
 apart : ∀ i q x, i < n → q < sz → a = some x → ¬ G i q x.block
 each : ∀ i q i' q' g, i < n → q < sz → i' < n → q' < sz → G i q g → G i' q' g → i = i' ∧ q = q'
def Ow (w : World) (B : Nat) : Dt → Value → (Nat → Prop) → Prop
 | .val v, x, _ => x = v
 | .lst t sz n f, x, F => ∃ a cap c G, x = .slice a n cap ∧ w.ownsRow B t sz (.slice a n cap) n (cL sz c n) ∧ Sep a n sz G F ∧ ∀ i q, i < n → q < sz → Ow w B (f i q) (c i q) (G i q)
theorem Ow.mono {w : World} {B : Nat} {d : Dt} {v : Value} {F F' : Nat → Prop} (h : Ow w B d v F) (hF : ∀ g, F g → F' g) : Ow w B d v F' := by
 cases d with
 | val v => exact h
 | lst t sz n f =>
  obtain ⟨a, cap, c, G, e, ho, hs, hr⟩ := h
  exact ⟨a, cap, c, G, e, ho, ⟨fun x hx => hF _ (hs.head x hx), fun i q g hi hq hg => hF _ (hs.sub i q g hi hq hg), hs.apart, hs.each⟩, hr⟩
theorem Ow.frame {w w' : World} {B : Nat} : ∀ {d : Dt} {v : Value} {F : Nat → Prop}, Ow w B d v F → (∀ g, F g → g < w.heap.size → w'.heap[g]? = w.heap[g]?) → Ow w' B d v F := by
 intro d
 induction d with
 | val v => intro x F hx _; exact hx
 | lst t sz n f ih =>
  rintro x F ⟨a, cap, c, G, e, ho, hs, hr⟩ hF
  refine ⟨a, cap, c, G, e, ⟨ho.1, ?_⟩, hs, fun i q hi hq => ih i q (hr i q hi hq) fun g hg => hF g (hs.sub i q g hi hq hg)⟩
  rcases ho.2 with h' | ⟨g, cap', cur, h1, h2, h3, h4⟩
  ·exact .inl h'
  ·refine .inr ⟨g, cap', cur, h1, h2, ?_, h4⟩
   have hx : a = some ⟨g, 0, none⟩ := by cases h1; rfl
   rw [hF g (hs.head _ hx) (Array.getElem?_eq_some_iff.1 h3).1]
   exact h3
theorem Ow.below {w w' : World} {B : Nat} {d : Dt} {v : Value} {F : Nat → Prop} (h : Ow w B d v F) (hb : Below w.heap.size w w') : Ow w' B d v F := h.frame fun g _ hg => hb.block g hg
theorem Ow.base {w : World} {B B' : Nat} : ∀ {d : Dt} {v : Value} {F : Nat → Prop}, Ow w B d v F → B' ≤ B → Ow w B' d v F := by
 intro d
 induction d with
 | val v => intro x F hx _; exact hx
 | lst t sz n f ih =>
  rintro x F ⟨a, cap, c, G, e, ho, hs, hr⟩ hB
  exact ⟨a, cap, c, G, e, own_base ho hB, hs, fun i q hi hq => ih i q (hr i q hi hq) hB⟩
theorem Ow.rd {w : World} {B : Nat} : ∀ {d : Dt} {v : Value} {F : Nat → Prop}, Ow w B d v F → Rd w d v := by
 intro d
 induction d with
 | val v => intro x F hx; exact hx
 | lst t sz n f ih =>
  rintro x F ⟨a, cap, c, G, e, ho, hs, hr⟩
  refine ⟨a, cap, e, fun i hi => ?_⟩
  rcases own_shape ho with ⟨_, h0, _⟩ | ⟨g, cur, rfl, _⟩
  ·omega
  ·refine ⟨g, 0, rfl, fun q hq => ⟨c i q, ?_, ih i q (hr i q hi hq)⟩⟩
   rw [Nat.zero_add, ho.cellAt _ (mid_lt hi hq)]
   exact cL_get _ _ _ _ _ hi hq
theorem Ow.cut {w : World} {B : Nat} : ∀ {d : Dt} {v : Value} {F : Nat → Prop}, Ow w B d v F → Ow w B d v (fun g => F g ∧ B ≤ g ∧ g < w.heap.size) := by
 intro d
 induction d with
 | val v => intro x F hx; exact hx
 | lst t sz n f ih =>
  rintro x F ⟨a, cap, c, G, e, ho, hs, hr⟩
  refine ⟨a, cap, c, fun i q g => G i q g ∧ B ≤ g ∧ g < w.heap.size, e, ho, ⟨fun x hx => ⟨hs.head x hx, ?_⟩, fun i q g hi hq hg => ⟨hs.sub i q g hi hq hg.1, hg.2⟩, fun i q x hi hq hx hg => hs.apart i q x hi hq hx hg.1, fun i q i' q' g hi hq hi' hq' hg hg' => hs.each i q i' q' g hi hq hi' hq' hg.1 hg'.1⟩, fun i q hi hq => ih i q (hr i q hi hq)⟩
  subst hx
  exact World.ownsRow.lt ho x.block rfl
theorem Ow.nil (w : World) (B : Nat) (t : TypeId) (sz : Nat) (f : Nat → Nat → Dt) (F : Nat → Prop) : Ow w B (.lst t sz 0 f) (.slice none 0 0) F :=
 ⟨none, 0, fun _ _ => undef, fun _ _ _ => False, rfl, by have := World.ownsRow_nil w B t sz; simpa [cL] using this, ⟨fun _ e => (nomatch e), fun _ _ _ hi => absurd hi (Nat.not_lt_zero _), fun _ _ _ hi => absurd hi (Nat.not_lt_zero _), fun _ _ _ _ _ hi => absurd hi (Nat.not_lt_zero _)⟩, fun _ _ hi => absurd hi (Nat.not_lt_zero _)⟩
theorem Ow.congr {w : World} {B : Nat} {t : TypeId} {sz n : Nat} {f f' : Nat → Nat → Dt} {v : Value} {F : Nat → Prop} (h : Ow w B (.lst t sz n f) v F) (e : ∀ i q, i < n → q < sz → f i q = f' i q) : Ow w B (.lst t sz n f') v F := by
 obtain ⟨a, cap, c, G, ex, ho, hs, hr⟩ := h
 exact ⟨a, cap, c, G, ex, ho, hs, fun i q hi hq => by rw [← e i q hi hq]; exact hr i q hi hq⟩
theorem ow_txt {w : World} {B : Nat} {a : Option Addr} {m cap : Nat} {S : Nat → ByteArray} {F : Nat → Prop} (h : OwnT w B a m cap S) (hF : ∀ x, a = some x → F x.block) : Ow w B (txD m S) (.slice a m cap) F := by
 refine ⟨a, cap, fun i _ => .string (S i), fun _ _ _ => False, rfl, ?_, ⟨hF, fun _ _ _ _ _ h => h.elim, fun _ _ _ _ _ _ h => h, fun _ _ _ _ _ _ _ _ _ h => h.elim⟩, fun _ _ _ _ => rfl⟩
 have : cL 1 (fun i _ => Value.string (S i)) m = sL S m := by unfold cL sL; simp
 rw [this]
 exact h
structure Trn (w w' : World) (F : Nat → Prop) : Prop where
 os : w'.os = w.os
 tape : w'.tape = w.tape
 output : w'.output = w.output
 size : w.heap.size ≤ w'.heap.size
 block : ∀ j, j < w.heap.size → ¬ F j → w'.heap[j]? = w.heap[j]?
theorem Trn.refl (w : World) (F : Nat → Prop) : Trn w w F := ⟨rfl, rfl, rfl, Nat.le_refl _, fun _ _ _ => rfl⟩
theorem Trn.trans {w w1 w2 : World} {F : Nat → Prop} (h : Trn w w1 F) (h2 : Trn w1 w2 F) : Trn w w2 F :=
 ⟨h2.os.trans h.os, h2.tape.trans h.tape, h2.output.trans h.output, Nat.le_trans h.size h2.size, fun j hj hn => (h2.block j (Nat.lt_of_lt_of_le hj h.size) hn).trans (h.block j hj hn)⟩
theorem Trn.mono {w w' : World} {F F' : Nat → Prop} (h : Trn w w' F) (hF : ∀ g, F g → F' g) : Trn w w' F' := ⟨h.os, h.tape, h.output, h.size, fun j hj hn => h.block j hj fun hf => hn (hF j hf)⟩
theorem Trn.ofBelow {w w' : World} (F : Nat → Prop) (h : Below w.heap.size w w') : Trn w w' F := ⟨h.os, h.tape, h.output, h.size, fun j hj _ => h.block j hj⟩
theorem Trn.below {w w' : World} {F : Nat → Prop} {s : Nat} (h : Trn w w' F) (hs : ∀ g, F g → s ≤ g) (hw : s ≤ w.heap.size) : Below s w w' := ⟨h.os, h.tape, h.output, h.size, fun j hj => h.block j (by omega) fun hf => by have := hs j hf; omega⟩
theorem Trn.set (w : World) {F : Nat → Prop} {g : Nat} (j : Nat) (v : Value) (hF : F g) : Trn w (w.setCell ⟨g, j, none⟩ v) F := ⟨rfl, rfl, rfl, by simp, fun i _ hi => heap_setCell_other w ⟨g, j, none⟩ i v (fun e => by subst e; exact hi hF)⟩
theorem Ow.turned {w w' : World} {B : Nat} {d : Dt} {v : Value} {F F' : Nat → Prop} (h : Ow w B d v F) (ht : Trn w w' F') (hd : ∀ g, F g → ¬ F' g) : Ow w' B d v F := h.frame fun g hg hl => ht.block g hl (hd g hg)
def rng (a b g : Nat) : Prop := a ≤ g ∧ g < b
def RowT (w : World) (B E : Nat) (a : Option Addr) (n cap : Nat) (S : Nat → ByteArray) : Prop := OwnT w B a n cap S ∧ ∀ x, a = some x → B ≤ x.block ∧ x.block < E
theorem OwnT.row {w : World} {B : Nat} {a : Option Addr} {n cap : Nat} {S : Nat → ByteArray} (h : OwnT w B a n cap S) : RowT w B w.heap.size a n cap S := by
 refine ⟨h, fun x e => ?_⟩
 subst e
 exact World.ownsRow.lt h x.block rfl
theorem ResT.row {w w' : World} {v : Value} {n : Nat} {S : Nat → ByteArray} (h : ResT w w' v n S) : ∃ a cap, v = .slice a n cap ∧ RowT w' w.heap.size w'.heap.size a n cap S := by
 obtain ⟨a, cap, rfl, ho⟩ := h
 exact ⟨a, cap, rfl, ho.row⟩
theorem RowT.below {w w' : World} {B E : Nat} {a : Option Addr} {n cap : Nat} {S : Nat → ByteArray} (h : RowT w B E a n cap S) (hb : Below w.heap.size w w') : RowT w' B E a n cap S := ⟨h.1.below hb, h.2⟩
theorem RowT.at {w : World} {B E : Nat} {a : Option Addr} {n cap : Nat} {S : Nat → ByteArray} (h : RowT w B E a n cap S) : TxtAt w a n S := h.1.at
theorem RowT.turned {w w' : World} {B E B' E' : Nat} {a : Option Addr} {n cap : Nat} {S : Nat → ByteArray} (h : RowT w B E a n cap S) (ht : TurnM w w' B' E') (hd : E ≤ B' ∨ E' ≤ B) : RowT w' B E a n cap S :=
 ⟨own_turn2 h.1 ht (fun x e hx => by have := h.2 x e; omega), h.2⟩
theorem TurnM.ofBelow {w w' : World} (B E : Nat) (h : Below w.heap.size w w') : TurnM w w' B E := ⟨h.os, h.tape, h.output, h.size, fun j hj _ => h.block j hj⟩
theorem TurnM.set (w : World) {B E g : Nat} (j : Nat) (v : Value) (hB : B ≤ g) (hE : g < E) : TurnM w (w.setCell ⟨g, j, none⟩ v) B E := ⟨rfl, rfl, rfl, by simp, fun i _ hi => heap_setCell_other w ⟨g, j, none⟩ i v (fun e => by have e' : i = g := e; omega)⟩
abbrev pcC (r : ByteArray) (k n i : Int) (b : ByteArray) (v : Value) : Array Value := #[.string r, .int .i64 k, .int .i64 n, .int .i64 i, .string b, v]
abbrev pcV (r : ByteArray) (k n i : Int) (b : ByteArray) (v : Value) : Value := .agg (pcC r k n i b v)
theorem Tryz.infoPc : (Tryz.prog.info? 29).map (·.size) = some 6 := by kernel_rfl
theorem OwnT.setFar {w : World} {B g o : Nat} {a : Option Addr} {n c : Nat} {S : Nat → ByteArray} {v : Value} (h : OwnT w B a n c S) (hB : g < B) : OwnT (w.setCell ⟨g, o, none⟩ v) B a n c S :=
 own_kept h (grown_set _ _ _ _) (fun x e => by subst e; have := (World.ownsRow.lt h x.block rfl).1; omega)
theorem heap_setCells_other (b : Nat) : ∀ (vs : List Value) (o : Nat) (w : World) (j : Nat), j ≠ b → (w.setCells b o vs).heap[j]? = w.heap[j]?
 | [], _, _, _, _ => rfl
 | v :: r, o, w, j, h => by rw [World.setCells, heap_setCells_other b r (o + 1) _ j h]; exact heap_setCell_other w ⟨b, o, none⟩ j v h
theorem size_setCells (b : Nat) : ∀ (vs : List Value) (o : Nat) (w : World), (w.setCells b o vs).heap.size = w.heap.size
 | [], _, _ => rfl
 | v :: r, o, w => by rw [World.setCells, size_setCells b r (o + 1) _]; simp
theorem os_setCells (b : Nat) : ∀ (vs : List Value) (o : Nat) (w : World), (w.setCells b o vs).os = w.os ∧ (w.setCells b o vs).tape = w.tape ∧ (w.setCells b o vs).output = w.output
 | [], _, _ => ⟨rfl, rfl, rfl⟩
 | v :: r, o, w => by rw [World.setCells]; exact os_setCells b r (o + 1) _
theorem below_setCells {B b : Nat} {w0 w : World} (h : Below B w0 w) (hB : B ≤ b) (o : Nat) (vs : List Value) : Below B w0 (w.setCells b o vs) := by
 obtain ⟨h1, h2, h3⟩ := os_setCells b vs o w
 exact h.trans ⟨h1, h2, h3, by rw [size_setCells]; exact Nat.le_refl _, fun j hj => heap_setCells_other b vs o w j (by omega)⟩
theorem own_setCells {B t sz g n cap i : Nat} (hi : i < n) : ∀ (vs : List Value) (q0 : Nat) (w : World) (c : Nat → Nat → Value), q0 + vs.length = sz → w.ownsRow B t sz (.slice (some ⟨g, 0, none⟩) n cap) n (cL sz c n) →
  (w.setCells g (i * sz + q0) vs).ownsRow B t sz (.slice (some ⟨g, 0, none⟩) n cap) n (cL sz (fun i' q' => if i' = i ∧ q0 ≤ q' then vs.getD (q' - q0) undef else c i' q') n) := by
 intro vs
 induction vs with
 | nil =>
  intro q0 w c hq ho
  have e : cL sz (fun i' q' => if i' = i ∧ q0 ≤ q' then ([] : List Value).getD (q' - q0) undef else c i' q') n = cL sz c n := cL_congr fun i' q' _ hq' => if_neg (fun h => by have := h.2; simp at hq; omega)
  rw [e]
  exact ho
 | cons v r ih =>
  intro q0 w c hq ho
  rw [World.setCells]
  have hq0 : q0 < sz := by simp at hq; omega
  have h1 := (World.ownsRow.stored ho (i * sz + q0) v).1
  rw [cL_set _ _ _ _ _ _ hi hq0] at h1
  have h2 := ih (q0 + 1) _ _ (by simp at hq; omega) h1
  rw [Nat.add_assoc]
  have e : cL sz (fun i' q' => if i' = i ∧ q0 ≤ q' then (v :: r).getD (q' - q0) undef else c i' q') n = cL sz (fun i' q' => if i' = i ∧ q0 + 1 ≤ q' then r.getD (q' - (q0 + 1)) undef else if i' = i ∧ q' = q0 then v else c i' q') n := cL_congr fun i' q' _ hq' => by
   by_cases ei : i' = i
   ·by_cases e1 : q' = q0
    ·subst e1
     rw [if_pos ⟨ei, Nat.le_refl _⟩, if_neg (by omega), if_pos ⟨ei, rfl⟩, Nat.sub_self]
     rfl
    ·by_cases e2 : q0 ≤ q'
     ·obtain ⟨k, rfl⟩ : ∃ k, q' = q0 + 1 + k := ⟨q' - (q0 + 1), by omega⟩
      rw [if_pos ⟨ei, e2⟩, if_pos ⟨ei, by omega⟩, show q0 + 1 + k - q0 = k + 1 by omega, show q0 + 1 + k - (q0 + 1) = k by omega]
      rfl
     ·rw [if_neg (by omega), if_neg (by omega), if_neg (by omega)]
   ·simp [ei]
  rw [e]
  exact h2
theorem Ow.store {w : World} {B t sz g n cap i : Nat} {f : Nat → Nat → Dt} {F F' : Nat → Prop} {vs : List Value} {d : Nat → Dt} {H : Nat → Nat → Prop} (h : Ow w B (.lst t sz n f) (.slice (some ⟨g, 0, none⟩) n cap) F) (hi : i < n) (hl : vs.length = sz)
  (hv : ∀ q, q < sz → Ow w B (d q) (vs.getD q undef) (H q)) (hH : ∀ q x, q < sz → H q x → ¬ F x) (hE : ∀ q q' x, q < sz → q' < sz → H q x → H q' x → q = q') (hF : ∀ x, F x → F' x) (hF' : ∀ q x, q < sz → H q x → F' x) :
  Ow (w.setCells g (i * sz) vs) B (.lst t sz n (fun i' => if i' = i then d else f i')) (.slice (some ⟨g, 0, none⟩) n cap) F' := by
 obtain ⟨a, cap', c, G, e, ho, hs, hr⟩ := h
 cases e
 have hg : F g := hs.head _ rfl
 have e0 := own_setCells hi vs 0 w c (by omega) ho
 rw [Nat.add_zero] at e0
 refine ⟨some ⟨g, 0, none⟩, cap, _, fun i' q' => if i' = i then H q' else G i' q', rfl, e0, ⟨fun x hx => by cases hx; exact hF _ hg, fun i' q' x hi' hq' hx => ?_, fun i' q' x hi' hq' ex hx => ?_, fun i1 q1 i2 q2 x h1 h2 h3 h4 hx hx' => ?_⟩, fun i' q' hi' hq' => ?_⟩
 ·by_cases ei : i' = i
  ·simp only [ei, if_true] at hx; exact hF' _ _ hq' hx
  ·simp only [ei, if_false] at hx; exact hF _ (hs.sub _ _ _ hi' hq' hx)
 ·cases ex
  by_cases ei : i' = i
  ·simp only [ei, if_true] at hx; exact hH _ _ hq' hx hg
  ·simp only [ei, if_false] at hx; exact hs.apart _ _ _ hi' hq' rfl hx
 ·by_cases e1 : i1 = i
  ·by_cases e2 : i2 = i
   ·simp only [e1, e2, if_true] at hx hx'
    exact ⟨by omega, hE _ _ _ h2 h4 hx hx'⟩
   ·simp only [e1, e2, if_true, if_false] at hx hx'
    exact absurd (hs.sub _ _ _ h3 h4 hx') (hH _ _ h2 hx)
  ·by_cases e2 : i2 = i
   ·simp only [e1, e2, if_true, if_false] at hx hx'
    exact absurd (hs.sub _ _ _ h1 h2 hx) (hH _ _ h4 hx')
   ·simp only [e1, e2, if_false] at hx hx'
    exact hs.each _ _ _ _ _ h1 h2 h3 h4 hx hx'
 ·have keep : ∀ {dd : Dt} {v : Value} {K : Nat → Prop}, Ow w B dd v K → (∀ x, K x → x ≠ g) → Ow (w.setCells g (i * sz) vs) B dd v K := fun ho hk => ho.frame fun x hx _ => heap_setCells_other g vs _ w x (hk x hx)
  by_cases ei : i' = i
  ·simp only [ei, true_and, Nat.zero_le, if_true, Nat.sub_zero]
   exact keep (hv q' hq') (fun x hx e => by subst e; exact hH _ _ hq' hx hg)
  ·simp only [ei, false_and, if_false]
   exact keep (hr i' q' hi' hq') (fun x hx e => by subst e; exact hs.apart _ _ _ hi' hq' rfl hx)
theorem ow_made {w : World} {B t sz g n cap : Nat} {F : Nat → Prop} {zs : List Value} {f : Nat → Dt} (ho : w.ownsRow B t sz (.slice (some ⟨g, 0, none⟩) n cap) n (cL sz (fun _ q => zs.getD q undef) n)) (hz : ∀ q, q < sz → Ow w B (f q) (zs.getD q undef) (fun _ => False)) (hF : F g) : Ow w B (.lst t sz n (fun _ => f)) (.slice (some ⟨g, 0, none⟩) n cap) F :=
 ⟨_, cap, _, fun _ _ _ => False, rfl, ho, ⟨fun x e => by cases e; exact hF, fun _ _ _ _ _ h => h.elim, fun _ _ _ _ _ _ h => h, fun _ _ _ _ _ _ _ _ _ h => h.elim⟩, fun _ q _ hq => hz q hq⟩
theorem made_cL {zs : List Value} {n : Nat} (hz : 0 < zs.length) : (madeCells zs.toArray (n * zs.length)).toList = cL zs.length (fun _ q => zs.getD q undef) n := by
 apply List.ext_getElem?
 intro j
 by_cases hj : j < n * zs.length
 ·have h1 := cL_get zs.length (fun _ q => zs.getD q undef) n (j / zs.length) (j % zs.length) ((Nat.div_lt_iff_lt_mul hz).2 hj) (Nat.mod_lt _ hz)
  rw [mid_eq] at h1
  rw [h1]
  have hl := Nat.mod_lt j hz
  simp [madeCells, hj, hl]
 ·rw [List.getElem?_eq_none (by simp [size_madeCells]; omega), List.getElem?_eq_none (by rw [cL_len]; omega)]
def nz (zs : List Int) (i : Nat) : Nat := if zs.getD i 0 = 0 then 0 else 1
def Turned (w w' : World) (B E : Nat) : Prop := ∃ r, w.grownBy w' r ∧ ∀ g, r = some g → B ≤ g ∧ g < E
theorem Turned.below {w w' : World} {B E s : Nat} (h : Turned w w' B E) (hs : s ≤ B) (hw : s ≤ w.heap.size) : Below s w w' := by
 obtain ⟨r, hg, hr⟩ := h
 exact ⟨hg.os, hg.tape, hg.output, hg.size, fun j hj => hg.block j (by omega) (fun e => by have := hr j e.symm; omega)⟩
theorem Turned.size {w w' : World} {B E : Nat} (h : Turned w w' B E) : w.heap.size ≤ w'.heap.size := by
 obtain ⟨r, hg, _⟩ := h
 exact hg.size
def Arg (w : World) (s : Nat) (a : Option Addr) (n : Nat) (zs : List Int) : Prop := IntsAt w a n zs ∧ (0 < n → ∀ b off, a = some ⟨b, off, none⟩ → b < s)
theorem IntsAt.arg {w : World} {a : Option Addr} {n : Nat} {zs : List Int} (h : IntsAt w a n zs) : Arg w w.heap.size a n zs := by
 refine ⟨h, fun hn b off e => ?_⟩
 obtain ⟨b', off', e', hc⟩ := h.2 0 hn
 rw [e] at e'
 cases e'
 exact block_lt_of_cell hc
theorem Arg.below {w w' : World} {s : Nat} {a : Option Addr} {n : Nat} {zs : List Int} (h : Arg w s a n zs) (hb : Below w.heap.size w w') : Arg w' s a n zs := ⟨h.1.below hb, h.2⟩
theorem Arg.turned {w w' : World} {s B E : Nat} {a : Option Addr} {n : Nat} {zs : List Int} (h : Arg w s a n zs) (ht : Turned w w' B E) (hs : s ≤ B) : Arg w' s a n zs := by
 obtain ⟨r, hg, hr⟩ := ht
 refine ⟨⟨h.1.1, fun i hi => ?_⟩, h.2⟩
 obtain ⟨b, off, e, hc⟩ := h.1.2 i hi
 refine ⟨b, off, e, hg.cell hc (fun e' => ?_)⟩
 have h1 := h.2 (by omega) b off e
 have h2 := hr b e'.symm
 omega
def marks (k n : Nat) : List Int := eI (fun i => k + i) n
def Sure (w : World) (P : World → Prop) : Prop := ∀ W, Below w.heap.size w W → P W
theorem Sure.step {w w' : World} {P : World → Prop} (h : Sure w P) (b : Below w.heap.size w w') : Sure w' P := fun W hW => h W (below2 b hW)
theorem Sure.now {w : World} {P : World → Prop} (h : Sure w P) : P w := h w (Below.refl _ _)
def ArgT (w : World) (s : Nat) (a : Option Addr) (n : Nat) (S : Nat → ByteArray) : Prop := TxtAt w a n S ∧ (0 < n → ∀ b off, a = some ⟨b, off, none⟩ → b < s)
theorem TxtAt.arg {w : World} {a : Option Addr} {n : Nat} {S : Nat → ByteArray} (h : TxtAt w a n S) : ArgT w w.heap.size a n S := by
 refine ⟨h, fun hn b off e => ?_⟩
 obtain ⟨b', off', e', hc⟩ := h 0 hn
 rw [e] at e'
 cases e'
 exact block_lt_of_cell hc
theorem ArgT.below {w w' : World} {s : Nat} {a : Option Addr} {n : Nat} {S : Nat → ByteArray} (h : ArgT w s a n S) (hb : Below w.heap.size w w') : ArgT w' s a n S := ⟨h.1.below hb, h.2⟩
theorem ArgT.keep {w w' : World} {s : Nat} {a : Option Addr} {n : Nat} {S : Nat → ByteArray} (h : ArgT w s a n S) (hb : Below s w w') : ArgT w' s a n S :=
 ⟨fun i hi => by
  obtain ⟨b, off, e, hc⟩ := h.1 i hi
  exact ⟨b, off, e, (hb.cell (p := ⟨b, off + i, none⟩) (h.2 (by omega) b off e)).trans hc⟩, h.2⟩
theorem Ow.focus {w : World} {B t sz g n cap i q : Nat} {f : Nat → Nat → Dt} {F : Nat → Prop} (h : Ow w B (.lst t sz n f) (.slice (some ⟨g, 0, none⟩) n cap) F) (hi : i < n) (hq : q < sz) :
  ∃ (y : Value) (K : Nat → Prop), w.cell? ⟨g, i * sz + q, none⟩ = some y ∧ (∀ j, w.frozen? ⟨g, j, none⟩ = false) ∧ Ow w B (f i q) y K ∧ (∀ x, K x → F x ∧ x ≠ g) ∧ F g ∧ B ≤ g ∧ g < w.heap.size ∧
   ∀ (w' : World) (d : Dt) (y' : Value) (H : Nat → Prop), (∀ b, F b → ¬ K b → b < w.heap.size → w'.heap[b]? = w.heap[b]?) → Ow w' B d y' H → (∀ x, H x → K x ∨ ¬ F x) →
    Ow (w'.setCell ⟨g, i * sz + q, none⟩ y') B (.lst t sz n (fun i' q' => if i' = i ∧ q' = q then d else f i' q')) (.slice (some ⟨g, 0, none⟩) n cap) (fun x => F x ∨ H x) := by
 obtain ⟨a, cap', c, G, e, ho, hs, hr⟩ := h
 cases e
 have hg : F g := hs.head _ rfl
 have hlt := World.ownsRow.lt ho g rfl
 refine ⟨c i q, G i q, ?_, fun j => World.ownsRow.frozenAt ho j, hr i q hi hq, fun x hx => ⟨hs.sub i q x hi hq hx, fun e => hs.apart i q _ hi hq rfl (by subst e; exact hx)⟩, hg, hlt.1, hlt.2, ?_⟩
 ·rw [World.ownsRow.cellAt ho _ (mid_lt hi hq)]
  exact cL_get _ _ _ _ _ hi hq
 intro w' d y' H hfr hv hH
 have hng : ¬ G i q g := fun hx => hs.apart i q _ hi hq rfl hx
 have ho' : w'.ownsRow B t sz (.slice (some ⟨g, 0, none⟩) n cap) n (cL sz c n) := by
  refine ⟨ho.1, ?_⟩
  rcases ho.2 with h' | ⟨g', cap', cur, h1, h2, h3, h4⟩
  ·exact .inl h'
  ·refine .inr ⟨g', cap', cur, h1, h2, ?_, h4⟩
   cases h1
   exact (hfr g hg hng (Array.getElem?_eq_some_iff.1 h3).1).trans h3
 have e0 := (World.ownsRow.stored ho' (i * sz + q) y').1
 rw [cL_set _ _ _ _ _ _ hi hq] at e0
 have hHg : ¬ H g := fun hx => by
  rcases hH g hx with h1 | h1
  ·exact hng h1
  ·exact h1 hg
 refine ⟨some ⟨g, 0, none⟩, cap, _, fun i' q' => if i' = i ∧ q' = q then H else G i' q', rfl, e0, ⟨fun x hx => by cases hx; exact .inl hg, fun i' q' x hi' hq' hx => ?_, fun i' q' x hi' hq' ex hx => ?_, fun i1 q1 i2 q2 x h1 h2 h3 h4 hx hx' => ?_⟩, fun i' q' hi' hq' => ?_⟩
 ·by_cases ei : i' = i ∧ q' = q
  ·simp only [ei, if_true, and_self] at hx; exact .inr hx
  ·simp only [ei, if_false] at hx; exact .inl (hs.sub _ _ _ hi' hq' hx)
 ·cases ex
  by_cases ei : i' = i ∧ q' = q
  ·simp only [ei, if_true, and_self] at hx; exact hHg hx
  ·simp only [ei, if_false] at hx; exact hs.apart _ _ _ hi' hq' rfl hx
 ·by_cases e1 : i1 = i ∧ q1 = q
  ·by_cases e2 : i2 = i ∧ q2 = q
   ·exact ⟨e1.1.trans e2.1.symm, e1.2.trans e2.2.symm⟩
   ·simp only [e1, e2, if_true, if_false, and_self] at hx hx'
    rcases hH x hx with k | k
    ·have := hs.each _ _ _ _ _ hi hq h3 h4 k hx'
     exact absurd ⟨this.1.symm, this.2.symm⟩ e2
    ·exact absurd (hs.sub _ _ _ h3 h4 hx') k
  ·by_cases e2 : i2 = i ∧ q2 = q
   ·simp only [e1, e2, if_true, if_false, and_self] at hx hx'
    rcases hH x hx' with k | k
    ·have := hs.each _ _ _ _ _ hi hq h1 h2 k hx
     exact absurd ⟨this.1.symm, this.2.symm⟩ e1
    ·exact absurd (hs.sub _ _ _ h1 h2 hx) k
   ·simp only [e1, e2, if_false] at hx hx'
    exact hs.each _ _ _ _ _ h1 h2 h3 h4 hx hx'
 ·by_cases ei : i' = i ∧ q' = q
  ·simp only [ei, if_true, and_self]
   exact hv.frame fun x hx _ => heap_setCell_other w' ⟨g, i * sz + q, none⟩ x y' (fun e => hHg (by subst e; exact hx))
  ·simp only [ei, if_false]
   refine (hr i' q' hi' hq').frame fun x hx hl => (heap_setCell_other w' ⟨g, i * sz + q, none⟩ x y' (fun e => hs.apart _ _ _ hi' hq' rfl (by subst e; exact hx))).trans (hfr x (hs.sub _ _ _ hi' hq' hx) (fun k => ei ?_) hl)
   exact hs.each _ _ _ _ _ hi' hq' hi hq hx k
theorem ow_some {w : World} {B t sz n cap : Nat} {a : Option Addr} {f : Nat → Nat → Dt} {F : Nat → Prop} (h : Ow w B (.lst t sz n f) (.slice a n cap) F) (hn : 0 < n) : ∃ g, a = some ⟨g, 0, none⟩ := by
 obtain ⟨a', cap', c, G, e, ho, hs, hr⟩ := h
 cases e
 rcases own_shape ho with ⟨_, h0, _⟩ | ⟨g, cur, rfl, _⟩
 ·omega
 ·exact ⟨g, rfl⟩
theorem Ow.put {w : World} {B t sz g n cap i : Nat} {f : Nat → Nat → Dt} {F F' : Nat → Prop} {vs : List Value} {d : Nat → Dt} {H : Nat → Nat → Prop} (h : Ow w B (.lst t sz n f) (.slice (some ⟨g, 0, none⟩) n cap) F) (hi : i < n) (hl : vs.length = sz)
  (hv : ∀ q, q < sz → (d q = f i q ∧ w.cell? ⟨g, i * sz + q, none⟩ = some (vs.getD q undef)) ∨ (Ow w B (d q) (vs.getD q undef) (H q) ∧ ∀ x, H q x → ¬ F x))
  (hE : ∀ q q' x, q < sz → q' < sz → H q x → H q' x → q = q') (hF : ∀ x, F x → F' x) (hF' : ∀ q x, q < sz → H q x → F' x) :
  Ow (w.setCells g (i * sz) vs) B (.lst t sz n (fun i' => if i' = i then d else f i')) (.slice (some ⟨g, 0, none⟩) n cap) F' := by
 obtain ⟨a, cap', c, G, e, ho, hs, hr⟩ := h
 cases e
 have hg : F g := hs.head _ rfl
 have e0 := own_setCells hi vs 0 w c (by omega) ho
 rw [Nat.add_zero] at e0
 have hK : ∀ q, ∃ K : Nat → Prop, q < sz → Ow w B (d q) (vs.getD q undef) K ∧ ((∀ x, K x → G i q x) ∨ (∀ x, K x → H q x ∧ ¬ F x)) := fun q => by
  by_cases hq : q < sz
  ·rcases hv q hq with ⟨e1, e2⟩ | ⟨e1, e2⟩
   ·refine ⟨G i q, fun _ => ⟨?_, .inl fun x hx => hx⟩⟩
    have h1 : w.cell? ⟨g, i * sz + q, none⟩ = some (c i q) := by rw [World.ownsRow.cellAt ho _ (mid_lt hi hq)]; exact cL_get _ _ _ _ _ hi hq
    rw [h1] at e2
    rw [← Option.some.inj e2, e1]
    exact hr i q hi hq
   ·exact ⟨H q, fun _ => ⟨e1, .inr fun x hx => ⟨hx, e2 x hx⟩⟩⟩
  ·exact ⟨fun _ => False, fun k => absurd k hq⟩
 obtain ⟨K, hK⟩ := Classical.axiomOfChoice hK
 have kF : ∀ q x, q < sz → K q x → F' x := fun q x hq hx => by
  rcases (hK q hq).2 with k | k
  ·exact hF _ (hs.sub _ _ _ hi hq (k x hx))
  ·exact hF' _ _ hq (k x hx).1
 have kg : ∀ q, q < sz → ¬ K q g := fun q hq hx => by
  rcases (hK q hq).2 with k | k
  ·exact hs.apart _ _ _ hi hq rfl (k g hx)
  ·exact (k g hx).2 hg
 have kE : ∀ q q' x, q < sz → q' < sz → K q x → K q' x → q = q' := fun q q' x hq hq' hx hx' => by
  rcases (hK q hq).2 with k | k <;> rcases (hK q' hq').2 with k' | k'
  ·exact (hs.each _ _ _ _ _ hi hq hi hq' (k x hx) (k' x hx')).2
  ·exact absurd (hs.sub _ _ _ hi hq (k x hx)) (k' x hx').2
  ·exact absurd (hs.sub _ _ _ hi hq' (k' x hx')) (k x hx).2
  ·exact hE _ _ _ hq hq' (k x hx).1 (k' x hx').1
 have kO : ∀ q i2 q2 x, q < sz → i2 < n → q2 < sz → i2 ≠ i → K q x → ¬ G i2 q2 x := fun q i2 q2 x hq h2 h3 hne hx hx' => by
  rcases (hK q hq).2 with k | k
  ·exact hne (hs.each _ _ _ _ _ h2 h3 hi hq hx' (k x hx)).1
  ·exact (k x hx).2 (hs.sub _ _ _ h2 h3 hx')
 refine ⟨some ⟨g, 0, none⟩, cap, _, fun i' q' => if i' = i then K q' else G i' q', rfl, e0, ⟨fun x hx => by cases hx; exact hF _ hg, fun i' q' x hi' hq' hx => ?_, fun i' q' x hi' hq' ex hx => ?_, fun i1 q1 i2 q2 x h1 h2 h3 h4 hx hx' => ?_⟩, fun i' q' hi' hq' => ?_⟩
 ·by_cases ei : i' = i
  ·simp only [ei, if_true] at hx; exact kF _ _ hq' hx
  ·simp only [ei, if_false] at hx; exact hF _ (hs.sub _ _ _ hi' hq' hx)
 ·cases ex
  by_cases ei : i' = i
  ·simp only [ei, if_true] at hx; exact kg _ hq' hx
  ·simp only [ei, if_false] at hx; exact hs.apart _ _ _ hi' hq' rfl hx
 ·by_cases e1 : i1 = i
  ·by_cases e2 : i2 = i
   ·simp only [e1, e2, if_true] at hx hx'
    exact ⟨by omega, kE _ _ _ h2 h4 hx hx'⟩
   ·simp only [e1, e2, if_true, if_false] at hx hx'
    exact absurd hx' (kO _ _ _ _ h2 h3 h4 e2 hx)
  ·by_cases e2 : i2 = i
   ·simp only [e1, e2, if_true, if_false] at hx hx'
    exact absurd hx (kO _ _ _ _ h4 h1 h2 e1 hx')
   ·simp only [e1, e2, if_false] at hx hx'
    exact hs.each _ _ _ _ _ h1 h2 h3 h4 hx hx'
 ·have keep : ∀ {dd : Dt} {v : Value} {K : Nat → Prop}, Ow w B dd v K → (∀ x, K x → x ≠ g) → Ow (w.setCells g (i * sz) vs) B dd v K := fun ho hk => ho.frame fun x hx _ => heap_setCells_other g vs _ w x (hk x hx)
  by_cases ei : i' = i
  ·simp only [ei, true_and, Nat.zero_le, if_true, Nat.sub_zero]
   exact keep (hK q' hq').1 (fun x hx e => by subst e; exact kg _ hq' hx)
  ·simp only [ei, false_and, if_false]
   exact keep (hr i' q' hi' hq') (fun x hx e => by subst e; exact hs.apart _ _ _ hi' hq' rfl hx)
def pf (F : Nat → Nat → Nat) (N : Nat → Nat) : Nat → (Nat → Nat) × Nat
 | 0 => (Gp.one, 1)
 | i + 1 => (Gp.cv (pf F N i).1 (F i) (pf F N i).2, Gp.tl (Gp.cv (pf F N i).1 (F i) (pf F N i).2) ((pf F N i).2 + N i))
end Go.Proofs.YtcaejlalnjnifaaGreat
