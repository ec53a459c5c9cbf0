import Derived.Test.YtaenoiffamgcfaaGreatDoorM6
import Derived.Shelf.Abstract
import Derived.Deep.RegionHeld3
import Derived.Deep.AppendLies
import Derived.Test.YtaenoiffamgcfaaGreatDoorShelf
import Derived.Deep.Strs
import Derived.Deep.MidRow
import Derived.Test.YtaenoiffamgcfaaGreatDoorRows
import Derived.Test.YtaenoiffamgcfaaGreatDoorTie
import Derived.Test.YtaenoiffamgcfaaGreatDoorCards
import Derived.ProofKit
import Derived.LaidMore
import Derived.OpenShut
import Derived.ShutString
import Derived.ChangeOld
import Derived.Below
import Derived.Stop.Joined
import Derived.SevenTiedAt
import Derived.Test.YtaenoiffamgcfaaGreatDoorM4
set_option maxHeartbeats 8000000
set_option maxRecDepth 2000
open Go.ChangeShapes Go.WideShapes Go.ChangeAt Go.RowKit
namespace Go.Proofs.YtaenoiffamgcfaaGreatDoor
theorem below_of_drew {w w1 : World} (h : Below w.drew.heap.size w.drew w1) : Below w.heap.size w w1 := ⟨h.os, h.tape, h.output, h.size, h.block⟩
theorem own_shape {w : World} {B e s : Nat} {a : Option Addr} {n cap n' : Nat} {xs : List Value} (h : w.ownsRow B e s (.slice a n cap) n' xs) :
  (a = none ∧ n = 0 ∧ cap = 0) ∨ ∃ g cur, a = some ⟨g, 0, none⟩ ∧ B ≤ g ∧ w.heap[g]? = some (.cells cur e (0, 0)) ∧ n ≤ cap := by
 rcases h.2 with ⟨h', _⟩ | ⟨g, cap', cur, h', hb, hg, hn, _⟩
 ·cases h'; exact .inl ⟨rfl, rfl, rfl⟩
 ·cases h'; exact .inr ⟨g, cur, rfl, hb, hg, hn⟩
theorem own_kept {w w' : World} {B e s n : Nat} {a : Option Addr} {l c b : Nat} {xs : List Value} (h : w.ownsRow B e s (.slice a l c) n xs) (hg : w.grownBy w' (some b)) (hn : ∀ x, a = some x → x.block ≠ b) : w'.ownsRow B e s (.slice a l c) n xs := by
 refine World.ownsRow.kept h hg ?_
 cases a with
 | none => exact .inl rfl
 | some x => exact .inr (by simp [Value.ownBlock]; exact hn x rfl)
theorem grown_set (w : World) (g j : Nat) (v : Value) : w.grownBy (w.setCell ⟨g, j, none⟩ v) (some g) :=
 ⟨rfl, rfl, rfl, by simp, fun i _ hi => heap_setCell_other w ⟨g, j, none⟩ i _ (fun e => hi (by simp [e]))⟩
def tot (L : Nat → Nat) : Nat → Nat
 | 0 => 0
 | n + 1 => tot L n + L n
theorem tot_le (L : Nat → Nat) {i n : Nat} (h : i < n) : tot L i + L i ≤ tot L n := by
 induction n with
 | zero => omega
 | succ n ih =>
  by_cases e : i = n
  ·subst e; exact Nat.le_refl _
  ·have := ih (by omega)
   show _ ≤ tot L n + L n
   omega
theorem own_base {w : World} {B B' e s n : Nat} {v : Value} {xs : List Value} (h : w.ownsRow B e s v n xs) (hB : B' ≤ B) : w.ownsRow B' e s v n xs := by
 refine ⟨h.1, ?_⟩
 rcases h.2 with h' | ⟨g, cap, cur, h1, h2, h3⟩
 ·exact .inl h'
 ·exact .inr ⟨g, cap, cur, h1, by omega, h3⟩
theorem wpList_append_all {P : Program} (w : World) {ops : Array Oper} {rest : List Oper} {o : Oper} {a : Act} {Q : Exit → Act → World → Prop} (hgd : o.guard = none) (s x : Operand) (t : TypeId)
  (ho : o.op = .call { callee := .builtin .append, args := #[s, x], argTypes := #[t, t] })
  (base : Nat) (e : TypeId) (i : TypeInfo) (z : Value) (size bytes : Nat) (ht : P.underlying t = some (.slice e)) (hi : P.info? e = some i) (hz : i.zero = some z)
  (hsize : i.size = size) (hby : i.bytes = bytes) (hzs : z.cells.size = size) (hsz : 0 < size)
  (g0 n cap0 : Nat) (xs : List Value) (hs : a.eval s = .slice (some ⟨g0, 0, none⟩) n cap0) (hown : w.ownsRow base e size (.slice (some ⟨g0, 0, none⟩) n cap0) n xs)
  (ad : Addr) (m c : Nat) (news : List Value) (hx : a.eval x = .slice (some ad) m c) (hl : news.length = m * size) (hnews : ∀ j u, news[j]? = some u → w.cell? (ad.add j) = some u) (h1 : ∀ u ∈ news, u.oneCell' = true)
  (h63 : n + m ≤ maxLen) (hbytes : (n + m) * bytes ≤ 140737488355328) (hbase : base ≤ w.heap.size)
  (h : ∀ g cap w', w'.ownsRow base e size (.slice (some ⟨g, 0, none⟩) (n + m) cap) (n + m) (xs ++ news) → w.grownBy w' (some g0) → wpList P ops Q rest (a.put o.dst (.slice (some ⟨g, 0, none⟩) (n + m) cap)) w') :
  wpList P ops Q (o :: rest) a w := by
 refine wpList_append_own w hgd s x t ho base e i z size bytes ht hi hz hsize hby hzs hsz _ n xs hs hown ad m c news hx hl hnews h1 h63 hbytes hbase fun v' w' h2 h3 h4 => ?_
 have hne : v' ≠ .slice none 0 0 := fun e => by have := h4.1 e; cases this.1
 rcases h2.2 with ⟨e, _⟩ | ⟨g, cap, cur, e, _⟩
 ·exact absurd e hne
 ·subst e
  exact h g cap w' h2 h3
theorem step_append_row {P : Program} (w : World) {ops : Array Oper} {o : Oper} {a : Act} {K : Act → World → Prop} {Q : Exit → Act → World → Prop} {E : Prop} (hgd : o.guard = none) (s x : Operand) (t : TypeId)
  (ho : o.op = .call { callee := .builtin .append, args := #[s, x], argTypes := #[t, t] })
  (base : Nat) (e : TypeId) (i : TypeInfo) (z : Value) (size bytes : Nat) (ht : P.underlying t = some (.slice e)) (hi : P.info? e = some i) (hz : i.zero = some z)
  (hsize : i.size = size) (hby : i.bytes = bytes) (hzs : z.cells.size = size) (hsz : 0 < size)
  (g0 n cap0 : Nat) (xs : List Value) (hs : a.eval s = .slice (some ⟨g0, 0, none⟩) n cap0) (hown : w.ownsRow base e size (.slice (some ⟨g0, 0, none⟩) n cap0) n xs)
  (ad : Addr) (m c : Nat) (news : List Value) (hx : a.eval x = .slice (some ad) m c) (hl : news.length = m * size) (hnews : ∀ j u, news[j]? = some u → w.cell? (ad.add j) = some u) (h1 : ∀ u ∈ news, u.oneCell' = true)
  (h63 : n + m ≤ maxLen) (hbytes : (n + m) * bytes ≤ 140737488355328) (hbase : base ≤ w.heap.size)
  (h : ∀ g cap w', w'.ownsRow base e size (.slice (some ⟨g, 0, none⟩) (n + m) cap) (n + m) (xs ++ news) → w.grownBy w' (some g0) → K (a.put o.dst (.slice (some ⟨g, 0, none⟩) (n + m) cap)) w') :
  if Region.wanted o (yielded ops a.tmps) = true then Oper.wp P o a w K Q else E := by
 have hw : Region.wanted o (yielded ops a.tmps) = true := by simp [Region.wanted, hgd]
 rw [if_pos hw]
 refine wp_append_own w s x t ho base e i z size bytes ht hi hz hsize hby hzs hsz _ n xs hs hown ad m c news hx hl hnews h1 h63 hbytes hbase fun v' w' h2 h3 h4 => ?_
 have hne : v' ≠ .slice none 0 0 := fun e => by have := h4.1 e; cases this.1
 rcases h2.2 with ⟨e, _⟩ | ⟨g, cap, cur, e, _⟩
 ·exact absurd e hne
 ·subst e
  exact h g cap w' h2 h3
theorem inter_snoc (sep : UInt8) (xs : List (List UInt8)) (y : List UInt8) : [sep].intercalate (xs ++ [y]) = if xs = [] then y else [sep].intercalate xs ++ sep :: y := by
 induction xs with
 | nil => simp [List.intercalate]
 | cons x xs ih =>
  cases xs with
  | nil => simp [List.intercalate, List.intersperse]
  | cons z zs =>
   rw [if_neg (by simp)] at ih ⊢
   have e1 : [sep].intercalate (x :: z :: zs ++ [y]) = x ++ [sep] ++ [sep].intercalate (z :: zs ++ [y]) := by simp [List.intercalate, List.intersperse]
   have e2 : [sep].intercalate (x :: z :: zs) = x ++ [sep] ++ [sep].intercalate (z :: zs) := by simp [List.intercalate, List.intersperse]
   rw [e1, e2, ih]
   simp
def TabOk (w : World) : Prop := Lib.TabIs Tryz.prog w "internal/strconv.uint64pow10" .u64 Lib.pow10Tab
theorem TabOk.below {w w' : World} (h : TabOk w) (hb : Below w.heap.size w w') : TabOk w' := by
 unfold TabOk Lib.TabIs World.var? at h ⊢
 cases hg : Tryz.prog.globalNamed "internal/strconv.uint64pow10" with
 | none => rw [hg] at h; cases h
 | some g =>
  rw [hg] at h
  simp only [Option.bind_some] at h ⊢
  have hlt : g < w.heap.size := by
   rcases Nat.lt_or_ge g w.heap.size with h' | h'
   ·exact h'
   ·rw [Array.getElem?_eq_none h'] at h; cases h
  rw [hb.block g hlt]
  exact h
theorem below_growD (w : World) (k : Nat) (os : Array Obj) : Below w.heap.size w (Sort.grow (w.drewN k) os) :=
 ⟨rfl, rfl, rfl, by show w.heap.size ≤ (w.heap ++ os).size; simp, fun j hj => by show (w.heap ++ os)[j]? = w.heap[j]?; rw [Array.getElem?_append_left hj]⟩
theorem Tryz.infoStr : (Tryz.prog.info? 9).map (fun i => (i.zero, i.size, i.bytes)) = some (some (.string ByteArray.empty), 1, 16) := by kernel_rfl
def TxtAt (w : World) (a : Option Addr) (n : Nat) (S : Nat → ByteArray) : Prop := ∀ i, i < n → ∃ b off, a = some ⟨b, off, none⟩ ∧ w.cell? ⟨b, off + i, none⟩ = some (.string (S i))
theorem TxtAt.below {w w' : World} {a : Option Addr} {n : Nat} {S : Nat → ByteArray} (h : TxtAt w a n S) (hb : Below w.heap.size w w') : TxtAt w' a n S := fun i hi => by
 obtain ⟨b, off, e, hc⟩ := h i hi
 exact ⟨b, off, e, (hb.cell (p := ⟨b, off + i, none⟩) (block_lt_of_cell hc)).trans hc⟩
theorem TxtAt.some {w : World} {a : Option Addr} {n : Nat} {S : Nat → ByteArray} (h : TxtAt w a n S) (hn : 0 < n) : ∃ b off, a = some ⟨b, off, none⟩ ∧ ∀ i, i < n → w.cell? ⟨b, off + i, none⟩ = .some (.string (S i)) := by
 obtain ⟨b, off, e, _⟩ := h 0 hn
 refine ⟨b, off, e, fun i hi => ?_⟩
 obtain ⟨b', off', e', hc⟩ := h i hi
 rw [e] at e'
 simp at e'
 obtain ⟨rfl, rfl⟩ := e'
 exact hc
def sL (S : Nat → ByteArray) (n : Nat) : List Value := (List.range n).map fun i => Value.string (S i)
theorem sL_len (S : Nat → ByteArray) (n : Nat) : (sL S n).length = n := by simp [sL]
theorem sL_get (S : Nat → ByteArray) (n i : Nat) (h : i < n) : (sL S n)[i]? = some (Value.string (S i)) := by simp [sL, h]
theorem sL_congr {S S' : Nat → ByteArray} {n : Nat} (h : ∀ i, i < n → S i = S' i) : sL S n = sL S' n := by
 unfold sL
 apply List.map_congr_left
 intro i hi
 rw [h i (List.mem_range.1 hi)]
theorem sL_snoc (S : Nat → ByteArray) (n : Nat) : sL S (n + 1) = sL S n ++ [Value.string (S n)] := by
 unfold sL
 rw [List.range_succ, List.map_append]
 rfl
theorem sL_set (S : Nat → ByteArray) (n k : Nat) (s : ByteArray) (h : k < n) : (sL S n).set k (.string s) = sL (fun i => if i = k then s else S i) n := by
 apply List.ext_getElem?
 intro i
 rw [List.getElem?_set]
 by_cases hi : i < n
 ·by_cases e : k = i
  ·subst e; simp [sL, h]
  ·simp [sL, hi, e, Ne.symm e]
 ·by_cases e : k = i
  ·omega
  ·rw [if_neg e, List.getElem?_eq_none (by rw [sL_len]; omega), List.getElem?_eq_none (by rw [sL_len]; omega)]
theorem sL_empty (n : Nat) : sL (fun _ => ByteArray.empty) n = List.replicate n (Value.string ByteArray.empty) := by
 apply List.ext_getElem?
 intro i
 by_cases hi : i < n
 ·rw [sL_get _ _ _ hi]; simp [hi]
 ·rw [List.getElem?_eq_none (by rw [sL_len]; omega), List.getElem?_eq_none (by simp; omega)]
def OwnT (w : World) (B : Nat) (a : Option Addr) (n cap : Nat) (S : Nat → ByteArray) : Prop := w.ownsRow B 9 1 (.slice a n cap) n (sL S n)
theorem OwnT.at {w : World} {B : Nat} {a : Option Addr} {n cap : Nat} {S : Nat → ByteArray} (h : OwnT w B a n cap S) : TxtAt w a n S := by
 intro i hi
 rcases own_shape h with ⟨rfl, rfl, rfl⟩ | ⟨g, cur, rfl, _⟩
 ·omega
 ·exact ⟨g, 0, rfl, by rw [Nat.zero_add, h.cellAt i (by omega), sL_get _ _ _ hi]⟩
theorem OwnT.below {w w' : World} {B : Nat} {a : Option Addr} {n cap : Nat} {S : Nat → ByteArray} (h : OwnT w B a n cap S) (hb : Below w.heap.size w w') : OwnT w' B a n cap S := ownsRow_below h hb
theorem OwnT.congr {w : World} {B : Nat} {a : Option Addr} {n cap : Nat} {S S' : Nat → ByteArray} (h : OwnT w B a n cap S) (e : ∀ i, i < n → S i = S' i) : OwnT w B a n cap S' := by
 unfold OwnT at *
 rw [← sL_congr e]
 exact h
theorem OwnT.base {w : World} {B B' : Nat} {a : Option Addr} {n cap : Nat} {S : Nat → ByteArray} (h : OwnT w B a n cap S) (hB : B' ≤ B) : OwnT w B' a n cap S := own_base h hB
theorem litT (w : World) (S : Nat → ByteArray) : OwnT (w.alloc (.cells #[] 9)) w.heap.size (some ⟨w.heap.size, 0, none⟩) 0 0 S :=
 World.ownsRow_lit w #[] 0 (Nat.le_refl _) (by unfold maxLen; omega) rfl
def ResT (w w' : World) (v : Value) (n : Nat) (S : Nat → ByteArray) : Prop := ∃ a cap, v = .slice a n cap ∧ OwnT w' w.heap.size a n cap S
theorem ba_beq (s : ByteArray) : (s.toList == s.toList) = true := by simp
theorem ba_ne {s u : ByteArray} (h : s ≠ u) : (s.toList == u.toList) = false := by
 rw [ByteArray.toList_eq, ByteArray.toList_eq]
 simp only [beq_eq_false_iff_ne, ne_eq]
 intro e
 exact h (ByteArray.ext (Array.toList_inj.1 e))
inductive Dt where
 | val (v : Value)
 | lst (t : TypeId) (sz n : Nat) (f : Nat → Nat → Dt)
def Rd (w : World) : Dt → Value → Prop
 | .val v, x => x = v
 | .lst _ sz n f, x => ∃ a cap, x = .slice a n cap ∧ ∀ i, i < n → ∃ b off, a = some ⟨b, off, none⟩ ∧ ∀ q, q < sz → ∃ y, w.cell? ⟨b, off + (i * sz + q), none⟩ = some y ∧ Rd w (f i q) y
theorem Rd.keep {w w' : World} (h : ∀ (p : Addr) (v : Value), w.cell? p = some v → w'.cell? p = some v) : ∀ {d : Dt} {v : Value}, Rd w d v → Rd w' d v := by
 intro d
 induction d with
 | val v => intro x hx; exact hx
 | lst t sz n f ih =>
  rintro x ⟨a, cap, e, hx⟩
  refine ⟨a, cap, e, fun i hi => ?_⟩
  obtain ⟨b, off, ea, hq⟩ := hx i hi
  refine ⟨b, off, ea, fun q hq' => ?_⟩
  obtain ⟨y, hy, hr⟩ := hq q hq'
  exact ⟨y, h _ _ hy, ih i q hr⟩
theorem Rd.below {w w' : World} {d : Dt} {v : Value} (h : Rd w d v) (hb : Below w.heap.size w w') : Rd w' d v :=
 h.keep fun _ _ hp => (hb.cell (block_lt_of_cell hp)).trans hp
theorem Rd.shape {w : World} {t : TypeId} {sz n : Nat} {f : Nat → Nat → Dt} {v : Value} (h : Rd w (.lst t sz n f) v) : ∃ a cap, v = .slice a n cap := by
 obtain ⟨a, cap, e, _⟩ := h
 exact ⟨a, cap, e⟩
theorem Rd.row {w : World} {t : TypeId} {sz n : Nat} {f : Nat → Nat → Dt} {a : Option Addr} {cap : Nat} (h : Rd w (.lst t sz n f) (.slice a n cap)) {i : Nat} (hi : i < n) :
  ∃ (b off : Nat) (y : Nat → Value), a = some ⟨b, off, none⟩ ∧ (∀ q, q < sz → w.cell? ⟨b, off + (i * sz + q), none⟩ = some (y q)) ∧ ∀ q, q < sz → Rd w (f i q) (y q) := by
 obtain ⟨a', cap', e, hx⟩ := h
 cases e
 obtain ⟨b, off, ea, hq⟩ := hx i hi
 have : ∀ q, ∃ y, q < sz → w.cell? ⟨b, off + (i * sz + q), none⟩ = some y ∧ Rd w (f i q) y := fun q => by
  by_cases h : q < sz
  ·obtain ⟨y, hy⟩ := hq q h; exact ⟨y, fun _ => hy⟩
  ·exact ⟨undef, fun h' => absurd h' h⟩
 obtain ⟨y, hy⟩ := Classical.axiomOfChoice this
 exact ⟨b, off, y, ea, fun q hq => (hy q hq).1, fun q hq => (hy q hq).2⟩
def txD (m : Nat) (S : Nat → ByteArray) : Dt := .lst 9 1 m fun i _ => .val (.string (S i))
def inD (zs : List Int) : Dt := .lst 3 1 zs.length fun i _ => .val (.int .i64 (zs.getD i 0))
theorem rd_txt {w : World} {m : Nat} {S : Nat → ByteArray} {a : Option Addr} {cap : Nat} : Rd w (txD m S) (.slice a m cap) ↔ TxtAt w a m S := by
 constructor
 ·rintro ⟨a', cap', e, hx⟩ i hi
  cases e
  obtain ⟨b, off, ea, hq⟩ := hx i hi
  obtain ⟨y, hy, hr⟩ := hq 0 (by omega)
  exact ⟨b, off, ea, by rw [show off + i = off + (i * 1 + 0) by omega, hy]; exact congrArg some hr⟩
 ·intro h
  refine ⟨a, cap, rfl, fun i hi => ?_⟩
  obtain ⟨b, off, ea, hc⟩ := h i hi
  refine ⟨b, off, ea, fun q hq => ?_⟩
  obtain rfl : q = 0 := by omega
  exact ⟨_, by rw [show off + (i * 1 + 0) = off + i by omega]; exact hc, rfl⟩
theorem rd_ints {w : World} {zs : List Int} {a : Option Addr} {cap : Nat} : Rd w (inD zs) (.slice a zs.length cap) ↔ IntsAt w a zs.length zs := by
 constructor
 ·rintro ⟨a', cap', e, hx⟩
  refine ⟨rfl, fun i hi => ?_⟩
  cases e
  obtain ⟨b, off, ea, hq⟩ := hx i hi
  obtain ⟨y, hy, hr⟩ := hq 0 (by omega)
  exact ⟨b, off, ea, by rw [show off + i = off + (i * 1 + 0) by omega, hy]; exact congrArg some hr⟩
 ·intro h
  refine ⟨a, cap, rfl, fun i hi => ?_⟩
  obtain ⟨b, off, ea, hc⟩ := h.2 i hi
  refine ⟨b, off, ea, fun q hq => ?_⟩
  obtain rfl : q = 0 := by omega
  exact ⟨_, by rw [show off + (i * 1 + 0) = off + i by omega]; exact hc, rfl⟩
def cL (sz : Nat) (c : Nat → Nat → Value) (n : Nat) : List Value := (List.range (n * sz)).map fun j => c (j / sz) (j % sz)
theorem cL_len (sz : Nat) (c : Nat → Nat → Value) (n : Nat) : (cL sz c n).length = n * sz := by simp [cL]
theorem mid_lt {sz n i q : Nat} (hi : i < n) (hq : q < sz) : i * sz + q < n * sz := by
 have := Nat.mul_le_mul_right sz (show i + 1 ≤ n by omega)
 rw [Nat.succ_mul] at this
 omega
theorem mid_div {sz i q : Nat} (hq : q < sz) : (i * sz + q) / sz = i := by rw [Nat.mul_comm, Nat.mul_add_div (by omega), Nat.div_eq_of_lt hq, Nat.add_zero]
theorem mid_mod {sz i q : Nat} (hq : q < sz) : (i * sz + q) % sz = q := by rw [Nat.mul_comm, Nat.mul_add_mod, Nat.mod_eq_of_lt hq]
theorem mid_eq {sz j : Nat} : j / sz * sz + j % sz = j := by rw [Nat.mul_comm]; exact Nat.div_add_mod j sz
theorem cL_get (sz : Nat) (c : Nat → Nat → Value) (n i q : Nat) (hi : i < n) (hq : q < sz) : (cL sz c n)[i * sz + q]? = some (c i q) := by
 simp [cL, mid_lt hi hq, mid_div hq, mid_mod hq]
theorem cL_congr {sz : Nat} {c c' : Nat → Nat → Value} {n : Nat} (h : ∀ i q, i < n → q < sz → c i q = c' i q) : cL sz c n = cL sz c' n := by
 unfold cL
 refine List.map_congr_left fun j hj => ?_
 have hj' : j < n * sz := by simpa using hj
 have hs : 0 < sz := by
  rcases Nat.eq_zero_or_pos sz with e | e
  ·subst e; omega
  ·exact e
 exact h _ _ ((Nat.div_lt_iff_lt_mul hs).2 hj') (Nat.mod_lt _ hs)
theorem cL_set (sz : Nat) (c : Nat → Nat → Value) (n i q : Nat) (v : Value) (hi : i < n) (hq : q < sz) : (cL sz c n).set (i * sz + q) v = cL sz (fun i' q' => if i' = i ∧ q' = q then v else c i' q') n := by
 apply List.ext_getElem?
 intro j
 rw [List.getElem?_set]
 by_cases hj : j < n * sz
 ·by_cases e : i * sz + q = j
  ·subst e
   rw [if_pos rfl, if_pos (by rw [cL_len]; exact hj), cL_get _ _ _ _ _ hi hq]
   simp
  ·rw [if_neg e]
   have hs : 0 < sz := by omega
   have h1 := cL_get sz c n (j / sz) (j % sz) ((Nat.div_lt_iff_lt_mul hs).2 hj) (Nat.mod_lt _ hs)
   have h2 := cL_get sz (fun i' q' => if i' = i ∧ q' = q then v else c i' q') n (j / sz) (j % sz) ((Nat.div_lt_iff_lt_mul hs).2 hj) (Nat.mod_lt _ hs)
   rw [mid_eq] at h1 h2
   rw [h1, h2, if_neg (fun ⟨e1, e2⟩ => e (by rw [← e1, ← e2]; exact mid_eq))]
 ·rw [if_neg (fun e => hj (by rw [← e]; exact mid_lt hi hq))]
  rw [List.getElem?_eq_none (by rw [cL_len]; omega), List.getElem?_eq_none (by rw [cL_len]; omega)]
structure Sep (a : Option Addr) (n sz : Nat) (G : Nat → Nat → Nat → Prop) (F : Nat → Prop) : Prop where
 head : ∀ x, a = some x → F x.block
 sub : ∀ i q g, i < n → q < sz → G i q g → F g
 apart : ∀ i q x, i < n → q < sz → a = some x → ¬ G i q x.block
 each : ∀ i q i' q' g, i < n → q < sz → i' < n → q' < sz → G i q g → G i' q' g → i = i' ∧ q = q'
def Ow (w : World) (B : Nat) : Dt → Value → (Nat → Prop) → Prop
 | .val v, x, _ => x = v
 | .lst t sz n f, x, F => ∃ a cap c G, x = .slice a n cap ∧ w.ownsRow B t sz (.slice a n cap) n (cL sz c n) ∧ Sep a n sz G F ∧ ∀ i q, i < n → q < sz → Ow w B (f i q) (c i q) (G i q)
theorem Ow.mono {w : World} {B : Nat} {d : Dt} {v : Value} {F F' : Nat → Prop} (h : Ow w B d v F) (hF : ∀ g, F g → F' g) : Ow w B d v F' := by
 cases d with
 | val v => exact h
 | lst t sz n f =>
  obtain ⟨a, cap, c, G, e, ho, hs, hr⟩ := h
  exact ⟨a, cap, c, G, e, ho, ⟨fun x hx => hF _ (hs.head x hx), fun i q g hi hq hg => hF _ (hs.sub i q g hi hq hg), hs.apart, hs.each⟩, hr⟩
theorem Ow.frame {w w' : World} {B : Nat} : ∀ {d : Dt} {v : Value} {F : Nat → Prop}, Ow w B d v F → (∀ g, F g → g < w.heap.size → w'.heap[g]? = w.heap[g]?) → Ow w' B d v F := by
 intro d
 induction d with
 | val v => intro x F hx _; exact hx
 | lst t sz n f ih =>
  rintro x F ⟨a, cap, c, G, e, ho, hs, hr⟩ hF
  refine ⟨a, cap, c, G, e, ⟨ho.1, ?_⟩, hs, fun i q hi hq => ih i q (hr i q hi hq) fun g hg => hF g (hs.sub i q g hi hq hg)⟩
  rcases ho.2 with h' | ⟨g, cap', cur, h1, h2, h3, h4⟩
  ·exact .inl h'
  ·refine .inr ⟨g, cap', cur, h1, h2, ?_, h4⟩
   have hx : a = some ⟨g, 0, none⟩ := by cases h1; rfl
   rw [hF g (hs.head _ hx) (Array.getElem?_eq_some_iff.1 h3).1]
   exact h3
theorem Ow.below {w w' : World} {B : Nat} {d : Dt} {v : Value} {F : Nat → Prop} (h : Ow w B d v F) (hb : Below w.heap.size w w') : Ow w' B d v F := h.frame fun g _ hg => hb.block g hg
theorem Ow.base {w : World} {B B' : Nat} : ∀ {d : Dt} {v : Value} {F : Nat → Prop}, Ow w B d v F → B' ≤ B → Ow w B' d v F := by
 intro d
 induction d with
 | val v => intro x F hx _; exact hx
 | lst t sz n f ih =>
  rintro x F ⟨a, cap, c, G, e, ho, hs, hr⟩ hB
  exact ⟨a, cap, c, G, e, own_base ho hB, hs, fun i q hi hq => ih i q (hr i q hi hq) hB⟩
theorem Ow.rd {w : World} {B : Nat} : ∀ {d : Dt} {v : Value} {F : Nat → Prop}, Ow w B d v F → Rd w d v := by
 intro d
 induction d with
 | val v => intro x F hx; exact hx
 | lst t sz n f ih =>
  rintro x F ⟨a, cap, c, G, e, ho, hs, hr⟩
  refine ⟨a, cap, e, fun i hi => ?_⟩
  rcases own_shape ho with ⟨_, h0, _⟩ | ⟨g, cur, rfl, _⟩
  ·omega
  ·refine ⟨g, 0, rfl, fun q hq => ⟨c i q, ?_, ih i q (hr i q hi hq)⟩⟩
   rw [Nat.zero_add, ho.cellAt _ (mid_lt hi hq)]
   exact cL_get _ _ _ _ _ hi hq
theorem Ow.cut {w : World} {B : Nat} : ∀ {d : Dt} {v : Value} {F : Nat → Prop}, Ow w B d v F → Ow w B d v (fun g => F g ∧ B ≤ g ∧ g < w.heap.size) := by
 intro d
 induction d with
 | val v => intro x F hx; exact hx
 | lst t sz n f ih =>
  rintro x F ⟨a, cap, c, G, e, ho, hs, hr⟩
  refine ⟨a, cap, c, fun i q g => G i q g ∧ B ≤ g ∧ g < w.heap.size, e, ho, ⟨fun x hx => ⟨hs.head x hx, ?_⟩, fun i q g hi hq hg => ⟨hs.sub i q g hi hq hg.1, hg.2⟩, fun i q x hi hq hx hg => hs.apart i q x hi hq hx hg.1, fun i q i' q' g hi hq hi' hq' hg hg' => hs.each i q i' q' g hi hq hi' hq' hg.1 hg'.1⟩, fun i q hi hq => ih i q (hr i q hi hq)⟩
  subst hx
  exact World.ownsRow.lt ho x.block rfl
theorem Ow.nil (w : World) (B : Nat) (t : TypeId) (sz : Nat) (f : Nat → Nat → Dt) (F : Nat → Prop) : Ow w B (.lst t sz 0 f) (.slice none 0 0) F :=
 ⟨none, 0, fun _ _ => undef, fun _ _ _ => False, rfl, by have := World.ownsRow_nil w B t sz; simpa [cL] using this, ⟨fun _ e => (nomatch e), fun _ _ _ hi => absurd hi (Nat.not_lt_zero _), fun _ _ _ hi => absurd hi (Nat.not_lt_zero _), fun _ _ _ _ _ hi => absurd hi (Nat.not_lt_zero _)⟩, fun _ _ hi => absurd hi (Nat.not_lt_zero _)⟩
theorem Ow.congr {w : World} {B : Nat} {t : TypeId} {sz n : Nat} {f f' : Nat → Nat → Dt} {v : Value} {F : Nat → Prop} (h : Ow w B (.lst t sz n f) v F) (e : ∀ i q, i < n → q < sz → f i q = f' i q) : Ow w B (.lst t sz n f') v F := by
 obtain ⟨a, cap, c, G, ex, ho, hs, hr⟩ := h
 exact ⟨a, cap, c, G, ex, ho, hs, fun i q hi hq => by rw [← e i q hi hq]; exact hr i q hi hq⟩
theorem ow_txt {w : World} {B : Nat} {a : Option Addr} {m cap : Nat} {S : Nat → ByteArray} {F : Nat → Prop} (h : OwnT w B a m cap S) (hF : ∀ x, a = some x → F x.block) : Ow w B (txD m S) (.slice a m cap) F := by
 refine ⟨a, cap, fun i _ => .string (S i), fun _ _ _ => False, rfl, ?_, ⟨hF, fun _ _ _ _ _ h => h.elim, fun _ _ _ _ _ _ h => h, fun _ _ _ _ _ _ _ _ _ h => h.elim⟩, fun _ _ _ _ => rfl⟩
 have : cL 1 (fun i _ => Value.string (S i)) m = sL S m := by unfold cL sL; simp
 rw [this]
 exact h
structure Trn (w w' : World) (F : Nat → Prop) : Prop where
 os : w'.os = w.os
 tape : w'.tape = w.tape
 output : w'.output = w.output
 size : w.heap.size ≤ w'.heap.size
 block : ∀ j, j < w.heap.size → ¬ F j → w'.heap[j]? = w.heap[j]?
theorem Trn.set (w : World) {F : Nat → Prop} {g : Nat} (j : Nat) (v : Value) (hF : F g) : Trn w (w.setCell ⟨g, j, none⟩ v) F := ⟨rfl, rfl, rfl, by simp, fun i _ hi => heap_setCell_other w ⟨g, j, none⟩ i v (fun e => by subst e; exact hi hF)⟩
theorem Ow.turned {w w' : World} {B : Nat} {d : Dt} {v : Value} {F F' : Nat → Prop} (h : Ow w B d v F) (ht : Trn w w' F') (hd : ∀ g, F g → ¬ F' g) : Ow w' B d v F := h.frame fun g hg hl => ht.block g hl (hd g hg)
def rng (a b g : Nat) : Prop := a ≤ g ∧ g < b
end Go.Proofs.YtaenoiffamgcfaaGreatDoor
namespace Go.Proofs.YtaenoiffamgcfaaGreatDoor
open Go.ChangeShapes Go.WideShapes Go.ChangeAt Go.WideMaps Go.WideElems Go.RowKit
def laid3 : List (String × DataW Unit) := [("math/bits.deBruijn32tab", Rows.laid_math_bits_deBruijn32tab), ("math/bits.deBruijn64tab", Rows.laid_math_bits_deBruijn64tab), ("internal/strconv.uint64pow10", Rows.laid_internal_strconv_uint64pow10)]
theorem tab_is : (Rows.laid_internal_strconv_uint64pow10 : DataW Unit) = Lib.tabData .u64 Lib.pow10Tab := rfl
theorem door_met (os : Os) (args : Array Value) : laidMetH Tryz.prog laid3 ((World.doorLaid Tryz.prog 4000 os).forCall (fun _ _ => 0) ⟨#[], args, []⟩).memory :=
 laidMetH_of_parts3 (fuel := 8) (laidMet_of_run' 8 (by kernel_rfl) (by kernel_rfl)) (by kernel_rfl) (by kernel_rfl)
theorem tab_of_laid {W : World} (h : laidMetH Tryz.prog laid3 W) : TabOk W := by
 rw [MakeChecks.laidMetH_plain _ _ _ (by kernel_rfl)] at h
 obtain ⟨ps, ⟨g0, t0, cs0, f0, p0, q0, hg0, ht0, hv0, hd0, ⟨g1, t1, cs1, f1, p1, q1, hg1, ht1, hv1, hd1, ⟨g2, t2, cs2, f2, p2, q2, hg2, ht2, hv2, hd2, _, _⟩, _⟩, _⟩, _, _⟩ := h
 obtain rfl := Option.some.inj ((show Tryz.prog.globalNamed "internal/strconv.uint64pow10" = some 0 by kernel_rfl).symm.trans hg2)
 obtain rfl := Option.some.inj ((show (Tryz.prog.globals[0]?).map (·.type) = some 179 by kernel_rfl).symm.trans ht2)
 rw [tab_is] at hd2
 show World.var? _ _ _ = _
 rw [hv2, ← Lib.cells_of_tab Tryz.underlying179 Tryz.underlying94 (by kernel_rfl) (by kernel_rfl) hd2]
end Go.Proofs.YtaenoiffamgcfaaGreatDoor
namespace Go.Proofs.YtaenoiffamgcfaaGreatDoor
abbrev pcC (r : ByteArray) (k n i : Int) (b : ByteArray) (v : Value) : Array Value := #[.string r, .int .i64 k, .int .i64 n, .int .i64 i, .string b, v]
abbrev pcV (r : ByteArray) (k n i : Int) (b : ByteArray) (v : Value) : Value := .agg (pcC r k n i b v)
theorem Tryz.infoPc : (Tryz.prog.info? 32).map (·.size) = some 6 := by kernel_rfl
theorem OwnT.setFar {w : World} {B g o : Nat} {a : Option Addr} {n c : Nat} {S : Nat → ByteArray} {v : Value} (h : OwnT w B a n c S) (hB : g < B) : OwnT (w.setCell ⟨g, o, none⟩ v) B a n c S :=
 own_kept h (grown_set _ _ _ _) (fun x e => by subst e; have := (World.ownsRow.lt h x.block rfl).1; omega)
theorem heap_setCells_other (b : Nat) : ∀ (vs : List Value) (o : Nat) (w : World) (j : Nat), j ≠ b → (w.setCells b o vs).heap[j]? = w.heap[j]?
 | [], _, _, _, _ => rfl
 | v :: r, o, w, j, h => by rw [World.setCells, heap_setCells_other b r (o + 1) _ j h]; exact heap_setCell_other w ⟨b, o, none⟩ j v h
theorem size_setCells (b : Nat) : ∀ (vs : List Value) (o : Nat) (w : World), (w.setCells b o vs).heap.size = w.heap.size
 | [], _, _ => rfl
 | v :: r, o, w => by rw [World.setCells, size_setCells b r (o + 1) _]; simp
theorem os_setCells (b : Nat) : ∀ (vs : List Value) (o : Nat) (w : World), (w.setCells b o vs).os = w.os ∧ (w.setCells b o vs).tape = w.tape ∧ (w.setCells b o vs).output = w.output
 | [], _, _ => ⟨rfl, rfl, rfl⟩
 | v :: r, o, w => by rw [World.setCells]; exact os_setCells b r (o + 1) _
theorem below_setCells {B b : Nat} {w0 w : World} (h : Below B w0 w) (hB : B ≤ b) (o : Nat) (vs : List Value) : Below B w0 (w.setCells b o vs) := by
 obtain ⟨h1, h2, h3⟩ := os_setCells b vs o w
 exact h.trans ⟨h1, h2, h3, by rw [size_setCells]; exact Nat.le_refl _, fun j hj => heap_setCells_other b vs o w j (by omega)⟩
theorem own_setCells {B t sz g n cap i : Nat} (hi : i < n) : ∀ (vs : List Value) (q0 : Nat) (w : World) (c : Nat → Nat → Value), q0 + vs.length = sz → w.ownsRow B t sz (.slice (some ⟨g, 0, none⟩) n cap) n (cL sz c n) →
  (w.setCells g (i * sz + q0) vs).ownsRow B t sz (.slice (some ⟨g, 0, none⟩) n cap) n (cL sz (fun i' q' => if i' = i ∧ q0 ≤ q' then vs.getD (q' - q0) undef else c i' q') n) := by
 intro vs
 induction vs with
 | nil =>
  intro q0 w c hq ho
  have e : cL sz (fun i' q' => if i' = i ∧ q0 ≤ q' then ([] : List Value).getD (q' - q0) undef else c i' q') n = cL sz c n := cL_congr fun i' q' _ hq' => if_neg (fun h => by have := h.2; simp at hq; omega)
  rw [e]
  exact ho
 | cons v r ih =>
  intro q0 w c hq ho
  rw [World.setCells]
  have hq0 : q0 < sz := by simp at hq; omega
  have h1 := (World.ownsRow.stored ho (i * sz + q0) v).1
  rw [cL_set _ _ _ _ _ _ hi hq0] at h1
  have h2 := ih (q0 + 1) _ _ (by simp at hq; omega) h1
  rw [Nat.add_assoc]
  have e : cL sz (fun i' q' => if i' = i ∧ q0 ≤ q' then (v :: r).getD (q' - q0) undef else c i' q') n = cL sz (fun i' q' => if i' = i ∧ q0 + 1 ≤ q' then r.getD (q' - (q0 + 1)) undef else if i' = i ∧ q' = q0 then v else c i' q') n := cL_congr fun i' q' _ hq' => by
   by_cases ei : i' = i
   ·by_cases e1 : q' = q0
    ·subst e1
     rw [if_pos ⟨ei, Nat.le_refl _⟩, if_neg (by omega), if_pos ⟨ei, rfl⟩, Nat.sub_self]
     rfl
    ·by_cases e2 : q0 ≤ q'
     ·obtain ⟨k, rfl⟩ : ∃ k, q' = q0 + 1 + k := ⟨q' - (q0 + 1), by omega⟩
      rw [if_pos ⟨ei, e2⟩, if_pos ⟨ei, by omega⟩, show q0 + 1 + k - q0 = k + 1 by omega, show q0 + 1 + k - (q0 + 1) = k by omega]
      rfl
     ·rw [if_neg (by omega), if_neg (by omega), if_neg (by omega)]
   ·simp [ei]
  rw [e]
  exact h2
def nz (zs : List Int) (i : Nat) : Nat := if zs.getD i 0 = 0 then 0 else 1
def RowI (w : World) (B E : Nat) (a : Option Addr) (n cap : Nat) (zs : List Int) : Prop := OwnI w B (.slice a n cap) zs ∧ n = zs.length ∧ n ≤ cap ∧ ∀ k, (Value.slice a n cap).ownBlock = some k → B ≤ k ∧ k < E
theorem OwnI.row {w : World} {B E : Nat} {v : Value} {zs : List Int} (h : OwnI w B v zs) (hE : ∀ k, v.ownBlock = some k → k < E) : ∃ a cap, v = .slice a zs.length cap ∧ RowI w B E a zs.length cap zs := by
 rcases h.2 with ⟨e, hn⟩ | ⟨g, cap, cur, e, hB, hg, hcap, _⟩
 ·refine ⟨none, 0, by rw [e, hn], ?_, rfl, by omega, fun k hk => by cases hk⟩
  rw [hn, ← e]
  exact h
 ·subst e
  exact ⟨_, _, rfl, h, rfl, hcap, fun k hk => ⟨(World.ownsRow.lt h k hk).1, hE k hk⟩⟩
theorem OwnI.row' {w : World} {B : Nat} {v : Value} {zs : List Int} (h : OwnI w B v zs) : ∃ a cap, v = .slice a zs.length cap ∧ RowI w B w.heap.size a zs.length cap zs :=
 h.row (fun k hk => (World.ownsRow.lt h k hk).2)
theorem RowI.ints {w : World} {B E : Nat} {a : Option Addr} {n cap : Nat} {zs : List Int} (h : RowI w B E a n cap zs) : IntsAt w a n zs := by
 obtain ⟨ho, rfl, _, _⟩ := h
 obtain ⟨a', cap', e, hi, _⟩ := ho.view
 cases e
 exact hi
def marks (k n : Nat) : List Int := eI (fun i => k + i) n
theorem Ow.focus {w : World} {B t sz g n cap i q : Nat} {f : Nat → Nat → Dt} {F : Nat → Prop} (h : Ow w B (.lst t sz n f) (.slice (some ⟨g, 0, none⟩) n cap) F) (hi : i < n) (hq : q < sz) :
  ∃ (y : Value) (K : Nat → Prop), w.cell? ⟨g, i * sz + q, none⟩ = some y ∧ (∀ j, w.frozen? ⟨g, j, none⟩ = false) ∧ Ow w B (f i q) y K ∧ (∀ x, K x → F x ∧ x ≠ g) ∧ F g ∧ B ≤ g ∧ g < w.heap.size ∧
   ∀ (w' : World) (d : Dt) (y' : Value) (H : Nat → Prop), (∀ b, F b → ¬ K b → b < w.heap.size → w'.heap[b]? = w.heap[b]?) → Ow w' B d y' H → (∀ x, H x → K x ∨ ¬ F x) →
    Ow (w'.setCell ⟨g, i * sz + q, none⟩ y') B (.lst t sz n (fun i' q' => if i' = i ∧ q' = q then d else f i' q')) (.slice (some ⟨g, 0, none⟩) n cap) (fun x => F x ∨ H x) := by
 obtain ⟨a, cap', c, G, e, ho, hs, hr⟩ := h
 cases e
 have hg : F g := hs.head _ rfl
 have hlt := World.ownsRow.lt ho g rfl
 refine ⟨c i q, G i q, ?_, fun j => World.ownsRow.frozenAt ho j, hr i q hi hq, fun x hx => ⟨hs.sub i q x hi hq hx, fun e => hs.apart i q _ hi hq rfl (by subst e; exact hx)⟩, hg, hlt.1, hlt.2, ?_⟩
 ·rw [World.ownsRow.cellAt ho _ (mid_lt hi hq)]
  exact cL_get _ _ _ _ _ hi hq
 intro w' d y' H hfr hv hH
 have hng : ¬ G i q g := fun hx => hs.apart i q _ hi hq rfl hx
 have ho' : w'.ownsRow B t sz (.slice (some ⟨g, 0, none⟩) n cap) n (cL sz c n) := by
  refine ⟨ho.1, ?_⟩
  rcases ho.2 with h' | ⟨g', cap', cur, h1, h2, h3, h4⟩
  ·exact .inl h'
  ·refine .inr ⟨g', cap', cur, h1, h2, ?_, h4⟩
   cases h1
   exact (hfr g hg hng (Array.getElem?_eq_some_iff.1 h3).1).trans h3
 have e0 := (World.ownsRow.stored ho' (i * sz + q) y').1
 rw [cL_set _ _ _ _ _ _ hi hq] at e0
 have hHg : ¬ H g := fun hx => by
  rcases hH g hx with h1 | h1
  ·exact hng h1
  ·exact h1 hg
 refine ⟨some ⟨g, 0, none⟩, cap, _, fun i' q' => if i' = i ∧ q' = q then H else G i' q', rfl, e0, ⟨fun x hx => by cases hx; exact .inl hg, fun i' q' x hi' hq' hx => ?_, fun i' q' x hi' hq' ex hx => ?_, fun i1 q1 i2 q2 x h1 h2 h3 h4 hx hx' => ?_⟩, fun i' q' hi' hq' => ?_⟩
 ·by_cases ei : i' = i ∧ q' = q
  ·simp only [ei, if_true, and_self] at hx; exact .inr hx
  ·simp only [ei, if_false] at hx; exact .inl (hs.sub _ _ _ hi' hq' hx)
 ·cases ex
  by_cases ei : i' = i ∧ q' = q
  ·simp only [ei, if_true, and_self] at hx; exact hHg hx
  ·simp only [ei, if_false] at hx; exact hs.apart _ _ _ hi' hq' rfl hx
 ·by_cases e1 : i1 = i ∧ q1 = q
  ·by_cases e2 : i2 = i ∧ q2 = q
   ·exact ⟨e1.1.trans e2.1.symm, e1.2.trans e2.2.symm⟩
   ·simp only [e1, e2, if_true, if_false, and_self] at hx hx'
    rcases hH x hx with k | k
    ·have := hs.each _ _ _ _ _ hi hq h3 h4 k hx'
     exact absurd ⟨this.1.symm, this.2.symm⟩ e2
    ·exact absurd (hs.sub _ _ _ h3 h4 hx') k
  ·by_cases e2 : i2 = i ∧ q2 = q
   ·simp only [e1, e2, if_true, if_false, and_self] at hx hx'
    rcases hH x hx' with k | k
    ·have := hs.each _ _ _ _ _ hi hq h1 h2 k hx
     exact absurd ⟨this.1.symm, this.2.symm⟩ e1
    ·exact absurd (hs.sub _ _ _ h1 h2 hx) k
   ·simp only [e1, e2, if_false] at hx hx'
    exact hs.each _ _ _ _ _ h1 h2 h3 h4 hx hx'
 ·by_cases ei : i' = i ∧ q' = q
  ·simp only [ei, if_true, and_self]
   exact hv.frame fun x hx _ => heap_setCell_other w' ⟨g, i * sz + q, none⟩ x y' (fun e => hHg (by subst e; exact hx))
  ·simp only [ei, if_false]
   refine (hr i' q' hi' hq').frame fun x hx hl => (heap_setCell_other w' ⟨g, i * sz + q, none⟩ x y' (fun e => hs.apart _ _ _ hi' hq' rfl (by subst e; exact hx))).trans (hfr x (hs.sub _ _ _ hi' hq' hx) (fun k => ei ?_) hl)
   exact hs.each _ _ _ _ _ hi' hq' hi hq hx k
theorem ow_some {w : World} {B t sz n cap : Nat} {a : Option Addr} {f : Nat → Nat → Dt} {F : Nat → Prop} (h : Ow w B (.lst t sz n f) (.slice a n cap) F) (hn : 0 < n) : ∃ g, a = some ⟨g, 0, none⟩ := by
 obtain ⟨a', cap', c, G, e, ho, hs, hr⟩ := h
 cases e
 rcases own_shape ho with ⟨_, h0, _⟩ | ⟨g, cur, rfl, _⟩
 ·omega
 ·exact ⟨g, rfl⟩
theorem Ow.put {w : World} {B t sz g n cap i : Nat} {f : Nat → Nat → Dt} {F F' : Nat → Prop} {vs : List Value} {d : Nat → Dt} {H : Nat → Nat → Prop} (h : Ow w B (.lst t sz n f) (.slice (some ⟨g, 0, none⟩) n cap) F) (hi : i < n) (hl : vs.length = sz)
  (hv : ∀ q, q < sz → (d q = f i q ∧ w.cell? ⟨g, i * sz + q, none⟩ = some (vs.getD q undef)) ∨ (Ow w B (d q) (vs.getD q undef) (H q) ∧ ∀ x, H q x → ¬ F x))
  (hE : ∀ q q' x, q < sz → q' < sz → H q x → H q' x → q = q') (hF : ∀ x, F x → F' x) (hF' : ∀ q x, q < sz → H q x → F' x) :
  Ow (w.setCells g (i * sz) vs) B (.lst t sz n (fun i' => if i' = i then d else f i')) (.slice (some ⟨g, 0, none⟩) n cap) F' := by
 obtain ⟨a, cap', c, G, e, ho, hs, hr⟩ := h
 cases e
 have hg : F g := hs.head _ rfl
 have e0 := own_setCells hi vs 0 w c (by omega) ho
 rw [Nat.add_zero] at e0
 have hK : ∀ q, ∃ K : Nat → Prop, q < sz → Ow w B (d q) (vs.getD q undef) K ∧ ((∀ x, K x → G i q x) ∨ (∀ x, K x → H q x ∧ ¬ F x)) := fun q => by
  by_cases hq : q < sz
  ·rcases hv q hq with ⟨e1, e2⟩ | ⟨e1, e2⟩
   ·refine ⟨G i q, fun _ => ⟨?_, .inl fun x hx => hx⟩⟩
    have h1 : w.cell? ⟨g, i * sz + q, none⟩ = some (c i q) := by rw [World.ownsRow.cellAt ho _ (mid_lt hi hq)]; exact cL_get _ _ _ _ _ hi hq
    rw [h1] at e2
    rw [← Option.some.inj e2, e1]
    exact hr i q hi hq
   ·exact ⟨H q, fun _ => ⟨e1, .inr fun x hx => ⟨hx, e2 x hx⟩⟩⟩
  ·exact ⟨fun _ => False, fun k => absurd k hq⟩
 obtain ⟨K, hK⟩ := Classical.axiomOfChoice hK
 have kF : ∀ q x, q < sz → K q x → F' x := fun q x hq hx => by
  rcases (hK q hq).2 with k | k
  ·exact hF _ (hs.sub _ _ _ hi hq (k x hx))
  ·exact hF' _ _ hq (k x hx).1
 have kg : ∀ q, q < sz → ¬ K q g := fun q hq hx => by
  rcases (hK q hq).2 with k | k
  ·exact hs.apart _ _ _ hi hq rfl (k g hx)
  ·exact (k g hx).2 hg
 have kE : ∀ q q' x, q < sz → q' < sz → K q x → K q' x → q = q' := fun q q' x hq hq' hx hx' => by
  rcases (hK q hq).2 with k | k <;> rcases (hK q' hq').2 with k' | k'
  ·exact (hs.each _ _ _ _ _ hi hq hi hq' (k x hx) (k' x hx')).2
  ·exact absurd (hs.sub _ _ _ hi hq (k x hx)) (k' x hx').2
  ·exact absurd (hs.sub _ _ _ hi hq' (k' x hx')) (k x hx).2
  ·exact hE _ _ _ hq hq' (k x hx).1 (k' x hx').1
 have kO : ∀ q i2 q2 x, q < sz → i2 < n → q2 < sz → i2 ≠ i → K q x → ¬ G i2 q2 x := fun q i2 q2 x hq h2 h3 hne hx hx' => by
  rcases (hK q hq).2 with k | k
  ·exact hne (hs.each _ _ _ _ _ h2 h3 hi hq hx' (k x hx)).1
  ·exact (k x hx).2 (hs.sub _ _ _ h2 h3 hx')
 refine ⟨some ⟨g, 0, none⟩, cap, _, fun i' q' => if i' = i then K q' else G i' q', rfl, e0, ⟨fun x hx => by cases hx; exact hF _ hg, fun i' q' x hi' hq' hx => ?_, fun i' q' x hi' hq' ex hx => ?_, fun i1 q1 i2 q2 x h1 h2 h3 h4 hx hx' => ?_⟩, fun i' q' hi' hq' => ?_⟩
 ·by_cases ei : i' = i
  ·simp only [ei, if_true] at hx; exact kF _ _ hq' hx
  ·simp only [ei, if_false] at hx; exact hF _ (hs.sub _ _ _ hi' hq' hx)
 ·cases ex
  by_cases ei : i' = i
  ·simp only [ei, if_true] at hx; exact kg _ hq' hx
  ·simp only [ei, if_false] at hx; exact hs.apart _ _ _ hi' hq' rfl hx
 ·by_cases e1 : i1 = i
  ·by_cases e2 : i2 = i
   ·simp only [e1, e2, if_true] at hx hx'
    exact ⟨by omega, kE _ _ _ h2 h4 hx hx'⟩
   ·simp only [e1, e2, if_true, if_false] at hx hx'
    exact absurd hx' (kO _ _ _ _ h2 h3 h4 e2 hx)
  ·by_cases e2 : i2 = i
   ·simp only [e1, e2, if_true, if_false] at hx hx'
    exact absurd hx (kO _ _ _ _ h4 h1 h2 e1 hx')
   ·simp only [e1, e2, if_false] at hx hx'
    exact hs.each _ _ _ _ _ h1 h2 h3 h4 hx hx'
 ·have keep : ∀ {dd : Dt} {v : Value} {K : Nat → Prop}, Ow w B dd v K → (∀ x, K x → x ≠ g) → Ow (w.setCells g (i * sz) vs) B dd v K := fun ho hk => ho.frame fun x hx _ => heap_setCells_other g vs _ w x (hk x hx)
  by_cases ei : i' = i
  ·simp only [ei, true_and, Nat.zero_le, if_true, Nat.sub_zero]
   exact keep (hK q' hq').1 (fun x hx e => by subst e; exact kg _ hq' hx)
  ·simp only [ei, false_and, if_false]
   exact keep (hr i' q' hi' hq') (fun x hx e => by subst e; exact hs.apart _ _ _ hi' hq' rfl hx)
theorem cL_snoc (sz : Nat) (c : Nat → Nat → Value) (n : Nat) (vs : List Value) (hz : 0 < sz) (hl : vs.length = sz) : cL sz c n ++ vs = cL sz (fun i q => if i = n then vs.getD q undef else c i q) (n + 1) := by
 apply List.ext_getElem?
 intro j
 by_cases hj : j < (n + 1) * sz
 ·have hd : j / sz < n + 1 := (Nat.div_lt_iff_lt_mul hz).2 hj
  have hm : j % sz < sz := Nat.mod_lt _ hz
  have h2 := cL_get sz (fun i q => if i = n then vs.getD q undef else c i q) (n + 1) (j / sz) (j % sz) hd hm
  rw [mid_eq] at h2
  rw [h2]
  by_cases hn : j < n * sz
  ·have hd' : j / sz < n := (Nat.div_lt_iff_lt_mul hz).2 hn
   have h1 := cL_get sz c n (j / sz) (j % sz) hd' hm
   rw [mid_eq] at h1
   rw [List.getElem?_append_left (by rw [cL_len]; exact hn), h1, if_neg (by omega)]
  ·have hd' : j / sz = n := by
    have : n ≤ j / sz := (Nat.le_div_iff_mul_le hz).2 (by omega)
    omega
   have he := @mid_eq sz j
   rw [hd'] at he
   rw [List.getElem?_append_right (by rw [cL_len]; omega), cL_len, if_pos hd']
   rw [show j - n * sz = j % sz by omega, List.getElem?_eq_getElem (by omega), List.getD_eq_getElem?_getD, List.getElem?_eq_getElem (by omega)]
   rfl
 ·have e : (n + 1) * sz = n * sz + sz := Nat.succ_mul n sz
  rw [List.getElem?_eq_none (by rw [List.length_append, cL_len]; omega), List.getElem?_eq_none (by rw [cL_len]; omega)]
theorem ow_snoc {w w' : World} {B t sz n g cap cp : Nat} {a : Option Addr} {c : Nat → Nat → Value} {G : Nat → Nat → Nat → Prop} {f : Nat → Nat → Dt} {F F' : Nat → Prop} {vs : List Value} {d : Nat → Dt} {H : Nat → Nat → Prop} (hz : 0 < sz)
  (hs : Sep a n sz G F) (hr : ∀ i q, i < n → q < sz → Ow w B (f i q) (c i q) (G i q))
  (hl : vs.length = sz) (hv : ∀ q, q < sz → Ow w B (d q) (vs.getD q undef) (H q)) (hH : ∀ q x, q < sz → H q x → ¬ F x) (hE : ∀ q q' x, q < sz → q' < sz → H q x → H q' x → q = q')
  (h2 : w'.ownsRow B t sz (.slice (some ⟨g, 0, none⟩) (n + 1) cap) (n + 1) (cL sz c n ++ vs)) (h3 : w.grownBy w' (Value.slice a n cp).ownBlock) (h4 : (Value.slice a n cp).ownBlock = some g ∨ g = w.heap.size)
  (hF : ∀ x, F x → x < w.heap.size → F' x) (hF' : ∀ q x, q < sz → H q x → x < w.heap.size → F' x) (hg : F' g) :
  Ow w' B (.lst t sz (n + 1) (fun i => if i = n then d else f i)) (.slice (some ⟨g, 0, none⟩) (n + 1) cap) F' := by
 rw [cL_snoc sz c n vs hz hl] at h2
 have hb' : ∀ x, x < w.heap.size → (∀ y, a = some y → x ≠ y.block) → w'.heap[x]? = w.heap[x]? := fun x hx hy => h3.block x hx fun e => by
  cases a with
  | none => cases e
  | some y => exact hy y rfl (by injection e)
 have hgn : ∀ x, x < w.heap.size → g = x → ∃ y, a = some y ∧ y.block = x := fun x hx e => by
  rcases h4 with h4 | h4
  ·cases a with
   | none => cases h4
   | some y => exact ⟨y, rfl, by injection h4 with h4; omega⟩
  ·omega
 refine ⟨_, cap, _, fun i q x => (if i = n then H q x else G i q x) ∧ B ≤ x ∧ x < w.heap.size, rfl, h2, ⟨fun x hx => by cases hx; exact hg, fun i q x hi hq hx => ?_, fun i q x hi hq ex hx => ?_, fun i q i' q' x hi hq hi' hq' hx hx' => ?_⟩, fun i q hi hq => ?_⟩
 ·obtain ⟨hx, _, hlt⟩ := hx
  by_cases e : i = n
  ·rw [if_pos e] at hx; exact hF' q x hq hx hlt
  ·rw [if_neg e] at hx; exact hF x (hs.sub i q x (by omega) hq hx) hlt
 ·cases ex
  obtain ⟨hx, _, hlt⟩ := hx
  obtain ⟨y, ey, eb⟩ := hgn g hlt rfl
  by_cases e : i = n
  ·rw [if_pos e] at hx
   exact hH q g hq hx (eb ▸ hs.head y ey)
  ·rw [if_neg e] at hx
   exact hs.apart i q y (by omega) hq ey (eb ▸ hx)
 ·obtain ⟨hx, _⟩ := hx
  obtain ⟨hx', _⟩ := hx'
  by_cases e : i = n <;> by_cases e' : i' = n
  ·rw [if_pos e] at hx; rw [if_pos e'] at hx'
   exact ⟨e.trans e'.symm, hE q q' x hq hq' hx hx'⟩
  ·rw [if_pos e] at hx; rw [if_neg e'] at hx'
   exact absurd (hs.sub i' q' x (by omega) hq' hx') (hH q x hq hx)
  ·rw [if_neg e] at hx; rw [if_pos e'] at hx'
   exact absurd (hs.sub i q x (by omega) hq hx) (hH q' x hq' hx')
  ·rw [if_neg e] at hx; rw [if_neg e'] at hx'
   exact hs.each i q i' q' x (by omega) hq (by omega) hq' hx hx'
 ·by_cases e : i = n
  ·simp only [e, if_true]
   refine (hv q hq).cut.frame fun x hx hlt => hb' x hlt fun y ey eb => hH q x hq hx.1 (eb ▸ hs.head y ey)
  ·simp only [e, if_false]
   refine (hr i q (by omega) hq).cut.frame fun x hx hlt => hb' x hlt fun y ey eb => hs.apart i q y (by omega) hq ey (eb ▸ hx.1)
theorem wpList_snoc {P : Program} (w : World) {ops : Array Oper} {rest : List Oper} {o : Oper} {a : Act} {Q : Exit → Act → World → Prop} (hgd : o.guard = none) (s x : Operand) (t : TypeId)
  (ho : o.op = .call { callee := .builtin .append, args := #[s, x], argTypes := #[t, t] })
  (B : Nat) (e : TypeId) (i : TypeInfo) (z : Value) (size bytes : Nat) (ht : P.underlying t = some (.slice e)) (hi : P.info? e = some i) (hz : i.zero = some z)
  (hsize : i.size = size) (hby : i.bytes = bytes) (hzs : z.cells.size = size) (hsz : 0 < size)
  (v : Value) (n : Nat) (f : Nat → Nat → Dt) (F : Nat → Prop) (hs : a.eval s = v) (hO : Ow w B (.lst e size n f) v F)
  (ad : Addr) (c : Nat) (vs : List Value) (hx : a.eval x = .slice (some ad) 1 c) (hl : vs.length = size) (hvs : ∀ j u, vs[j]? = some u → w.cell? (ad.add j) = some u) (h1 : ∀ u ∈ vs, u.oneCell' = true)
  (d : Nat → Dt) (H : Nat → Nat → Prop) (hv : ∀ q, q < size → Ow w B (d q) (vs.getD q undef) (H q)) (hH : ∀ q x, q < size → H q x → ¬ F x) (hE : ∀ q q' x, q < size → q' < size → H q x → H q' x → q = q')
  (h63 : n + 1 ≤ maxLen) (hbytes : (n + 1) * bytes ≤ 140737488355328) (hB : B ≤ w.heap.size)
  (h : ∀ g cap w', Ow w' B (.lst e size (n + 1) (fun i => if i = n then d else f i)) (.slice (some ⟨g, 0, none⟩) (n + 1) cap) (fun x => x < w'.heap.size ∧ ((F x ∨ ∃ q, q < size ∧ H q x) ∨ w.heap.size ≤ x)) → Below B w w' → (∀ x, x < w.heap.size → ¬ F x → w'.heap[x]? = w.heap[x]?) → wpList P ops Q rest (a.put o.dst (.slice (some ⟨g, 0, none⟩) (n + 1) cap)) w') :
  wpList P ops Q (o :: rest) a w := by
 obtain ⟨a0, cp, cc, G, rfl, hown, hsep, hr⟩ := hO
 refine wpList_append_lies w hgd s x t ho B e i z size bytes ht hi hz hsize hby hzs hsz _ n _ hs hown ad 1 c vs hx (by omega) hvs h1 (by omega) h63 hbytes hB w.heap.size rfl fun g cap w' h2 h3 h4 h5 => ?_
 have hsz' := h3.size
 have hk : ∀ k, (Value.slice a0 n cp).ownBlock = some k → F k ∧ B ≤ k ∧ k < w.heap.size := fun k ek => by
  cases a0 with
  | none => cases ek
  | some y =>
   have e1 : y.block = k := by injection ek
   subst e1
   exact ⟨hsep.head y rfl, World.ownsRow.lt hown y.block rfl⟩
 refine h g cap w' (ow_snoc hsz hsep hr hl hv hH hE h2 h3 h4 (fun x hx hlt => ⟨by omega, .inl (.inl hx)⟩) (fun q x hq hx hlt => ⟨by omega, .inl (.inr ⟨q, hq, hx⟩)⟩) ⟨h5, ?_⟩) ((Below.refl _ _).grown h3 hB fun k ek => (hk k ek).2.1) fun x hx hn => h3.block x hx fun ek => hn (hk x ek.symm).1
 rcases h4 with h4 | h4
 ·exact .inl (.inl (hk g h4).1)
 ·exact .inr (by omega)
def pf (F : Nat → Nat → Nat) (N : Nat → Nat) : Nat → (Nat → Nat) × Nat
 | 0 => (Gp.one, 1)
 | i + 1 => (Gp.cv (pf F N i).1 (F i) (pf F N i).2, Gp.tl (Gp.cv (pf F N i).1 (F i) (pf F N i).2) ((pf F N i).2 + N i))
end Go.Proofs.YtaenoiffamgcfaaGreatDoor
