/- Data in memory, whatever its depth: a value of one cell, or a list of structs whose cells are data. What is read of it, what of it is ours, and what a turn of other blocks leaves of it. Definitions and lemmas; no walk. -/
import Derived.Test.YtkcnpkkihbpnmaaDoorD10
import Derived.Deep.MidRow
namespace Go.Proofs.YtkcnpkkihbpnmaaDoor
set_option maxRecDepth 2000
open Go.ChangeShapes Go.WideShapes Go.ChangeAt Go.RowKit

/-- A datum: one cell without memory behind it, or n structs of sz cells. -/
inductive Dt where
  | val (v : Value)
  | lst (t : TypeId) (sz n : Nat) (f : Nat → Nat → Dt)
/-- What is read at a value is that datum. -/
def Rd (w : World) : Dt → Value → Prop
  | .val v, x => x = v
  | .lst _ sz n f, x => ∃ a cap, x = .slice a n cap ∧ ∀ i, i < n → ∃ b off, a = some ⟨b, off, none⟩ ∧ ∀ q, q < sz → ∃ y, w.cell? ⟨b, off + (i * sz + q), none⟩ = some y ∧ Rd w (f i q) y
theorem Rd.keep {w w' : World} (h : ∀ (p : Addr) (v : Value), w.cell? p = some v → w'.cell? p = some v) : ∀ {d : Dt} {v : Value}, Rd w d v → Rd w' d v := by
  intro d
  induction d with
  | val v => intro x hx; exact hx
  | lst t sz n f ih =>
    rintro x ⟨a, cap, e, hx⟩
    refine ⟨a, cap, e, fun i hi => ?_⟩
    obtain ⟨b, off, ea, hq⟩ := hx i hi
    refine ⟨b, off, ea, fun q hq' => ?_⟩
    obtain ⟨y, hy, hr⟩ := hq q hq'
    exact ⟨y, h _ _ hy, ih i q hr⟩
theorem Rd.below {w w' : World} {d : Dt} {v : Value} (h : Rd w d v) (hb : Below w.heap.size w w') : Rd w' d v :=
  h.keep fun _ _ hp => (hb.cell (block_lt_of_cell hp)).trans hp
theorem Rd.drew {w : World} {d : Dt} {v : Value} (h : Rd w d v) : Rd w.drew d v := Rd.keep (w' := w.drew) (fun p _ hp => by simpa using hp) h
theorem Rd.congr {w : World} {t t' : TypeId} {sz n : Nat} {f f' : Nat → Nat → Dt} {v : Value} (h : Rd w (.lst t sz n f) v) (e : ∀ i q, i < n → q < sz → f i q = f' i q) : Rd w (.lst t' sz n f') v := by
  obtain ⟨a, cap, ex, hx⟩ := h
  refine ⟨a, cap, ex, fun i hi => ?_⟩
  obtain ⟨b, off, ea, hq⟩ := hx i hi
  refine ⟨b, off, ea, fun q hq' => ?_⟩
  obtain ⟨y, hy, hr⟩ := hq q hq'
  exact ⟨y, hy, by rw [← e i q hi hq']; exact hr⟩
theorem Rd.nil (w : World) (t : TypeId) (sz : Nat) (f : Nat → Nat → Dt) (a : Option Addr) (cap : Nat) : Rd w (.lst t sz 0 f) (.slice a 0 cap) := ⟨a, cap, rfl, fun _ hi => absurd hi (Nat.not_lt_zero _)⟩
theorem Rd.shape {w : World} {t : TypeId} {sz n : Nat} {f : Nat → Nat → Dt} {v : Value} (h : Rd w (.lst t sz n f) v) : ∃ a cap, v = .slice a n cap := by
  obtain ⟨a, cap, e, _⟩ := h
  exact ⟨a, cap, e⟩
/-- One struct of a list that is read. -/
theorem Rd.row {w : World} {t : TypeId} {sz n : Nat} {f : Nat → Nat → Dt} {a : Option Addr} {cap : Nat} (h : Rd w (.lst t sz n f) (.slice a n cap)) {i : Nat} (hi : i < n) :
    ∃ (b off : Nat) (y : Nat → Value), a = some ⟨b, off, none⟩ ∧ (∀ q, q < sz → w.cell? ⟨b, off + (i * sz + q), none⟩ = some (y q)) ∧ ∀ q, q < sz → Rd w (f i q) (y q) := by
  obtain ⟨a', cap', e, hx⟩ := h
  cases e
  obtain ⟨b, off, ea, hq⟩ := hx i hi
  have : ∀ q, ∃ y, q < sz → w.cell? ⟨b, off + (i * sz + q), none⟩ = some y ∧ Rd w (f i q) y := fun q => by
    by_cases h : q < sz
    · obtain ⟨y, hy⟩ := hq q h; exact ⟨y, fun _ => hy⟩
    · exact ⟨undef, fun h' => absurd h' h⟩
  obtain ⟨y, hy⟩ := Classical.axiomOfChoice this
  exact ⟨b, off, y, ea, fun q hq => (hy q hq).1, fun q hq => (hy q hq).2⟩
/-- Texts and numbers as data. -/
def txD (m : Nat) (S : Nat → ByteArray) : Dt := .lst 9 1 m fun i _ => .val (.string (S i))
def inD (zs : List Int) : Dt := .lst 3 1 zs.length fun i _ => .val (.int .i64 (zs.getD i 0))
theorem rd_txt {w : World} {m : Nat} {S : Nat → ByteArray} {a : Option Addr} {cap : Nat} : Rd w (txD m S) (.slice a m cap) ↔ TxtAt w a m S := by
  constructor
  · rintro ⟨a', cap', e, hx⟩ i hi
    cases e
    obtain ⟨b, off, ea, hq⟩ := hx i hi
    obtain ⟨y, hy, hr⟩ := hq 0 (by omega)
    exact ⟨b, off, ea, by rw [show off + i = off + (i * 1 + 0) by omega, hy]; exact congrArg some hr⟩
  · intro h
    refine ⟨a, cap, rfl, fun i hi => ?_⟩
    obtain ⟨b, off, ea, hc⟩ := h i hi
    refine ⟨b, off, ea, fun q hq => ?_⟩
    obtain rfl : q = 0 := by omega
    exact ⟨_, by rw [show off + (i * 1 + 0) = off + i by omega]; exact hc, rfl⟩
theorem rd_ints {w : World} {zs : List Int} {a : Option Addr} {cap : Nat} : Rd w (inD zs) (.slice a zs.length cap) ↔ IntsAt w a zs.length zs := by
  constructor
  · rintro ⟨a', cap', e, hx⟩
    refine ⟨rfl, fun i hi => ?_⟩
    cases e
    obtain ⟨b, off, ea, hq⟩ := hx i hi
    obtain ⟨y, hy, hr⟩ := hq 0 (by omega)
    exact ⟨b, off, ea, by rw [show off + i = off + (i * 1 + 0) by omega, hy]; exact congrArg some hr⟩
  · intro h
    refine ⟨a, cap, rfl, fun i hi => ?_⟩
    obtain ⟨b, off, ea, hc⟩ := h.2 i hi
    refine ⟨b, off, ea, fun q hq => ?_⟩
    obtain rfl : q = 0 := by omega
    exact ⟨_, by rw [show off + (i * 1 + 0) = off + i by omega]; exact hc, rfl⟩

/-! ### Data that is ours -/
/-- The cells of n structs of sz. -/
def cL (sz : Nat) (c : Nat → Nat → Value) (n : Nat) : List Value := (List.range (n * sz)).map fun j => c (j / sz) (j % sz)
theorem cL_len (sz : Nat) (c : Nat → Nat → Value) (n : Nat) : (cL sz c n).length = n * sz := by simp [cL]
theorem mid_lt {sz n i q : Nat} (hi : i < n) (hq : q < sz) : i * sz + q < n * sz := by
  have := Nat.mul_le_mul_right sz (show i + 1 ≤ n by omega)
  rw [Nat.succ_mul] at this
  omega
theorem mid_div {sz i q : Nat} (hq : q < sz) : (i * sz + q) / sz = i := by rw [Nat.mul_comm, Nat.mul_add_div (by omega), Nat.div_eq_of_lt hq, Nat.add_zero]
theorem mid_mod {sz i q : Nat} (hq : q < sz) : (i * sz + q) % sz = q := by rw [Nat.mul_comm, Nat.mul_add_mod, Nat.mod_eq_of_lt hq]
theorem mid_eq {sz j : Nat} : j / sz * sz + j % sz = j := by rw [Nat.mul_comm]; exact Nat.div_add_mod j sz
theorem cL_get (sz : Nat) (c : Nat → Nat → Value) (n i q : Nat) (hi : i < n) (hq : q < sz) : (cL sz c n)[i * sz + q]? = some (c i q) := by
  simp [cL, mid_lt hi hq, mid_div hq, mid_mod hq]
theorem cL_congr {sz : Nat} {c c' : Nat → Nat → Value} {n : Nat} (h : ∀ i q, i < n → q < sz → c i q = c' i q) : cL sz c n = cL sz c' n := by
  unfold cL
  refine List.map_congr_left fun j hj => ?_
  have hj' : j < n * sz := by simpa using hj
  have hs : 0 < sz := by
    rcases Nat.eq_zero_or_pos sz with e | e
    · subst e; omega
    · exact e
  exact h _ _ ((Nat.div_lt_iff_lt_mul hs).2 hj') (Nat.mod_lt _ hs)
theorem cL_set (sz : Nat) (c : Nat → Nat → Value) (n i q : Nat) (v : Value) (hi : i < n) (hq : q < sz) : (cL sz c n).set (i * sz + q) v = cL sz (fun i' q' => if i' = i ∧ q' = q then v else c i' q') n := by
  apply List.ext_getElem?
  intro j
  rw [List.getElem?_set]
  by_cases hj : j < n * sz
  · by_cases e : i * sz + q = j
    · subst e
      rw [if_pos rfl, if_pos (by rw [cL_len]; exact hj), cL_get _ _ _ _ _ hi hq]
      simp
    · rw [if_neg e]
      have hs : 0 < sz := by omega
      have h1 := cL_get sz c n (j / sz) (j % sz) ((Nat.div_lt_iff_lt_mul hs).2 hj) (Nat.mod_lt _ hs)
      have h2 := cL_get sz (fun i' q' => if i' = i ∧ q' = q then v else c i' q') n (j / sz) (j % sz) ((Nat.div_lt_iff_lt_mul hs).2 hj) (Nat.mod_lt _ hs)
      rw [mid_eq] at h1 h2
      rw [h1, h2, if_neg (fun ⟨e1, e2⟩ => e (by rw [← e1, ← e2]; exact mid_eq))]
  · rw [if_neg (fun e => hj (by rw [← e]; exact mid_lt hi hq))]
    rw [List.getElem?_eq_none (by rw [cL_len]; omega), List.getElem?_eq_none (by rw [cL_len]; omega)]
/-- What lies apart: the blocks of each cell's own memory, and the row's block. -/
structure Sep (a : Option Addr) (n sz : Nat) (G : Nat → Nat → Nat → Prop) (F : Nat → Prop) : Prop where
  head : ∀ x, a = some x → F x.block
  sub : ∀ i q g, i < n → q < sz → G i q g → F g
  apart : ∀ i q x, i < n → q < sz → a = some x → ¬ G i q x.block
  each : ∀ i q i' q' g, i < n → q < sz → i' < n → q' < sz → G i q g → G i' q' g → i = i' ∧ q = q'
/-- A datum that is ours: all its blocks are from B on and lie in F; no two lists of it share memory. -/
def Ow (w : World) (B : Nat) : Dt → Value → (Nat → Prop) → Prop
  | .val v, x, _ => x = v
  | .lst t sz n f, x, F => ∃ a cap c G, x = .slice a n cap ∧ w.ownsRow B t sz (.slice a n cap) n (cL sz c n) ∧ Sep a n sz G F ∧ ∀ i q, i < n → q < sz → Ow w B (f i q) (c i q) (G i q)
theorem Ow.mono {w : World} {B : Nat} {d : Dt} {v : Value} {F F' : Nat → Prop} (h : Ow w B d v F) (hF : ∀ g, F g → F' g) : Ow w B d v F' := by
  cases d with
  | val v => exact h
  | lst t sz n f =>
    obtain ⟨a, cap, c, G, e, ho, hs, hr⟩ := h
    exact ⟨a, cap, c, G, e, ho, ⟨fun x hx => hF _ (hs.head x hx), fun i q g hi hq hg => hF _ (hs.sub i q g hi hq hg), hs.apart, hs.each⟩, hr⟩
theorem Ow.frame {w w' : World} {B : Nat} : ∀ {d : Dt} {v : Value} {F : Nat → Prop}, Ow w B d v F → (∀ g, F g → g < w.heap.size → w'.heap[g]? = w.heap[g]?) → Ow w' B d v F := by
  intro d
  induction d with
  | val v => intro x F hx _; exact hx
  | lst t sz n f ih =>
    rintro x F ⟨a, cap, c, G, e, ho, hs, hr⟩ hF
    refine ⟨a, cap, c, G, e, ⟨ho.1, ?_⟩, hs, fun i q hi hq => ih i q (hr i q hi hq) fun g hg => hF g (hs.sub i q g hi hq hg)⟩
    rcases ho.2 with h' | ⟨g, cap', cur, h1, h2, h3, h4⟩
    · exact .inl h'
    · refine .inr ⟨g, cap', cur, h1, h2, ?_, h4⟩
      have hx : a = some ⟨g, 0, none⟩ := by cases h1; rfl
      rw [hF g (hs.head _ hx) (Array.getElem?_eq_some_iff.1 h3).1]
      exact h3
theorem Ow.below {w w' : World} {B : Nat} {d : Dt} {v : Value} {F : Nat → Prop} (h : Ow w B d v F) (hb : Below w.heap.size w w') : Ow w' B d v F := h.frame fun g _ hg => hb.block g hg
theorem Ow.base {w : World} {B B' : Nat} : ∀ {d : Dt} {v : Value} {F : Nat → Prop}, Ow w B d v F → B' ≤ B → Ow w B' d v F := by
  intro d
  induction d with
  | val v => intro x F hx _; exact hx
  | lst t sz n f ih =>
    rintro x F ⟨a, cap, c, G, e, ho, hs, hr⟩ hB
    exact ⟨a, cap, c, G, e, own_base ho hB, hs, fun i q hi hq => ih i q (hr i q hi hq) hB⟩
theorem Ow.rd {w : World} {B : Nat} : ∀ {d : Dt} {v : Value} {F : Nat → Prop}, Ow w B d v F → Rd w d v := by
  intro d
  induction d with
  | val v => intro x F hx; exact hx
  | lst t sz n f ih =>
    rintro x F ⟨a, cap, c, G, e, ho, hs, hr⟩
    refine ⟨a, cap, e, fun i hi => ?_⟩
    rcases own_shape ho with ⟨_, h0, _⟩ | ⟨g, cur, rfl, _⟩
    · omega
    · refine ⟨g, 0, rfl, fun q hq => ⟨c i q, ?_, ih i q (hr i q hi hq)⟩⟩
      rw [Nat.zero_add, ho.cellAt _ (mid_lt hi hq)]
      exact cL_get _ _ _ _ _ hi hq
/-- Its blocks that are there lie from B on: F may be cut down to these. -/
theorem Ow.cut {w : World} {B : Nat} : ∀ {d : Dt} {v : Value} {F : Nat → Prop}, Ow w B d v F → Ow w B d v (fun g => F g ∧ B ≤ g ∧ g < w.heap.size) := by
  intro d
  induction d with
  | val v => intro x F hx; exact hx
  | lst t sz n f ih =>
    rintro x F ⟨a, cap, c, G, e, ho, hs, hr⟩
    refine ⟨a, cap, c, fun i q g => G i q g ∧ B ≤ g ∧ g < w.heap.size, e, ho, ⟨fun x hx => ⟨hs.head x hx, ?_⟩, fun i q g hi hq hg => ⟨hs.sub i q g hi hq hg.1, hg.2⟩, fun i q x hi hq hx hg => hs.apart i q x hi hq hx hg.1, fun i q i' q' g hi hq hi' hq' hg hg' => hs.each i q i' q' g hi hq hi' hq' hg.1 hg'.1⟩, fun i q hi hq => ih i q (hr i q hi hq)⟩
    subst hx
    exact World.ownsRow.lt ho x.block rfl
theorem Ow.nil (w : World) (B : Nat) (t : TypeId) (sz : Nat) (f : Nat → Nat → Dt) (F : Nat → Prop) : Ow w B (.lst t sz 0 f) (.slice none 0 0) F :=
  ⟨none, 0, fun _ _ => undef, fun _ _ _ => False, rfl, by have := World.ownsRow_nil w B t sz; simpa [cL] using this, ⟨fun _ e => (nomatch e), fun _ _ _ hi => absurd hi (Nat.not_lt_zero _), fun _ _ _ hi => absurd hi (Nat.not_lt_zero _), fun _ _ _ _ _ hi => absurd hi (Nat.not_lt_zero _)⟩, fun _ _ hi => absurd hi (Nat.not_lt_zero _)⟩
theorem Ow.congr {w : World} {B : Nat} {t : TypeId} {sz n : Nat} {f f' : Nat → Nat → Dt} {v : Value} {F : Nat → Prop} (h : Ow w B (.lst t sz n f) v F) (e : ∀ i q, i < n → q < sz → f i q = f' i q) : Ow w B (.lst t sz n f') v F := by
  obtain ⟨a, cap, c, G, ex, ho, hs, hr⟩ := h
  exact ⟨a, cap, c, G, ex, ho, hs, fun i q hi hq => by rw [← e i q hi hq]; exact hr i q hi hq⟩
/-- Rows of texts and of numbers that are ours. -/
theorem ow_txt {w : World} {B : Nat} {a : Option Addr} {m cap : Nat} {S : Nat → ByteArray} {F : Nat → Prop} (h : OwnT w B a m cap S) (hF : ∀ x, a = some x → F x.block) : Ow w B (txD m S) (.slice a m cap) F := by
  refine ⟨a, cap, fun i _ => .string (S i), fun _ _ _ => False, rfl, ?_, ⟨hF, fun _ _ _ _ _ h => h.elim, fun _ _ _ _ _ _ h => h, fun _ _ _ _ _ _ _ _ _ h => h.elim⟩, fun _ _ _ _ => rfl⟩
  have : cL 1 (fun i _ => Value.string (S i)) m = sL S m := by unfold cL sL; simp
  rw [this]
  exact h
/-- Only blocks of F have turned; new ones may have come. -/
structure Trn (w w' : World) (F : Nat → Prop) : Prop where
  os : w'.os = w.os
  tape : w'.tape = w.tape
  output : w'.output = w.output
  size : w.heap.size ≤ w'.heap.size
  block : ∀ j, j < w.heap.size → ¬ F j → w'.heap[j]? = w.heap[j]?
theorem Trn.refl (w : World) (F : Nat → Prop) : Trn w w F := ⟨rfl, rfl, rfl, Nat.le_refl _, fun _ _ _ => rfl⟩
theorem Trn.trans {w w1 w2 : World} {F : Nat → Prop} (h : Trn w w1 F) (h2 : Trn w1 w2 F) : Trn w w2 F :=
  ⟨h2.os.trans h.os, h2.tape.trans h.tape, h2.output.trans h.output, Nat.le_trans h.size h2.size, fun j hj hn => (h2.block j (Nat.lt_of_lt_of_le hj h.size) hn).trans (h.block j hj hn)⟩
theorem Trn.mono {w w' : World} {F F' : Nat → Prop} (h : Trn w w' F) (hF : ∀ g, F g → F' g) : Trn w w' F' := ⟨h.os, h.tape, h.output, h.size, fun j hj hn => h.block j hj fun hf => hn (hF j hf)⟩
theorem Trn.below {w w' : World} {F : Nat → Prop} {s : Nat} (h : Trn w w' F) (hs : ∀ g, F g → s ≤ g) (hw : s ≤ w.heap.size) : Below s w w' := ⟨h.os, h.tape, h.output, h.size, fun j hj => h.block j (by omega) fun hf => by have := hs j hf; omega⟩
theorem Trn.set (w : World) {F : Nat → Prop} {g : Nat} (j : Nat) (v : Value) (hF : F g) : Trn w (w.setCell ⟨g, j, none⟩ v) F := ⟨rfl, rfl, rfl, by simp, fun i _ hi => heap_setCell_other w ⟨g, j, none⟩ i v (fun e => by subst e; exact hi hF)⟩
theorem Ow.turned {w w' : World} {B : Nat} {d : Dt} {v : Value} {F F' : Nat → Prop} (h : Ow w B d v F) (ht : Trn w w' F') (hd : ∀ g, F g → ¬ F' g) : Ow w' B d v F := h.frame fun g hg hl => ht.block g hl (hd g hg)
/-- An interval of blocks. -/
def rng (a b g : Nat) : Prop := a ≤ g ∧ g < b
end Go.Proofs.YtkcnpkkihbpnmaaDoor
