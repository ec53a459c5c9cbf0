/- Data in memory, whatever its depth: a value of one cell, or a list of structs whose cells are data. What is read of it, what of it is ours, and what a turn of other blocks leaves of it. Definitions and lemmas; no walk. -/
import Derived.Test.YtcnigfejpfcfaaaJ1
import Derived.Deep.MidRow
import Derived.Test.YtcnigfejpfcfaaaJ12
import Derived.Deep.RegionHeld3
import Derived.Test.YtcnigfejpfcfaaaJ8
namespace Go.Proofs.Ytcnigfejpfcfaaa
set_option maxRecDepth 2000
open Go.ChangeShapes Go.WideShapes Go.ChangeAt Go.RowKit

/-- A datum: one cell without memory behind it, or n structs of sz cells. -/
inductive Dt where
  | val (v : Value)
  | lst (t : TypeId) (sz n : Nat) (f : Nat → Nat → Dt)
/-- What is read at a value is that datum. -/
def Rd (w : World) : Dt → Value → Prop
  | .val v, x => x = v
  | .lst _ sz n f, x => ∃ a cap, x = .slice a n cap ∧ ∀ i, i < n → ∃ b off, a = some ⟨b, off, none⟩ ∧ ∀ q, q < sz → ∃ y, w.cell? ⟨b, off + (i * sz + q), none⟩ = some y ∧ Rd w (f i q) y
theorem Rd.keep {w w' : World} (h : ∀ (p : Addr) (v : Value), w.cell? p = some v → w'.cell? p = some v) : ∀ {d : Dt} {v : Value}, Rd w d v → Rd w' d v := by
  intro d
  induction d with
  | val v => intro x hx; exact hx
  | lst t sz n f ih =>
    rintro x ⟨a, cap, e, hx⟩
    refine ⟨a, cap, e, fun i hi => ?_⟩
    obtain ⟨b, off, ea, hq⟩ := hx i hi
    refine ⟨b, off, ea, fun q hq' => ?_⟩
    obtain ⟨y, hy, hr⟩ := hq q hq'
    exact ⟨y, h _ _ hy, ih i q hr⟩
theorem Rd.below {w w' : World} {d : Dt} {v : Value} (h : Rd w d v) (hb : Below w.heap.size w w') : Rd w' d v :=
  h.keep fun _ _ hp => (hb.cell (block_lt_of_cell hp)).trans hp
theorem Rd.drew {w : World} {d : Dt} {v : Value} (h : Rd w d v) : Rd w.drew d v := Rd.keep (w' := w.drew) (fun p _ hp => by simpa using hp) h
theorem Rd.congr {w : World} {t t' : TypeId} {sz n : Nat} {f f' : Nat → Nat → Dt} {v : Value} (h : Rd w (.lst t sz n f) v) (e : ∀ i q, i < n → q < sz → f i q = f' i q) : Rd w (.lst t' sz n f') v := by
  obtain ⟨a, cap, ex, hx⟩ := h
  refine ⟨a, cap, ex, fun i hi => ?_⟩
  obtain ⟨b, off, ea, hq⟩ := hx i hi
  refine ⟨b, off, ea, fun q hq' => ?_⟩
  obtain ⟨y, hy, hr⟩ := hq q hq'
  exact ⟨y, hy, by rw [← e i q hi hq']; exact hr⟩
theorem Rd.nil (w : World) (t : TypeId) (sz : Nat) (f : Nat → Nat → Dt) (a : Option Addr) (cap : Nat) : Rd w (.lst t sz 0 f) (.slice a 0 cap) := ⟨a, cap, rfl, fun _ hi => absurd hi (Nat.not_lt_zero _)⟩
theorem Rd.shape {w : World} {t : TypeId} {sz n : Nat} {f : Nat → Nat → Dt} {v : Value} (h : Rd w (.lst t sz n f) v) : ∃ a cap, v = .slice a n cap := by
  obtain ⟨a, cap, e, _⟩ := h
  exact ⟨a, cap, e⟩
/-- One struct of a list that is read. -/
theorem Rd.row {w : World} {t : TypeId} {sz n : Nat} {f : Nat → Nat → Dt} {a : Option Addr} {cap : Nat} (h : Rd w (.lst t sz n f) (.slice a n cap)) {i : Nat} (hi : i < n) :
    ∃ (b off : Nat) (y : Nat → Value), a = some ⟨b, off, none⟩ ∧ (∀ q, q < sz → w.cell? ⟨b, off + (i * sz + q), none⟩ = some (y q)) ∧ ∀ q, q < sz → Rd w (f i q) (y q) := by
  obtain ⟨a', cap', e, hx⟩ := h
  cases e
  obtain ⟨b, off, ea, hq⟩ := hx i hi
  have : ∀ q, ∃ y, q < sz → w.cell? ⟨b, off + (i * sz + q), none⟩ = some y ∧ Rd w (f i q) y := fun q => by
    by_cases h : q < sz
    · obtain ⟨y, hy⟩ := hq q h; exact ⟨y, fun _ => hy⟩
    · exact ⟨undef, fun h' => absurd h' h⟩
  obtain ⟨y, hy⟩ := Classical.axiomOfChoice this
  exact ⟨b, off, y, ea, fun q hq => (hy q hq).1, fun q hq => (hy q hq).2⟩
/-- Texts and numbers as data. -/
def txD (m : Nat) (S : Nat → ByteArray) : Dt := .lst 9 1 m fun i _ => .val (.string (S i))
def inD (zs : List Int) : Dt := .lst 3 1 zs.length fun i _ => .val (.int .i64 (zs.getD i 0))
theorem rd_txt {w : World} {m : Nat} {S : Nat → ByteArray} {a : Option Addr} {cap : Nat} : Rd w (txD m S) (.slice a m cap) ↔ TxtAt w a m S := by
  constructor
  · rintro ⟨a', cap', e, hx⟩ i hi
    cases e
    obtain ⟨b, off, ea, hq⟩ := hx i hi
    obtain ⟨y, hy, hr⟩ := hq 0 (by omega)
    exact ⟨b, off, ea, by rw [show off + i = off + (i * 1 + 0) by omega, hy]; exact congrArg some hr⟩
  · intro h
    refine ⟨a, cap, rfl, fun i hi => ?_⟩
    obtain ⟨b, off, ea, hc⟩ := h i hi
    refine ⟨b, off, ea, fun q hq => ?_⟩
    obtain rfl : q = 0 := by omega
    exact ⟨_, by rw [show off + (i * 1 + 0) = off + i by omega]; exact hc, rfl⟩
theorem rd_ints {w : World} {zs : List Int} {a : Option Addr} {cap : Nat} : Rd w (inD zs) (.slice a zs.length cap) ↔ IntsAt w a zs.length zs := by
  constructor
  · rintro ⟨a', cap', e, hx⟩
    refine ⟨rfl, fun i hi => ?_⟩
    cases e
    obtain ⟨b, off, ea, hq⟩ := hx i hi
    obtain ⟨y, hy, hr⟩ := hq 0 (by omega)
    exact ⟨b, off, ea, by rw [show off + i = off + (i * 1 + 0) by omega, hy]; exact congrArg some hr⟩
  · intro h
    refine ⟨a, cap, rfl, fun i hi => ?_⟩
    obtain ⟨b, off, ea, hc⟩ := h.2 i hi
    refine ⟨b, off, ea, fun q hq => ?_⟩
    obtain rfl : q = 0 := by omega
    exact ⟨_, by rw [show off + (i * 1 + 0) = off + i by omega]; exact hc, rfl⟩

/-! ### Data that is ours -/
/-- The cells of n structs of sz. -/
def cL (sz : Nat) (c : Nat → Nat → Value) (n : Nat) : List Value := (List.range (n * sz)).map fun j => c (j / sz) (j % sz)
theorem cL_len (sz : Nat) (c : Nat → Nat → Value) (n : Nat) : (cL sz c n).length = n * sz := by simp [cL]
theorem mid_lt {sz n i q : Nat} (hi : i < n) (hq : q < sz) : i * sz + q < n * sz := by
  have := Nat.mul_le_mul_right sz (show i + 1 ≤ n by omega)
  rw [Nat.succ_mul] at this
  omega
theorem mid_div {sz i q : Nat} (hq : q < sz) : (i * sz + q) / sz = i := by rw [Nat.mul_comm, Nat.mul_add_div (by omega), Nat.div_eq_of_lt hq, Nat.add_zero]
theorem mid_mod {sz i q : Nat} (hq : q < sz) : (i * sz + q) % sz = q := by rw [Nat.mul_comm, Nat.mul_add_mod, Nat.mod_eq_of_lt hq]
theorem mid_eq {sz j : Nat} : j / sz * sz + j % sz = j := by rw [Nat.mul_comm]; exact Nat.div_add_mod j sz
theorem cL_get (sz : Nat) (c : Nat → Nat → Value) (n i q : Nat) (hi : i < n) (hq : q < sz) : (cL sz c n)[i * sz + q]? = some (c i q) := by
  simp [cL, mid_lt hi hq, mid_div hq, mid_mod hq]
theorem cL_congr {sz : Nat} {c c' : Nat → Nat → Value} {n : Nat} (h : ∀ i q, i < n → q < sz → c i q = c' i q) : cL sz c n = cL sz c' n := by
  unfold cL
  refine List.map_congr_left fun j hj => ?_
  have hj' : j < n * sz := by simpa using hj
  have hs : 0 < sz := by
    rcases Nat.eq_zero_or_pos sz with e | e
    · subst e; omega
    · exact e
  exact h _ _ ((Nat.div_lt_iff_lt_mul hs).2 hj') (Nat.mod_lt _ hs)
theorem cL_set (sz : Nat) (c : Nat → Nat → Value) (n i q : Nat) (v : Value) (hi : i < n) (hq : q < sz) : (cL sz c n).set (i * sz + q) v = cL sz (fun i' q' => if i' = i ∧ q' = q then v else c i' q') n := by
  apply List.ext_getElem?
  intro j
  rw [List.getElem?_set]
  by_cases hj : j < n * sz
  · by_cases e : i * sz + q = j
    · subst e
      rw [if_pos rfl, if_pos (by rw [cL_len]; exact hj), cL_get _ _ _ _ _ hi hq]
      simp
    · rw [if_neg e]
      have hs : 0 < sz := by omega
      have h1 := cL_get sz c n (j / sz) (j % sz) ((Nat.div_lt_iff_lt_mul hs).2 hj) (Nat.mod_lt _ hs)
      have h2 := cL_get sz (fun i' q' => if i' = i ∧ q' = q then v else c i' q') n (j / sz) (j % sz) ((Nat.div_lt_iff_lt_mul hs).2 hj) (Nat.mod_lt _ hs)
      rw [mid_eq] at h1 h2
      rw [h1, h2, if_neg (fun ⟨e1, e2⟩ => e (by rw [← e1, ← e2]; exact mid_eq))]
  · rw [if_neg (fun e => hj (by rw [← e]; exact mid_lt hi hq))]
    rw [List.getElem?_eq_none (by rw [cL_len]; omega), List.getElem?_eq_none (by rw [cL_len]; omega)]
/-- What lies apart: the blocks of each cell's own memory, and the row's block. -/
structure Sep (a : Option Addr) (n sz : Nat) (G : Nat → Nat → Nat → Prop) (F : Nat → Prop) : Prop where
  head : ∀ x, a = some x → F x.block
  sub : ∀ i q g, i < n → q < sz → G i q g → F g
  apart : ∀ i q x, i < n → q < sz → a = some x → ¬ G i q x.block
  each : ∀ i q i' q' g, i < n → q < sz → i' < n → q' < sz → G i q g → G i' q' g → i = i' ∧ q = q'
/-- A datum that is ours: all its blocks are from B on and lie in F; no two lists of it share memory. -/
def Ow (w : World) (B : Nat) : Dt → Value → (Nat → Prop) → Prop
  | .val v, x, _ => x = v
  | .lst t sz n f, x, F => ∃ a cap c G, x = .slice a n cap ∧ w.ownsRow B t sz (.slice a n cap) n (cL sz c n) ∧ Sep a n sz G F ∧ ∀ i q, i < n → q < sz → Ow w B (f i q) (c i q) (G i q)
theorem Ow.mono {w : World} {B : Nat} {d : Dt} {v : Value} {F F' : Nat → Prop} (h : Ow w B d v F) (hF : ∀ g, F g → F' g) : Ow w B d v F' := by
  cases d with
  | val v => exact h
  | lst t sz n f =>
    obtain ⟨a, cap, c, G, e, ho, hs, hr⟩ := h
    exact ⟨a, cap, c, G, e, ho, ⟨fun x hx => hF _ (hs.head x hx), fun i q g hi hq hg => hF _ (hs.sub i q g hi hq hg), hs.apart, hs.each⟩, hr⟩
theorem Ow.frame {w w' : World} {B : Nat} : ∀ {d : Dt} {v : Value} {F : Nat → Prop}, Ow w B d v F → (∀ g, F g → g < w.heap.size → w'.heap[g]? = w.heap[g]?) → Ow w' B d v F := by
  intro d
  induction d with
  | val v => intro x F hx _; exact hx
  | lst t sz n f ih =>
    rintro x F ⟨a, cap, c, G, e, ho, hs, hr⟩ hF
    refine ⟨a, cap, c, G, e, ⟨ho.1, ?_⟩, hs, fun i q hi hq => ih i q (hr i q hi hq) fun g hg => hF g (hs.sub i q g hi hq hg)⟩
    rcases ho.2 with h' | ⟨g, cap', cur, h1, h2, h3, h4⟩
    · exact .inl h'
    · refine .inr ⟨g, cap', cur, h1, h2, ?_, h4⟩
      have hx : a = some ⟨g, 0, none⟩ := by cases h1; rfl
      rw [hF g (hs.head _ hx) (Array.getElem?_eq_some_iff.1 h3).1]
      exact h3
theorem Ow.below {w w' : World} {B : Nat} {d : Dt} {v : Value} {F : Nat → Prop} (h : Ow w B d v F) (hb : Below w.heap.size w w') : Ow w' B d v F := h.frame fun g _ hg => hb.block g hg
theorem Ow.base {w : World} {B B' : Nat} : ∀ {d : Dt} {v : Value} {F : Nat → Prop}, Ow w B d v F → B' ≤ B → Ow w B' d v F := by
  intro d
  induction d with
  | val v => intro x F hx _; exact hx
  | lst t sz n f ih =>
    rintro x F ⟨a, cap, c, G, e, ho, hs, hr⟩ hB
    exact ⟨a, cap, c, G, e, own_base ho hB, hs, fun i q hi hq => ih i q (hr i q hi hq) hB⟩
theorem Ow.rd {w : World} {B : Nat} : ∀ {d : Dt} {v : Value} {F : Nat → Prop}, Ow w B d v F → Rd w d v := by
  intro d
  induction d with
  | val v => intro x F hx; exact hx
  | lst t sz n f ih =>
    rintro x F ⟨a, cap, c, G, e, ho, hs, hr⟩
    refine ⟨a, cap, e, fun i hi => ?_⟩
    rcases own_shape ho with ⟨_, h0, _⟩ | ⟨g, cur, rfl, _⟩
    · omega
    · refine ⟨g, 0, rfl, fun q hq => ⟨c i q, ?_, ih i q (hr i q hi hq)⟩⟩
      rw [Nat.zero_add, ho.cellAt _ (mid_lt hi hq)]
      exact cL_get _ _ _ _ _ hi hq
/-- Its blocks that are there lie from B on: F may be cut down to these. -/
theorem Ow.cut {w : World} {B : Nat} : ∀ {d : Dt} {v : Value} {F : Nat → Prop}, Ow w B d v F → Ow w B d v (fun g => F g ∧ B ≤ g ∧ g < w.heap.size) := by
  intro d
  induction d with
  | val v => intro x F hx; exact hx
  | lst t sz n f ih =>
    rintro x F ⟨a, cap, c, G, e, ho, hs, hr⟩
    refine ⟨a, cap, c, fun i q g => G i q g ∧ B ≤ g ∧ g < w.heap.size, e, ho, ⟨fun x hx => ⟨hs.head x hx, ?_⟩, fun i q g hi hq hg => ⟨hs.sub i q g hi hq hg.1, hg.2⟩, fun i q x hi hq hx hg => hs.apart i q x hi hq hx hg.1, fun i q i' q' g hi hq hi' hq' hg hg' => hs.each i q i' q' g hi hq hi' hq' hg.1 hg'.1⟩, fun i q hi hq => ih i q (hr i q hi hq)⟩
    subst hx
    exact World.ownsRow.lt ho x.block rfl
theorem Ow.nil (w : World) (B : Nat) (t : TypeId) (sz : Nat) (f : Nat → Nat → Dt) (F : Nat → Prop) : Ow w B (.lst t sz 0 f) (.slice none 0 0) F :=
  ⟨none, 0, fun _ _ => undef, fun _ _ _ => False, rfl, by have := World.ownsRow_nil w B t sz; simpa [cL] using this, ⟨fun _ e => (nomatch e), fun _ _ _ hi => absurd hi (Nat.not_lt_zero _), fun _ _ _ hi => absurd hi (Nat.not_lt_zero _), fun _ _ _ _ _ hi => absurd hi (Nat.not_lt_zero _)⟩, fun _ _ hi => absurd hi (Nat.not_lt_zero _)⟩
theorem Ow.congr {w : World} {B : Nat} {t : TypeId} {sz n : Nat} {f f' : Nat → Nat → Dt} {v : Value} {F : Nat → Prop} (h : Ow w B (.lst t sz n f) v F) (e : ∀ i q, i < n → q < sz → f i q = f' i q) : Ow w B (.lst t sz n f') v F := by
  obtain ⟨a, cap, c, G, ex, ho, hs, hr⟩ := h
  exact ⟨a, cap, c, G, ex, ho, hs, fun i q hi hq => by rw [← e i q hi hq]; exact hr i q hi hq⟩
/-- Rows of texts and of numbers that are ours. -/
theorem ow_txt {w : World} {B : Nat} {a : Option Addr} {m cap : Nat} {S : Nat → ByteArray} {F : Nat → Prop} (h : OwnT w B a m cap S) (hF : ∀ x, a = some x → F x.block) : Ow w B (txD m S) (.slice a m cap) F := by
  refine ⟨a, cap, fun i _ => .string (S i), fun _ _ _ => False, rfl, ?_, ⟨hF, fun _ _ _ _ _ h => h.elim, fun _ _ _ _ _ _ h => h, fun _ _ _ _ _ _ _ _ _ h => h.elim⟩, fun _ _ _ _ => rfl⟩
  have : cL 1 (fun i _ => Value.string (S i)) m = sL S m := by unfold cL sL; simp
  rw [this]
  exact h
theorem txt_ow {w : World} {B : Nat} {v : Value} {m : Nat} {S : Nat → ByteArray} {F : Nat → Prop} (h : Ow w B (txD m S) v F) : ∃ a cap, v = .slice a m cap ∧ OwnT w B a m cap S ∧ ∀ x, a = some x → F x.block := by
  obtain ⟨a, cap, c, G, e, ho, hs, hr⟩ := h
  refine ⟨a, cap, e, ?_, hs.head⟩
  have : cL 1 c m = sL S m := by
    unfold cL sL
    simp only [Nat.mul_one, Nat.div_one]
    refine List.map_congr_left fun j hj => ?_
    exact hr j (j % 1) (List.mem_range.1 hj) (by omega)
  unfold OwnT
  rw [← this]
  exact ho
/-- Only blocks of F have turned; new ones may have come. -/
structure Trn (w w' : World) (F : Nat → Prop) : Prop where
  os : w'.os = w.os
  tape : w'.tape = w.tape
  output : w'.output = w.output
  size : w.heap.size ≤ w'.heap.size
  block : ∀ j, j < w.heap.size → ¬ F j → w'.heap[j]? = w.heap[j]?
theorem Trn.refl (w : World) (F : Nat → Prop) : Trn w w F := ⟨rfl, rfl, rfl, Nat.le_refl _, fun _ _ _ => rfl⟩
theorem Trn.trans {w w1 w2 : World} {F : Nat → Prop} (h : Trn w w1 F) (h2 : Trn w1 w2 F) : Trn w w2 F :=
  ⟨h2.os.trans h.os, h2.tape.trans h.tape, h2.output.trans h.output, Nat.le_trans h.size h2.size, fun j hj hn => (h2.block j (Nat.lt_of_lt_of_le hj h.size) hn).trans (h.block j hj hn)⟩
theorem Trn.mono {w w' : World} {F F' : Nat → Prop} (h : Trn w w' F) (hF : ∀ g, F g → F' g) : Trn w w' F' := ⟨h.os, h.tape, h.output, h.size, fun j hj hn => h.block j hj fun hf => hn (hF j hf)⟩
theorem Trn.ofBelow {w w' : World} (F : Nat → Prop) (h : Below w.heap.size w w') : Trn w w' F := ⟨h.os, h.tape, h.output, h.size, fun j hj _ => h.block j hj⟩
theorem Trn.below {w w' : World} {F : Nat → Prop} {s : Nat} (h : Trn w w' F) (hs : ∀ g, F g → s ≤ g) (hw : s ≤ w.heap.size) : Below s w w' := ⟨h.os, h.tape, h.output, h.size, fun j hj => h.block j (by omega) fun hf => by have := hs j hf; omega⟩
theorem Trn.set (w : World) {F : Nat → Prop} {g : Nat} (j : Nat) (v : Value) (hF : F g) : Trn w (w.setCell ⟨g, j, none⟩ v) F := ⟨rfl, rfl, rfl, by simp, fun i _ hi => heap_setCell_other w ⟨g, j, none⟩ i v (fun e => by subst e; exact hi hF)⟩
theorem Trn.ofM {w w' : World} {B E : Nat} {F : Nat → Prop} (h : TurnM w w' B E) (hF : ∀ g, B ≤ g → g < E → F g) : Trn w w' F := ⟨h.os, h.tape, h.output, h.size, fun j hj hn => h.block j hj (by
  by_cases h1 : j < B
  · exact .inl h1
  · by_cases h2 : E ≤ j
    · exact .inr h2
    · exact absurd (hF j (by omega) (by omega)) hn)⟩
theorem Ow.turned {w w' : World} {B : Nat} {d : Dt} {v : Value} {F F' : Nat → Prop} (h : Ow w B d v F) (ht : Trn w w' F') (hd : ∀ g, F g → ¬ F' g) : Ow w' B d v F := h.frame fun g hg hl => ht.block g hl (hd g hg)
/-- An interval of blocks. -/
def rng (a b g : Nat) : Prop := a ≤ g ∧ g < b
end Go.Proofs.Ytcnigfejpfcfaaa

/- Data in memory: a struct of a list stored anew; a new list. Definitions and lemmas; no walk. -/
namespace Go.Proofs.Ytcnigfejpfcfaaa
set_option maxRecDepth 2000
open Go.ChangeShapes Go.WideShapes Go.ChangeAt Go.RowKit

theorem heap_setCells_other (b : Nat) : ∀ (vs : List Value) (o : Nat) (w : World) (j : Nat), j ≠ b → (w.setCells b o vs).heap[j]? = w.heap[j]?
  | [], _, _, _, _ => rfl
  | v :: r, o, w, j, h => by rw [World.setCells, heap_setCells_other b r (o + 1) _ j h]; exact heap_setCell_other w ⟨b, o, none⟩ j v h
theorem size_setCells (b : Nat) : ∀ (vs : List Value) (o : Nat) (w : World), (w.setCells b o vs).heap.size = w.heap.size
  | [], _, _ => rfl
  | v :: r, o, w => by rw [World.setCells, size_setCells b r (o + 1) _]; simp
theorem os_setCells (b : Nat) : ∀ (vs : List Value) (o : Nat) (w : World), (w.setCells b o vs).os = w.os ∧ (w.setCells b o vs).tape = w.tape ∧ (w.setCells b o vs).output = w.output
  | [], _, _ => ⟨rfl, rfl, rfl⟩
  | v :: r, o, w => by rw [World.setCells]; exact os_setCells b r (o + 1) _
theorem below_setCells {B b : Nat} {w0 w : World} (h : Below B w0 w) (hB : B ≤ b) (o : Nat) (vs : List Value) : Below B w0 (w.setCells b o vs) := by
  obtain ⟨h1, h2, h3⟩ := os_setCells b vs o w
  exact h.trans ⟨h1, h2, h3, by rw [size_setCells]; exact Nat.le_refl _, fun j hj => heap_setCells_other b vs o w j (by omega)⟩
theorem trn_setCells (w : World) {F : Nat → Prop} {b : Nat} (hF : F b) (o : Nat) (vs : List Value) : Trn w (w.setCells b o vs) F := by
  obtain ⟨h1, h2, h3⟩ := os_setCells b vs o w
  exact ⟨h1, h2, h3, by rw [size_setCells]; exact Nat.le_refl _, fun j _ hn => heap_setCells_other b vs o w j (fun e => by subst e; exact hn hF)⟩
theorem own_setCells {B t sz g n cap i : Nat} (hi : i < n) : ∀ (vs : List Value) (q0 : Nat) (w : World) (c : Nat → Nat → Value), q0 + vs.length = sz → w.ownsRow B t sz (.slice (some ⟨g, 0, none⟩) n cap) n (cL sz c n) →
    (w.setCells g (i * sz + q0) vs).ownsRow B t sz (.slice (some ⟨g, 0, none⟩) n cap) n (cL sz (fun i' q' => if i' = i ∧ q0 ≤ q' then vs.getD (q' - q0) undef else c i' q') n) := by
  intro vs
  induction vs with
  | nil =>
    intro q0 w c hq ho
    have e : cL sz (fun i' q' => if i' = i ∧ q0 ≤ q' then ([] : List Value).getD (q' - q0) undef else c i' q') n = cL sz c n := cL_congr fun i' q' _ hq' => if_neg (fun h => by have := h.2; simp at hq; omega)
    rw [e]
    exact ho
  | cons v r ih =>
    intro q0 w c hq ho
    rw [World.setCells]
    have hq0 : q0 < sz := by simp at hq; omega
    have h1 := (World.ownsRow.stored ho (i * sz + q0) v).1
    rw [cL_set _ _ _ _ _ _ hi hq0] at h1
    have h2 := ih (q0 + 1) _ _ (by simp at hq; omega) h1
    rw [Nat.add_assoc]
    have e : cL sz (fun i' q' => if i' = i ∧ q0 ≤ q' then (v :: r).getD (q' - q0) undef else c i' q') n = cL sz (fun i' q' => if i' = i ∧ q0 + 1 ≤ q' then r.getD (q' - (q0 + 1)) undef else if i' = i ∧ q' = q0 then v else c i' q') n := cL_congr fun i' q' _ hq' => by
      by_cases ei : i' = i
      · by_cases e1 : q' = q0
        · subst e1
          rw [if_pos ⟨ei, Nat.le_refl _⟩, if_neg (by omega), if_pos ⟨ei, rfl⟩, Nat.sub_self]
          rfl
        · by_cases e2 : q0 ≤ q'
          · obtain ⟨k, rfl⟩ : ∃ k, q' = q0 + 1 + k := ⟨q' - (q0 + 1), by omega⟩
            rw [if_pos ⟨ei, e2⟩, if_pos ⟨ei, by omega⟩, show q0 + 1 + k - q0 = k + 1 by omega, show q0 + 1 + k - (q0 + 1) = k by omega]
            rfl
          · rw [if_neg (by omega), if_neg (by omega), if_neg (by omega)]
      · simp [ei]
    rw [e]
    exact h2
/-- A struct of a list stored anew. -/
theorem Ow.store {w : World} {B t sz g n cap i : Nat} {f : Nat → Nat → Dt} {F F' : Nat → Prop} {vs : List Value} {d : Nat → Dt} {H : Nat → Nat → Prop} (h : Ow w B (.lst t sz n f) (.slice (some ⟨g, 0, none⟩) n cap) F) (hi : i < n) (hl : vs.length = sz)
    (hv : ∀ q, q < sz → Ow w B (d q) (vs.getD q undef) (H q)) (hH : ∀ q x, q < sz → H q x → ¬ F x) (hE : ∀ q q' x, q < sz → q' < sz → H q x → H q' x → q = q') (hF : ∀ x, F x → F' x) (hF' : ∀ q x, q < sz → H q x → F' x) :
    Ow (w.setCells g (i * sz) vs) B (.lst t sz n (fun i' => if i' = i then d else f i')) (.slice (some ⟨g, 0, none⟩) n cap) F' := by
  obtain ⟨a, cap', c, G, e, ho, hs, hr⟩ := h
  cases e
  have hg : F g := hs.head _ rfl
  have e0 := own_setCells hi vs 0 w c (by omega) ho
  rw [Nat.add_zero] at e0
  refine ⟨some ⟨g, 0, none⟩, cap, _, fun i' q' => if i' = i then H q' else G i' q', rfl, e0, ⟨fun x hx => by cases hx; exact hF _ hg, fun i' q' x hi' hq' hx => ?_, fun i' q' x hi' hq' ex hx => ?_, fun i1 q1 i2 q2 x h1 h2 h3 h4 hx hx' => ?_⟩, fun i' q' hi' hq' => ?_⟩
  · by_cases ei : i' = i
    · simp only [ei, if_true] at hx; exact hF' _ _ hq' hx
    · simp only [ei, if_false] at hx; exact hF _ (hs.sub _ _ _ hi' hq' hx)
  · cases ex
    by_cases ei : i' = i
    · simp only [ei, if_true] at hx; exact hH _ _ hq' hx hg
    · simp only [ei, if_false] at hx; exact hs.apart _ _ _ hi' hq' rfl hx
  · by_cases e1 : i1 = i
    · by_cases e2 : i2 = i
      · simp only [e1, e2, if_true] at hx hx'
        exact ⟨by omega, hE _ _ _ h2 h4 hx hx'⟩
      · simp only [e1, e2, if_true, if_false] at hx hx'
        exact absurd (hs.sub _ _ _ h3 h4 hx') (hH _ _ h2 hx)
    · by_cases e2 : i2 = i
      · simp only [e1, e2, if_true, if_false] at hx hx'
        exact absurd (hs.sub _ _ _ h1 h2 hx) (hH _ _ h4 hx')
      · simp only [e1, e2, if_false] at hx hx'
        exact hs.each _ _ _ _ _ h1 h2 h3 h4 hx hx'
  · have keep : ∀ {dd : Dt} {v : Value} {K : Nat → Prop}, Ow w B dd v K → (∀ x, K x → x ≠ g) → Ow (w.setCells g (i * sz) vs) B dd v K := fun ho hk => ho.frame fun x hx _ => heap_setCells_other g vs _ w x (hk x hx)
    by_cases ei : i' = i
    · simp only [ei, true_and, Nat.zero_le, if_true, Nat.sub_zero]
      exact keep (hv q' hq') (fun x hx e => by subst e; exact hH _ _ hq' hx hg)
    · simp only [ei, false_and, if_false]
      exact keep (hr i' q' hi' hq') (fun x hx e => by subst e; exact hs.apart _ _ _ hi' hq' rfl hx)
/-- A new list of structs whose cells lead to nothing. -/
theorem ow_made {w : World} {B t sz g n cap : Nat} {F : Nat → Prop} {zs : List Value} {f : Nat → Dt} (ho : w.ownsRow B t sz (.slice (some ⟨g, 0, none⟩) n cap) n (cL sz (fun _ q => zs.getD q undef) n)) (hz : ∀ q, q < sz → Ow w B (f q) (zs.getD q undef) (fun _ => False)) (hF : F g) : Ow w B (.lst t sz n (fun _ => f)) (.slice (some ⟨g, 0, none⟩) n cap) F :=
  ⟨_, cap, _, fun _ _ _ => False, rfl, ho, ⟨fun x e => by cases e; exact hF, fun _ _ _ _ _ h => h.elim, fun _ _ _ _ _ _ h => h, fun _ _ _ _ _ _ _ _ _ h => h.elim⟩, fun _ q _ hq => hz q hq⟩
theorem made_cL {zs : List Value} {n : Nat} (hz : 0 < zs.length) : (madeCells zs.toArray (n * zs.length)).toList = cL zs.length (fun _ q => zs.getD q undef) n := by
  apply List.ext_getElem?
  intro j
  by_cases hj : j < n * zs.length
  · have h1 := cL_get zs.length (fun _ q => zs.getD q undef) n (j / zs.length) (j % zs.length) ((Nat.div_lt_iff_lt_mul hz).2 hj) (Nat.mod_lt _ hz)
    rw [mid_eq] at h1
    rw [h1]
    have hl := Nat.mod_lt j hz
    simp [madeCells, hj, hl]
  · rw [List.getElem?_eq_none (by simp [size_madeCells]; omega), List.getElem?_eq_none (by rw [cL_len]; omega)]
end Go.Proofs.Ytcnigfejpfcfaaa

/- Slots, nodes and sayings by plain values, and as the machine holds them. Definitions and lemmas; no walk. -/
namespace Go.Proofs.Ytcnigfejpfcfaaa
set_option maxRecDepth 2000
open Go.ChangeShapes Go.WideShapes Go.ChangeAt Go.RowKit

/-- A slot by plain values. -/
structure Sl where
  r : ByteArray
  p : Pc
  h : Bool
  e : Bool
  d : Bool
  o : Bool
  ze : List Int
  zr : List Int
/-- The cells of a piece, of a slot, of a saying. -/
def pcD (p : Pc) : Nat → Dt
  | 0 => .val (.string p.r)
  | 1 => .val (.int .i64 p.k)
  | 2 => .val (.int .i64 p.n)
  | 3 => .val (.int .i64 p.i)
  | 4 => .val (.string p.b)
  | _ => txD p.m p.S
def slD (s : Sl) : Nat → Dt
  | 0 => .val (.string s.r)
  | 1 => .val (.string s.p.r)
  | 2 => .val (.int .i64 s.p.k)
  | 3 => .val (.int .i64 s.p.n)
  | 4 => .val (.int .i64 s.p.i)
  | 5 => .val (.string s.p.b)
  | 6 => txD s.p.m s.p.S
  | 7 => .val (.bool s.h)
  | 8 => .val (.bool s.e)
  | 9 => .val (.bool s.d)
  | 10 => .val (.bool s.o)
  | 11 => inD s.ze
  | _ => inD s.zr
abbrev slC (s : Sl) (v6 v11 v12 : Value) : Array Value := #[.string s.r, .string s.p.r, .int .i64 s.p.k, .int .i64 s.p.n, .int .i64 s.p.i, .string s.p.b, v6, .bool s.h, .bool s.e, .bool s.d, .bool s.o, v11, v12]
abbrev slV (s : Sl) (v6 v11 v12 : Value) : Value := .agg (slC s v6 v11 v12)
/-- A saying by plain values. -/
structure Sy where
  k : Int
  f : Int
  t : Int
  r : ByteArray
  p : Pc
def syD (s : Sy) : Nat → Dt
  | 0 => .val (.int .i64 s.k)
  | 1 => .val (.int .i64 s.f)
  | 2 => .val (.int .i64 s.t)
  | 3 => .val (.string s.r)
  | 4 => .val (.string s.p.r)
  | 5 => .val (.int .i64 s.p.k)
  | 6 => .val (.int .i64 s.p.n)
  | 7 => .val (.int .i64 s.p.i)
  | 8 => .val (.string s.p.b)
  | _ => txD s.p.m s.p.S
abbrev syC (s : Sy) (v : Value) : Array Value := #[.int .i64 s.k, .int .i64 s.f, .int .i64 s.t, .string s.r, .string s.p.r, .int .i64 s.p.k, .int .i64 s.p.n, .int .i64 s.p.i, .string s.p.b, v]
abbrev syV (s : Sy) (v : Value) : Value := .agg (syC s v)
/-- A struct's value by its cells. -/
abbrev ag13 (y : Nat → Value) : Value := .agg #[y 0, y 1, y 2, y 3, y 4, y 5, y 6, y 7, y 8, y 9, y 10, y 11, y 12]
abbrev ag10 (y : Nat → Value) : Value := .agg #[y 0, y 1, y 2, y 3, y 4, y 5, y 6, y 7, y 8, y 9]
/-- Lists of slots and of sayings. -/
def slsD (n : Nat) (S : Nat → Sl) : Dt := .lst 42 13 n fun i => slD (S i)
def sysD (n : Nat) (S : Nat → Sy) : Dt := .lst 76 10 n fun i => syD (S i)
/-- A slot that is read, with its cells. -/
theorem slot_row {w : World} {n : Nat} {S : Nat → Sl} {a : Option Addr} {cap : Nat} (h : Rd w (slsD n S) (.slice a n cap)) {i : Nat} (hi : i < n) :
    ∃ (b off : Nat) (y : Nat → Value) (a6 a11 a12 : Option Addr) (c6 c11 c12 : Nat), a = some ⟨b, off, none⟩ ∧ (∀ q, q < 13 → w.cell? ⟨b, off + (i * 13 + q), none⟩ = some (y q)) ∧ ag13 y = slV (S i) (.slice a6 (S i).p.m c6) (.slice a11 (S i).ze.length c11) (.slice a12 (S i).zr.length c12) ∧ TxtAt w a6 (S i).p.m (S i).p.S ∧ IntsAt w a11 (S i).ze.length (S i).ze ∧ IntsAt w a12 (S i).zr.length (S i).zr := by
  obtain ⟨b, off, y, ea, hc, hr⟩ := h.row hi
  obtain ⟨a6, c6, e6⟩ := (hr 6 (by omega)).shape
  have r6 : Rd w (txD (S i).p.m (S i).p.S) (y 6) := hr 6 (by omega)
  rw [e6] at r6
  obtain ⟨a11, c11, e11⟩ := (hr 11 (by omega)).shape
  have r11 : Rd w (inD (S i).ze) (y 11) := hr 11 (by omega)
  rw [e11] at r11
  obtain ⟨a12, c12, e12⟩ := (hr 12 (by omega)).shape
  have r12 : Rd w (inD (S i).zr) (y 12) := hr 12 (by omega)
  rw [e12] at r12
  have g0 := hr 0 (by omega)
  have g1 := hr 1 (by omega)
  have g2 := hr 2 (by omega)
  have g3 := hr 3 (by omega)
  have g4 := hr 4 (by omega)
  have g5 := hr 5 (by omega)
  have g7 := hr 7 (by omega)
  have g8 := hr 8 (by omega)
  have g9 := hr 9 (by omega)
  have g10 := hr 10 (by omega)
  simp only [Rd, slD] at g0 g1 g2 g3 g4 g5 g7 g8 g9 g10
  exact ⟨b, off, y, a6, a11, a12, c6, c11, c12, ea, hc, by simp only [ag13, slV, slC, g0, g1, g2, g3, g4, g5, g7, g8, g9, g10, e6, e11, e12], rd_txt.1 r6, rd_ints.1 r11, rd_ints.1 r12⟩
/-- A saying that is read, with its cells. -/
theorem say_row {w : World} {n : Nat} {S : Nat → Sy} {a : Option Addr} {cap : Nat} (h : Rd w (sysD n S) (.slice a n cap)) {i : Nat} (hi : i < n) :
    ∃ (b off : Nat) (y : Nat → Value) (a9 : Option Addr) (c9 : Nat), a = some ⟨b, off, none⟩ ∧ (∀ q, q < 10 → w.cell? ⟨b, off + (i * 10 + q), none⟩ = some (y q)) ∧ ag10 y = syV (S i) (.slice a9 (S i).p.m c9) ∧ TxtAt w a9 (S i).p.m (S i).p.S := by
  obtain ⟨b, off, y, ea, hc, hr⟩ := h.row hi
  obtain ⟨a9, c9, e9⟩ := (hr 9 (by omega)).shape
  have r9 : Rd w (txD (S i).p.m (S i).p.S) (y 9) := hr 9 (by omega)
  rw [e9] at r9
  have g0 := hr 0 (by omega)
  have g1 := hr 1 (by omega)
  have g2 := hr 2 (by omega)
  have g3 := hr 3 (by omega)
  have g4 := hr 4 (by omega)
  have g5 := hr 5 (by omega)
  have g6 := hr 6 (by omega)
  have g7 := hr 7 (by omega)
  have g8 := hr 8 (by omega)
  simp only [Rd, syD] at g0 g1 g2 g3 g4 g5 g6 g7 g8
  exact ⟨b, off, y, a9, c9, ea, hc, by simp only [ag10, syV, syC, g0, g1, g2, g3, g4, g5, g6, g7, g8, e9], rd_txt.1 r9⟩
theorem range13 {w : World} {b o : Nat} {y : Nat → Value} (h : ∀ q, q < 13 → w.cell? ⟨b, o + q, none⟩ = some (y q)) : w.rangeAt b o [y 0, y 1, y 2, y 3, y 4, y 5, y 6, y 7, y 8, y 9, y 10, y 11, y 12] := fun j v hv => by
  have hj : j < 13 := (List.getElem?_eq_some_iff.1 hv).1
  rw [h j hj, ← hv]
  match j, hj with
  | 0, _ | 1, _ | 2, _ | 3, _ | 4, _ | 5, _ | 6, _ | 7, _ | 8, _ | 9, _ | 10, _ | 11, _ | 12, _ => rfl
theorem range10 {w : World} {b o : Nat} {y : Nat → Value} (h : ∀ q, q < 10 → w.cell? ⟨b, o + q, none⟩ = some (y q)) : w.rangeAt b o [y 0, y 1, y 2, y 3, y 4, y 5, y 6, y 7, y 8, y 9] := fun j v hv => by
  have hj : j < 10 := (List.getElem?_eq_some_iff.1 hv).1
  rw [h j hj, ← hv]
  match j, hj with
  | 0, _ | 1, _ | 2, _ | 3, _ | 4, _ | 5, _ | 6, _ | 7, _ | 8, _ | 9, _ => rfl
theorem Try.infoSl : (Try.prog.info? 42).map (·.size) = some 13 := by kernel_rfl
theorem Try.infoNd : (Try.prog.info? 24).map (·.size) = some 3 := by kernel_rfl
theorem Try.infoSy : (Try.prog.info? 76).map (·.size) = some 10 := by kernel_rfl
end Go.Proofs.Ytcnigfejpfcfaaa

/- Slots, lists of slots and nodes, compared by the exact laws: equal ones. Conditions: no list is longer than 2^20. -/
namespace Go.Proofs.Ytcnigfejpfcfaaa
set_option maxRecDepth 2000
open Go.ChangeShapes Go.WideShapes Go.ChangeAt Go.RowKit

/-- The lists of a slot are of a size that the laws bear. -/
def SlS (s : Sl) : Prop := s.p.m ≤ 1048576 ∧ s.ze.length ≤ 1048576 ∧ s.zr.length ≤ 1048576
set_option maxHeartbeats 4000000 in
theorem eqSl_same (s : Sl) (a6 b6 a11 b11 a12 b12 : Option Addr) (c6 d6 c11 d11 c12 d12 : Nat) (w : World) (h6 : TxtAt w a6 s.p.m s.p.S) (k6 : TxtAt w b6 s.p.m s.p.S) (h11 : IntsAt w a11 s.ze.length s.ze) (k11 : IntsAt w b11 s.ze.length s.ze) (h12 : IntsAt w a12 s.zr.length s.zr) (k12 : IntsAt w b12 s.zr.length s.zr) (hs : SlS s) :
    Calls Try.prog 18 #[slV s (.slice a6 s.p.m c6) (.slice a11 s.ze.length c11) (.slice a12 s.zr.length c12), slV s (.slice b6 s.p.m d6) (.slice b11 s.ze.length d11) (.slice b12 s.zr.length d12)] w fun e w' => e = .returned (.bool true) ∧ Below w.heap.size w w' := by
  obtain ⟨r, p, fh, fe, fd, fo, ze, zr⟩ := s
  obtain ⟨rr, kk, nn, ii, bb, m, S⟩ := p
  obtain ⟨hm, he, hz⟩ := hs
  simp only at h6 k6 h11 k11 h12 k12 hm he hz
  obtain ⟨A, HA⟩ : ∃ x, Hid (x = w.heap.size) := ⟨_, rfl⟩
  obtain ⟨B, HB⟩ : ∃ x, Hid (x = w.heap.size + 1) := ⟨_, rfl⟩
  obtain ⟨w0, HW0⟩ : ∃ x, Hid (x = (w.alloc (.cells (slC ⟨r, ⟨rr, kk, nn, ii, bb, m, S⟩, fh, fe, fd, fo, ze, zr⟩ (.slice a6 m c6) (.slice a11 ze.length c11) (.slice a12 zr.length c12)) 42)).alloc (.cells (slC ⟨r, ⟨rr, kk, nn, ii, bb, m, S⟩, fh, fe, fd, fo, ze, zr⟩ (.slice b6 m d6) (.slice b11 ze.length d11) (.slice b12 zr.length d12)) 42)) := ⟨_, rfl⟩
  have RA : Hid (Row w0 A 42 (slC ⟨r, ⟨rr, kk, nn, ii, bb, m, S⟩, fh, fe, fd, fo, ze, zr⟩ (.slice a6 m c6) (.slice a11 ze.length c11) (.slice a12 zr.length c12))) := by
    show Row _ _ _ _
    rw [HW0.out, HA.out]
    exact Row.alloc (Row.new w _ _) _
  have RB : Hid (Row w0 B 42 (slC ⟨r, ⟨rr, kk, nn, ii, bb, m, S⟩, fh, fe, fd, fo, ze, zr⟩ (.slice b6 m d6) (.slice b11 ze.length d11) (.slice b12 zr.length d12))) := by
    show Row _ _ _ _
    rw [HW0.out, HB.out]
    have := Row.new (w.alloc (.cells (slC ⟨r, ⟨rr, kk, nn, ii, bb, m, S⟩, fh, fe, fd, fo, ze, zr⟩ (.slice a6 m c6) (.slice a11 ze.length c11) (.slice a12 zr.length c12)) 42)) (slC ⟨r, ⟨rr, kk, nn, ii, bb, m, S⟩, fh, fe, fd, fo, ze, zr⟩ (.slice b6 m d6) (.slice b11 ze.length d11) (.slice b12 zr.length d12)) 42
    simpa using this
  have hb0 : Below w.heap.size w w0 := by rw [HW0.out]; exact ((Below.refl _ _).alloc (Nat.le_refl _) _).alloc (by simp) _
  have KB0 : Hid (Below w.heap.size w w0) := hb0
  have KP : Hid _ := eqPc_same rr kk nn ii bb a6 b6 m c6 d6 S w0 (h6.below hb0) (k6.below hb0) hm
  have KE : Hid (∀ W, Below w0.heap.size w0 W → Calls Try.prog 42 #[.slice a11 ze.length c11, .slice b11 ze.length d11] W fun e w' => e = .returned (.bool true) ∧ Below W.heap.size W w') := fun W hW => eqIntS_same a11 b11 ze.length c11 d11 ze W ((h11.below hb0).below hW) ((k11.below hb0).below hW) he
  have KZ : Hid (∀ W, Below w0.heap.size w0 W → Calls Try.prog 42 #[.slice a12 zr.length c12, .slice b12 zr.length d12] W fun e w' => e = .returned (.bool true) ∧ Below W.heap.size W w') := fun W hW => eqIntS_same a12 b12 zr.length c12 d12 zr W ((h12.below hb0).below hW) ((k12.below hb0).below hW) hz
  generalize ze.length = le at *
  generalize zr.length = lr at *
  have f0 : (r.toList != r.toList) = false := by simp
  have f0' := ba_beq r
  have f1 : (fh != fh) = false := by simp
  have f2 : (fe != fe) = false := by simp
  have f3 : (fd != fd) = false := by simp
  have f4 : (fo != fo) = false := by simp
  clear h6 k6 h11 k11 h12 k12 hm he hz hb0
  go_enter Try.func18, Try.ntmps18
  go_wp2_with fail
  rw [← HW0.out, ← HB.out, ← HA.out]
  refine Calls.mono KP.out ?_
  rintro e w1 ⟨rfl, b1⟩
  have RA1 := RA.out.below b1 RA.out.lt
  have RB1 := RB.out.below b1 RB.out.lt
  have x7 := RA1.cell 7
  have x8 := RA1.cell 8
  have x9 := RA1.cell 9
  have x10 := RA1.cell 10
  have x11 := RA1.cell 11
  have y7 := RB1.cell 7
  have y8 := RB1.cell 8
  have y9 := RB1.cell 9
  have y10 := RB1.cell 10
  have y11 := RB1.cell 11
  simp at x7 x8 x9 x10 x11 y7 y8 y9 y10 y11
  have B1 : Hid (Below w0.heap.size w0 w1) := b1
  have HA1 : Hid (Row w1 A 42 _ ∧ Row w1 B 42 _) := ⟨RA1, RB1⟩
  clear RA RB RA1 RB1 b1 KP
  go_wp2_with fail
  refine Calls.mono (KE.out _ B1.out) ?_
  rintro e w2 ⟨rfl, b2⟩
  have RA2 := HA1.out.1.below b2 HA1.out.1.lt
  have RB2 := HA1.out.2.below b2 HA1.out.2.lt
  have B2 : Hid (Below w0.heap.size w0 w2) := below2 B1.out b2
  have z12 := RA2.cell 12
  have u12 := RB2.cell 12
  simp at z12 u12
  clear x7 x8 x9 x10 x11 y7 y8 y9 y10 y11 RA2 RB2 HA1 b2 KE
  go_wp2_with fail
  refine Calls.mono (KZ.out _ B2.out) ?_
  rintro e w3 ⟨rfl, b3⟩
  have B3 : Hid (Below w.heap.size w w3) := below2 KB0.out (below2 B2.out b3)
  clear b3 z12 u12
  go_wp2
  go_ret
  exact ⟨rfl, B3.out⟩

/-- The cells of one struct of each of two lists, in every world that grew out of the first. -/
theorem one_row {w : World} {b off i sz : Nat} {y : Nat → Value} (W : World) (hW : Below w.heap.size w W) (h : ∀ q, q < sz + 1 → w.cell? ⟨b, off + (i * (sz + 1) + q), none⟩ = some (y q)) :
    W.cell? ⟨b, off + i * (sz + 1), none⟩ = some (y 0) ∧ (∀ q, q < sz + 1 → W.cell? ⟨b, off + i * (sz + 1) + q, none⟩ = some (y q)) := by
  have k : ∀ q, q < sz + 1 → W.cell? ⟨b, off + i * (sz + 1) + q, none⟩ = some (y q) := fun q hq => by
    have := h q hq
    rw [← Nat.add_assoc] at this
    exact (hW.cell (p := ⟨b, off + i * (sz + 1) + q, none⟩) (block_lt_of_cell this)).trans this
  exact ⟨k 0 (by omega), k⟩
theorem two_rows {w : World} {b off b' off' i sz : Nat} {y y' : Nat → Value} (W : World) (hW : Below w.heap.size w W) (h : ∀ q, q < sz + 1 → w.cell? ⟨b, off + (i * (sz + 1) + q), none⟩ = some (y q)) (h' : ∀ q, q < sz + 1 → w.cell? ⟨b', off' + (i * (sz + 1) + q), none⟩ = some (y' q)) :
    W.cell? ⟨b, off + i * (sz + 1), none⟩ = some (y 0) ∧ (∀ q, q < sz + 1 → W.cell? ⟨b, off + i * (sz + 1) + q, none⟩ = some (y q)) ∧ W.cell? ⟨b', off' + i * (sz + 1), none⟩ = some (y' 0) ∧ (∀ q, q < sz + 1 → W.cell? ⟨b', off' + i * (sz + 1) + q, none⟩ = some (y' q)) := by
  obtain ⟨h1, h2⟩ := one_row W hW h
  obtain ⟨h3, h4⟩ := one_row W hW h'
  exact ⟨h1, h2, h3, h4⟩
set_option maxHeartbeats 4000000 in
theorem eqSls_same (a b : Option Addr) (n ca cb : Nat) (S : Nat → Sl) (w : World) (ha : Rd w (slsD n S) (.slice a n ca)) (hb : Rd w (slsD n S) (.slice b n cb)) (hn : n ≤ 1048576) (hs : ∀ i, i < n → SlS (S i)) :
    Calls Try.prog 29 #[.slice a n ca, .slice b n cb] w fun e w' => e = .returned (.bool true) ∧ Below w.heap.size w w' := by
  have KH : Hid (Rd w (slsD n S) (.slice a n ca) ∧ Rd w (slsD n S) (.slice b n cb)) := ⟨ha, hb⟩
  have HS : Hid (∀ i, i < n → SlS (S i)) := hs
  have hnn : ((n : Int) != (n : Int)) = false := by simp
  clear ha hb hs
  go_enter Try.func29, Try.ntmps29
  go_wp2
  go_loopw [5] (fun vi wr => ∃ c : Nat, c ≤ n ∧ vi = .int .i64 (c : Int) ∧ Below w.heap.size w wr) (fun vi _ => n - (intOf vi).toNat)
  case atStart => exact ⟨0, Nat.zero_le _, rfl, Below.refl _ _⟩
  case round =>
    obtain ⟨c, hcn, rfl, hbel⟩ := hrel
    by_cases hlt : c < n
    · have hki : (c : Int) < (n : Int) := by omega
      obtain ⟨b1, f1, y1, p6, p11, p12, q6, q11, q12, rfl, hc1, e1, ht1, he1, hz1⟩ := slot_row (KH.out.1.below hbel) hlt
      obtain ⟨b2, f2, y2, s6, s11, s12, t6, t11, t12, rfl, hc2, e2, ht2, he2, hz2⟩ := slot_row (KH.out.2.below hbel) hlt
      have hsc := HS.out c hlt
      have KT : Hid (∀ W, Below wr.heap.size wr W → Calls Try.prog 18 #[ag13 y1, ag13 y2] W fun e w' => e = .returned (.bool true) ∧ Below W.heap.size W w') := fun W hW => by
        rw [e1, e2]
        exact eqSl_same (S c) p6 s6 p11 s11 p12 s12 q6 t6 q11 t11 q12 t12 W (ht1.below hW) (ht2.below hW) (he1.below hW) (he2.below hW) (hz1.below hW) (hz2.below hW) hsc
      have KS : Hid (∀ W, Below wr.heap.size wr W → W.cell? ⟨b1, f1 + c * 13, none⟩ = some (y1 0) ∧ (∀ q, q < 13 → W.cell? ⟨b1, f1 + c * 13 + q, none⟩ = some (y1 q)) ∧ W.cell? ⟨b2, f2 + c * 13, none⟩ = some (y2 0) ∧ (∀ q, q < 13 → W.cell? ⟨b2, f2 + c * 13 + q, none⟩ = some (y2 q))) := fun W hW => two_rows W hW hc1 hc2
      have KB : Hid (Below w.heap.size w wr) := hbel
      have hdr := below_drew wr
      clear hc1 hc2 ht1 ht2 he1 he2 hz1 hz2 hbel e1 e2 hsc
      go_wp2_with fail
      go_region_held3 (fun w' => w'.cell? ⟨b1, f1 + c * 13, none⟩ = some (y1 0) ∧ (∀ q, q < 13 → w'.cell? ⟨b1, f1 + c * 13 + q, none⟩ = some (y1 q)) ∧ w'.cell? ⟨b2, f2 + c * 13, none⟩ = some (y2 0) ∧ (∀ q, q < 13 → w'.cell? ⟨b2, f2 + c * 13 + q, none⟩ = some (y2 q))) (exact KS.out _ (by assumption)) ((go_at_call 18; refine Calls.mono (KT.out _ hdr) ?_; rintro e w7 ⟨rfl, b7'⟩; have b7 := below_of_drew b7'; clear b7'))
      all_goals
        have HB7 : Hid (Below w.heap.size w w7) := below2 KB.out b7
        clear b7
        go_wp2
        go_roundw
        case rel => exact ⟨c + 1, by omega, by go_num, HB7.out⟩
        case measure => simp [intOf]; omega
    · go_wp2
      go_ret
      exact ⟨rfl, hbel⟩
set_option maxHeartbeats 1000000 in
theorem eqNd_same (id f : Int) (a b : Option Addr) (n ca cb : Nat) (S : Nat → Sl) (w : World) (ha : Rd w (slsD n S) (.slice a n ca)) (hb : Rd w (slsD n S) (.slice b n cb)) (hn : n ≤ 1048576) (hs : ∀ i, i < n → SlS (S i)) :
    Calls Try.prog 9 #[.agg #[.int .i64 id, .int .i64 f, .slice a n ca], .agg #[.int .i64 id, .int .i64 f, .slice b n cb]] w fun e w' => e = .returned (.bool true) ∧ Below w.heap.size w w' := by
  obtain ⟨w0, HW0⟩ : ∃ x, Hid (x = (w.alloc (.cells #[.int .i64 id, .int .i64 f, .slice a n ca] 24)).alloc (.cells #[.int .i64 id, .int .i64 f, .slice b n cb] 24)) := ⟨_, rfl⟩
  have hb0 : Below w.heap.size w w0 := by rw [HW0.out]; exact ((Below.refl _ _).alloc (Nat.le_refl _) _).alloc (by simp) _
  have KB0 : Hid (Below w.heap.size w w0) := hb0
  have KE : Hid _ := eqSls_same a b n ca cb S w0 (ha.below hb0) (hb.below hb0) hn hs
  have f0 : (id != id) = false := by simp
  have f1 : (f != f) = false := by simp
  clear ha hb hb0 hs
  go_enter Try.func9, Try.ntmps9
  go_wp2_with fail
  rw [← HW0.out]
  refine Calls.mono KE.out ?_
  rintro e w1 ⟨rfl, b1⟩
  go_wp2
  go_ret
  exact ⟨rfl, below2 KB0.out b1⟩
end Go.Proofs.Ytcnigfejpfcfaaa

/- Marks laid into a list of structs, cell by cell: what each step leaves. Definitions and lemmas; no walk. -/
namespace Go.Proofs.Ytcnigfejpfcfaaa
set_option maxRecDepth 2000
open Go.ChangeShapes Go.WideShapes Go.ChangeAt Go.RowKit

/-- A list of structs that is being marked: its cells are ours, each with its own memory. -/
def MkS (w : World) (B t sz g n cap : Nat) (G : Nat → Nat → Nat → Prop) (D : Nat → Nat → Dt) : Prop :=
  ∃ c, w.ownsRow B t sz (.slice (some ⟨g, 0, none⟩) n cap) n (cL sz c n) ∧ ∀ i q, i < n → q < sz → Ow w B (D i q) (c i q) (G i q)
theorem Ow.mk {w : World} {B t sz g n cap : Nat} {D : Nat → Nat → Dt} {F : Nat → Prop} (h : Ow w B (.lst t sz n D) (.slice (some ⟨g, 0, none⟩) n cap) F) : ∃ G, Sep (some ⟨g, 0, none⟩) n sz G F ∧ MkS w B t sz g n cap G D := by
  obtain ⟨a, cap', c, G, e, ho, hs, hr⟩ := h
  cases e
  exact ⟨G, hs, c, ho, hr⟩
theorem MkS.ow {w : World} {B t sz g n cap : Nat} {G : Nat → Nat → Nat → Prop} {D : Nat → Nat → Dt} {F : Nat → Prop} (h : MkS w B t sz g n cap G D) (hs : Sep (some ⟨g, 0, none⟩) n sz G F) : Ow w B (.lst t sz n D) (.slice (some ⟨g, 0, none⟩) n cap) F := by
  obtain ⟨c, ho, hr⟩ := h
  exact ⟨_, cap, c, G, rfl, ho, hs, hr⟩
theorem MkS.below {w w' : World} {B t sz g n cap : Nat} {G : Nat → Nat → Nat → Prop} {D : Nat → Nat → Dt} (h : MkS w B t sz g n cap G D) (hb : Below w.heap.size w w') : MkS w' B t sz g n cap G D := by
  obtain ⟨c, ho, hr⟩ := h
  exact ⟨c, ownsRow_below ho hb, fun i q hi hq => (hr i q hi hq).below hb⟩
theorem MkS.congr {w : World} {B t sz g n cap : Nat} {G : Nat → Nat → Nat → Prop} {D D' : Nat → Nat → Dt} (h : MkS w B t sz g n cap G D) (e : ∀ i q, i < n → q < sz → D i q = D' i q) : MkS w B t sz g n cap G D' := by
  obtain ⟨c, ho, hr⟩ := h
  exact ⟨c, ho, fun i q hi hq => by rw [← e i q hi hq]; exact hr i q hi hq⟩
theorem MkS.lt {w : World} {B t sz g n cap : Nat} {G : Nat → Nat → Nat → Prop} {D : Nat → Nat → Dt} (h : MkS w B t sz g n cap G D) : B ≤ g ∧ g < w.heap.size := by
  obtain ⟨c, ho, hr⟩ := h
  exact World.ownsRow.lt ho g rfl
theorem MkS.cell {w : World} {B t sz g n cap : Nat} {G : Nat → Nat → Nat → Prop} {D : Nat → Nat → Dt} (h : MkS w B t sz g n cap G D) {i q : Nat} (hi : i < n) (hq : q < sz) : ∃ v, w.cell? ⟨g, i * sz + q, none⟩ = some v ∧ w.frozen? ⟨g, i * sz + q, none⟩ = false ∧ Ow w B (D i q) v (G i q) := by
  obtain ⟨c, ho, hr⟩ := h
  exact ⟨c i q, by rw [World.ownsRow.cellAt ho _ (mid_lt hi hq)]; exact cL_get _ _ _ _ _ hi hq, World.ownsRow.frozenAt ho _, hr i q hi hq⟩
theorem MkS.set {w : World} {B t sz g n cap : Nat} {G : Nat → Nat → Nat → Prop} {D : Nat → Nat → Dt} {F : Nat → Prop} (h : MkS w B t sz g n cap G D) (hs : Sep (some ⟨g, 0, none⟩) n sz G F) {i q : Nat} (hi : i < n) (hq : q < sz) (v : Value) : MkS (w.setCell ⟨g, i * sz + q, none⟩ v) B t sz g n cap G (fun i' q' => if i' = i ∧ q' = q then .val v else D i' q') := by
  obtain ⟨c, ho, hr⟩ := h
  have h1 := (World.ownsRow.stored ho (i * sz + q) v).1
  rw [cL_set _ _ _ _ _ _ hi hq] at h1
  refine ⟨_, h1, fun i' q' hi' hq' => ?_⟩
  by_cases e : i' = i ∧ q' = q
  · simp only [e, and_self, if_true]
    rfl
  · simp only [e, if_false]
    exact (hr i' q' hi' hq').frame fun x hx _ => heap_setCell_other w ⟨g, i * sz + q, none⟩ x v (fun ex => by
      have ex' : x = g := ex
      subst ex'
      exact hs.apart i' q' _ hi' hq' rfl hx)
theorem MkS.turn {w w' : World} {B t sz g n cap : Nat} {G : Nat → Nat → Nat → Prop} {D : Nat → Nat → Dt} {F : Nat → Prop} (h : MkS w B t sz g n cap G D) (hs : Sep (some ⟨g, 0, none⟩) n sz G F) {i q : Nat} (hi : i < n) (hq : q < sz) {v : Value} {d : Dt} (hc : w.cell? ⟨g, i * sz + q, none⟩ = some v) (ho' : Ow w' B d v (G i q)) (ht : Trn w w' (G i q)) : MkS w' B t sz g n cap G (fun i' q' => if i' = i ∧ q' = q then d else D i' q') := by
  obtain ⟨c, ho, hr⟩ := h
  have hv : c i q = v := by
    rw [World.ownsRow.cellAt ho _ (mid_lt hi hq), cL_get _ _ _ _ _ hi hq] at hc
    exact Option.some.inj hc
  have hg := World.ownsRow.lt ho g rfl
  refine ⟨c, ⟨ho.1, ?_⟩, fun i' q' hi' hq' => ?_⟩
  · rcases ho.2 with h' | ⟨g', cap', cur, h1, h2, h3, h4⟩
    · exact .inl h'
    · refine .inr ⟨g', cap', cur, h1, h2, ?_, h4⟩
      have e : g' = g := by cases h1; rfl
      subst e
      rw [ht.block g' hg.2 (hs.apart i q _ hi hq rfl)]
      exact h3
  · by_cases e : i' = i ∧ q' = q
    · simp only [e, and_self, if_true]
      rw [hv]
      exact ho'
    · simp only [e, if_false]
      exact (hr i' q' hi' hq').turned ht fun x hx hx' => e (hs.each i' q' i q x hi' hq' hi hq hx hx')
/-- Marks over a list of texts, by data. -/
theorem markD_txt (B : Nat) (v : Value) (m : Nat) (S : Nat → ByteArray) (k q : Nat) (F : Nat → Prop) (w : World) (h : Ow w B (txD m S) v F) (hn : m ≤ 1048576) (hk : k ≤ 2000000) (hq : k + m = q) :
    Calls Try.prog 55 #[v, .int .i64 (k : Int)] w fun e w' => e = .returned (.int .i64 (q : Int)) ∧ Ow w' B (txD m (fun i => mtxt (k + i))) v F ∧ Trn w w' F := by
  obtain ⟨a, cap, rfl, ho, hF⟩ := txt_ow h
  cases a with
  | none =>
    refine (markT2_any B B none m cap S k q w ⟨ho, fun x e => by cases e⟩ hn hk hq).mono ?_
    rintro e w' ⟨rfl, hR, hT⟩
    exact ⟨rfl, ow_txt hR.1 (fun x e => by cases e), Trn.ofM hT (fun g h1 h2 => absurd h1 (by omega))⟩
  | some x =>
    have hx : x = ⟨x.block, 0, none⟩ := by
      rcases own_shape ho with ⟨h0, _⟩ | ⟨g, cur, e, _⟩
      · cases h0
      · cases e; rfl
    have hB := (World.ownsRow.lt ho x.block (by rw [hx]; rfl)).1
    have hR0 : RowT w x.block (x.block + 1) (some x) m cap S := by
      refine ⟨⟨ho.1, ?_⟩, fun y e => by cases e; exact ⟨Nat.le_refl _, by omega⟩⟩
      rcases ho.2 with h' | ⟨g', cap', cur, h', _, hr⟩
      · exact .inl h'
      · exact .inr ⟨g', cap', cur, h', by cases h'; exact Nat.le_refl _, hr⟩
    refine (markT2_any x.block (x.block + 1) (some x) m cap S k q w hR0 hn hk hq).mono ?_
    rintro e w' ⟨rfl, hR, hT⟩
    exact ⟨rfl, ow_txt (OwnT.base hR.1 hB) (fun y e => by cases e; exact hF _ rfl), Trn.ofM hT (fun g h1 h2 => (show g = x.block by omega) ▸ hF _ rfl)⟩
end Go.Proofs.Ytcnigfejpfcfaaa

/- Sayings and lists of them, compared by the exact laws: equal ones. Conditions: no list is longer than 2^20. Written by mknsay.py. -/
namespace Go.Proofs.Ytcnigfejpfcfaaa
set_option maxRecDepth 2000
open Go.ChangeShapes Go.WideShapes Go.ChangeAt Go.RowKit

set_option maxHeartbeats 4000000 in
theorem eqSy_same (s : Sy) (a9 b9 : Option Addr) (c9 d9 : Nat) (w : World) (h9 : TxtAt w a9 s.p.m s.p.S) (k9 : TxtAt w b9 s.p.m s.p.S) (hs : s.p.m ≤ 1048576) :
    Calls Try.prog 53 #[syV s (.slice a9 s.p.m c9), syV s (.slice b9 s.p.m d9)] w fun e w' => e = .returned (.bool true) ∧ Below w.heap.size w w' := by
  obtain ⟨sk, sf, st, sr, p⟩ := s
  obtain ⟨rr, kk, nn, ii, bb, m, S⟩ := p
  simp only at h9 k9 hs
  obtain ⟨w0, HW0⟩ : ∃ x, Hid (x = (w.alloc (.cells (syC ⟨sk, sf, st, sr, ⟨rr, kk, nn, ii, bb, m, S⟩⟩ (.slice a9 m c9)) 76)).alloc (.cells (syC ⟨sk, sf, st, sr, ⟨rr, kk, nn, ii, bb, m, S⟩⟩ (.slice b9 m d9)) 76)) := ⟨_, rfl⟩
  have hb0 : Below w.heap.size w w0 := by rw [HW0.out]; exact ((Below.refl _ _).alloc (Nat.le_refl _) _).alloc (by simp) _
  have KB0 : Hid (Below w.heap.size w w0) := hb0
  have KP : Hid _ := eqPc_same rr kk nn ii bb a9 b9 m c9 d9 S w0 (h9.below hb0) (k9.below hb0) hs
  have f0 : (sr.toList != sr.toList) = false := by simp
  have f0' := ba_beq sr
  have f1 : (sk != sk) = false := by simp
  have f2 : (sf != sf) = false := by simp
  have f3 : (st != st) = false := by simp
  clear h9 k9 hs hb0
  go_enter Try.func53, Try.ntmps53
  go_wp2_with fail
  rw [← HW0.out]
  refine Calls.mono KP.out ?_
  rintro e w1 ⟨rfl, b1⟩
  go_wp2
  go_ret
  exact ⟨rfl, below2 KB0.out b1⟩
set_option maxHeartbeats 4000000 in
theorem eqSys_same (a b : Option Addr) (n ca cb : Nat) (S : Nat → Sy) (w : World) (ha : Rd w (sysD n S) (.slice a n ca)) (hb : Rd w (sysD n S) (.slice b n cb)) (hn : n ≤ 1048576) (hs : ∀ i, i < n → (S i).p.m ≤ 1048576) :
    Calls Try.prog 23 #[.slice a n ca, .slice b n cb] w fun e w' => e = .returned (.bool true) ∧ Below w.heap.size w w' := by
  have KH : Hid (Rd w (sysD n S) (.slice a n ca) ∧ Rd w (sysD n S) (.slice b n cb)) := ⟨ha, hb⟩
  have HS : Hid (∀ i, i < n → (S i).p.m ≤ 1048576) := hs
  have hnn : ((n : Int) != (n : Int)) = false := by simp
  clear ha hb hs
  go_enter Try.func23, Try.ntmps23
  go_wp2
  go_loopw [5] (fun vi wr => ∃ c : Nat, c ≤ n ∧ vi = .int .i64 (c : Int) ∧ Below w.heap.size w wr) (fun vi _ => n - (intOf vi).toNat)
  case atStart => exact ⟨0, Nat.zero_le _, rfl, Below.refl _ _⟩
  case round =>
    obtain ⟨c, hcn, rfl, hbel⟩ := hrel
    by_cases hlt : c < n
    · have hki : (c : Int) < (n : Int) := by omega
      obtain ⟨b1, f1, y1, p9, q9, rfl, hc1, e1, ht1⟩ := say_row (KH.out.1.below hbel) hlt
      obtain ⟨b2, f2, y2, s9, t9, rfl, hc2, e2, ht2⟩ := say_row (KH.out.2.below hbel) hlt
      have hsc := HS.out c hlt
      have KT : Hid (∀ W, Below wr.heap.size wr W → Calls Try.prog 53 #[ag10 y1, ag10 y2] W fun e w' => e = .returned (.bool true) ∧ Below W.heap.size W w') := fun W hW => by
        rw [e1, e2]
        exact eqSy_same (S c) p9 s9 q9 t9 W (ht1.below hW) (ht2.below hW) hsc
      have KS : Hid (∀ W, Below wr.heap.size wr W → W.cell? ⟨b1, f1 + c * 10, none⟩ = some (y1 0) ∧ (∀ q, q < 10 → W.cell? ⟨b1, f1 + c * 10 + q, none⟩ = some (y1 q)) ∧ W.cell? ⟨b2, f2 + c * 10, none⟩ = some (y2 0) ∧ (∀ q, q < 10 → W.cell? ⟨b2, f2 + c * 10 + q, none⟩ = some (y2 q))) := fun W hW => two_rows W hW hc1 hc2
      have KB : Hid (Below w.heap.size w wr) := hbel
      have hdr := below_drew wr
      clear hc1 hc2 ht1 ht2 hbel e1 e2 hsc
      go_wp2_with fail
      go_region_held3 (fun w' => w'.cell? ⟨b1, f1 + c * 10, none⟩ = some (y1 0) ∧ (∀ q, q < 10 → w'.cell? ⟨b1, f1 + c * 10 + q, none⟩ = some (y1 q)) ∧ w'.cell? ⟨b2, f2 + c * 10, none⟩ = some (y2 0) ∧ (∀ q, q < 10 → w'.cell? ⟨b2, f2 + c * 10 + q, none⟩ = some (y2 q))) (exact KS.out _ (by assumption)) ((go_at_call 53; refine Calls.mono (KT.out _ hdr) ?_; rintro e w7 ⟨rfl, b7'⟩; have b7 := below_of_drew b7'; clear b7'))
      all_goals
        have HB7 : Hid (Below w.heap.size w w7) := below2 KB.out b7
        clear b7
        go_wp2
        go_roundw
        case rel => exact ⟨c + 1, by omega, by go_num, HB7.out⟩
        case measure => simp [intOf]; omega
    · go_wp2
      go_ret
      exact ⟨rfl, hbel⟩
end Go.Proofs.Ytcnigfejpfcfaaa

/- Marks laid into lists of sayings, and asked for. Conditions: at most 64 sayings, whose proofs have at most 1000 texts. Written by mkmark.py. -/
namespace Go.Proofs.Ytcnigfejpfcfaaa
set_option maxRecDepth 2000
open Go.ChangeShapes Go.WideShapes Go.ChangeAt Go.RowKit

/-- The first mark of saying i. -/
def ofy (k : Nat) (S : Nat → Sy) : Nat → Nat
  | 0 => k
  | i + 1 => ofy k S i + 9 + (S i).p.m
theorem ofy_le (k : Nat) (S : Nat → Sy) {i j : Nat} (h : i ≤ j) : ofy k S i ≤ ofy k S j := by
  induction j with
  | zero => obtain rfl : i = 0 := by omega
            exact Nat.le_refl _
  | succ j ih =>
    by_cases e : i = j + 1
    · subst e; exact Nat.le_refl _
    · have := ih (by omega)
      show _ ≤ ofy k S j + 9 + (S j).p.m
      omega
/-- The sayings, marked from k on. -/
def mkdY (k : Nat) (S : Nat → Sy) (i : Nat) : Sy := ⟨((ofy k S i : Nat) : Int), ((ofy k S i + 1 : Nat) : Int), ((ofy k S i + 2 : Nat) : Int), mtxt (ofy k S i + 3), ⟨mtxt (ofy k S i + 4), ((ofy k S i + 5 : Nat) : Int), ((ofy k S i + 6 : Nat) : Int), ((ofy k S i + 7 : Nat) : Int), mtxt (ofy k S i + 8), (S i).p.m, fun j => mtxt (ofy k S i + 9 + j)⟩⟩
set_option maxHeartbeats 4000000 in
theorem markSys_any (B g n cap : Nat) (F : Nat → Prop) (S : Nat → Sy) (k : Nat) (w : World) (h : Ow w B (sysD n S) (.slice (some ⟨g, 0, none⟩) n cap) F) (hn : n ≤ 64) (hm : ∀ i, i < n → (S i).p.m ≤ 1000) (hk : ofy k S n ≤ 1000000) :
    Calls Try.prog 24 #[.slice (some ⟨g, 0, none⟩) n cap, .int .i64 (k : Int)] w fun e w' => e = .returned (.int .i64 ((ofy k S n : Nat) : Int)) ∧ Ow w' B (sysD n (mkdY k S)) (.slice (some ⟨g, 0, none⟩) n cap) F ∧ Trn w w' F := by
  obtain ⟨G, hsep, hmk⟩ := Ow.mk h
  have KS : Hid (Sep (some ⟨g, 0, none⟩) n 10 G F) := hsep
  have HG : Hid (F g) := hsep.head _ rfl
  have K0 : Hid (MkS w B 76 10 g n cap G (fun i => if i < 0 then syD (mkdY k S i) else syD (S i))) := hmk.congr (fun i q _ _ => by simp)
  have HM : Hid (∀ i, i < n → (S i).p.m ≤ 1000) := hm
  clear h hm hsep hmk
  go_enter Try.func24, Try.ntmps24
  go_wp2
  go_loopw [1, 5] (fun vk vi wr => ∃ c : Nat, c ≤ n ∧ vk = .int .i64 ((ofy k S c : Nat) : Int) ∧ vi = .int .i64 (c : Int) ∧ MkS wr B 76 10 g n cap G (fun i => if i < c then syD (mkdY k S i) else syD (S i)) ∧ Trn w wr F) (fun _ vi _ => n - (intOf vi).toNat)
  case atStart => exact ⟨0, Nat.zero_le _, rfl, rfl, K0.out, Trn.refl _ _⟩
  case round =>
    obtain ⟨c, hcn, rfl, rfl, hop, htr⟩ := hrel
    clear K0
    have KO : Hid (MkS wr B 76 10 g n cap G (fun i => if i < c then syD (mkdY k S i) else syD (S i)) ∧ Trn w wr F) := ⟨hop, htr⟩
    clear hop htr
    by_cases hlt : c < n
    · have hki : (c : Int) < (n : Int) := by omega
      obtain ⟨o0, HO0⟩ : ∃ x, Hid (ofy k S c = x) := ⟨_, rfl⟩
      have ho : o0 + 9 + (S c).p.m ≤ 1000000 := by rw [← HO0.out]; exact Nat.le_trans (ofy_le k S (show c + 1 ≤ n by omega)) hk
      have HNX : Hid (ofy k S (c + 1) = o0 + 9 + (S c).p.m) := by show ofy k S c + 9 + (S c).p.m = _; rw [HO0.out]
      have hmc := HM.out c hlt
      rw [HO0.out]
      obtain ⟨o1, HO1⟩ : ∃ x, Hid (x = o0 + 1) := ⟨_, rfl⟩
      obtain ⟨o2, HO2⟩ : ∃ x, Hid (x = o0 + 2) := ⟨_, rfl⟩
      obtain ⟨o3, HO3⟩ : ∃ x, Hid (x = o0 + 3) := ⟨_, rfl⟩
      obtain ⟨o4, HO4⟩ : ∃ x, Hid (x = o0 + 4) := ⟨_, rfl⟩
      obtain ⟨o5, HO5⟩ : ∃ x, Hid (x = o0 + 5) := ⟨_, rfl⟩
      obtain ⟨o6, HO6⟩ : ∃ x, Hid (x = o0 + 6) := ⟨_, rfl⟩
      obtain ⟨o7, HO7⟩ : ∃ x, Hid (x = o0 + 7) := ⟨_, rfl⟩
      obtain ⟨o8, HO8⟩ : ∃ x, Hid (x = o0 + 8) := ⟨_, rfl⟩
      obtain ⟨o9, HO9⟩ : ∃ x, Hid (x = o0 + 9) := ⟨_, rfl⟩
      have e1 : (o0 : Int) + 1 = (o1 : Int) := by have := HO1.out; omega
      have e2 : (o1 : Int) + 1 = (o2 : Int) := by have := HO2.out; have := HO1.out; omega
      have e3 : (o2 : Int) + 1 = (o3 : Int) := by have := HO3.out; have := HO2.out; omega
      have e4 : (o3 : Int) + 1 = (o4 : Int) := by have := HO4.out; have := HO3.out; omega
      have e5 : (o4 : Int) + 1 = (o5 : Int) := by have := HO5.out; have := HO4.out; omega
      have e6 : (o5 : Int) + 1 = (o6 : Int) := by have := HO6.out; have := HO5.out; omega
      have e7 : (o6 : Int) + 1 = (o7 : Int) := by have := HO7.out; have := HO6.out; omega
      have e8 : (o7 : Int) + 1 = (o8 : Int) := by have := HO8.out; have := HO7.out; omega
      have e9 : (o8 : Int) + 1 = (o9 : Int) := by have := HO9.out; have := HO8.out; omega
      obtain ⟨m, HMm⟩ : ∃ x, Hid ((S c).p.m = x) := ⟨_, rfl⟩
      rw [HMm.out] at ho hmc HNX
      obtain ⟨q6, HQ6⟩ : ∃ x, Hid (o9 + m = x) := ⟨_, rfl⟩
      have u0 : o0 ≤ 1000000 := by omega
      have u1 : o1 ≤ 1000000 := by have := HO1.out; omega
      have u2 : o2 ≤ 1000000 := by have := HO2.out; omega
      have u3 : o3 ≤ 1000000 := by have := HO3.out; omega
      have u4 : o4 ≤ 1000000 := by have := HO4.out; omega
      have u5 : o5 ≤ 1000000 := by have := HO5.out; omega
      have u6 : o6 ≤ 1000000 := by have := HO6.out; omega
      have u7 : o7 ≤ 1000000 := by have := HO7.out; omega
      have u8 : o8 ≤ 1000000 := by have := HO8.out; omega
      have u9 : o9 ≤ 1000000 := by have := HO9.out; omega
      obtain ⟨s3, HS3⟩ : ∃ x, Hid (mtxt o3 = x) := ⟨_, rfl⟩
      have KM3 : Hid (∀ W, Calls Try.prog 54 #[.int .i64 (o3 : Int)] W fun e w' => e = .returned (.string s3) ∧ Below W.heap.size W w') := fun W => by rw [← HS3.out]; exact markText_any o3 W (by omega)
      obtain ⟨s4, HS4⟩ : ∃ x, Hid (mtxt o4 = x) := ⟨_, rfl⟩
      have KM4 : Hid (∀ W, Calls Try.prog 54 #[.int .i64 (o4 : Int)] W fun e w' => e = .returned (.string s4) ∧ Below W.heap.size W w') := fun W => by rw [← HS4.out]; exact markText_any o4 W (by omega)
      obtain ⟨s8, HS8⟩ : ∃ x, Hid (mtxt o8 = x) := ⟨_, rfl⟩
      have KM8 : Hid (∀ W, Calls Try.prog 54 #[.int .i64 (o8 : Int)] W fun e w' => e = .returned (.string s8) ∧ Below W.heap.size W w') := fun W => by rw [← HS8.out]; exact markText_any o8 W (by omega)
      clear hk ho
      obtain ⟨x0v, x0, f0, _⟩ := MkS.cell KO.out.1 hlt (show 0 < 10 by omega)
      obtain ⟨x1v, x1, f1, _⟩ := MkS.cell KO.out.1 hlt (show 1 < 10 by omega)
      obtain ⟨x2v, x2, f2, _⟩ := MkS.cell KO.out.1 hlt (show 2 < 10 by omega)
      simp only [Nat.add_zero] at x0 f0 x1 f1 x2 f2
      obtain ⟨W1, HW1⟩ : ∃ x, Hid (x = (((wr.setCell ⟨g, c * 10, none⟩ (.int .i64 (o0 : Int))).setCell ⟨g, c * 10 + 1, none⟩ (.int .i64 (o1 : Int))).setCell ⟨g, c * 10 + 2, none⟩ (.int .i64 (o2 : Int)))) := ⟨_, rfl⟩
      have M1 := KO.out.1
      have M1 := MkS.set M1 KS.out hlt (show 0 < 10 by omega) (.int .i64 (o0 : Int))
      rw [Nat.add_zero] at M1
      have M1 := MkS.set M1 KS.out hlt (show 1 < 10 by omega) (.int .i64 (o1 : Int))
      have M1 := MkS.set M1 KS.out hlt (show 2 < 10 by omega) (.int .i64 (o2 : Int))
      rw [← HW1.out] at M1
      have KMk1 : Hid (MkS W1 B 76 10 g n cap G _) := M1
      clear M1
      have KTr1 : Hid (Trn w W1 F) := by show Trn _ _ _; rw [HW1.out]; exact (((KO.out.2.trans (Trn.set _ (c * 10) _ HG.out)).trans (Trn.set _ (c * 10 + 1) _ HG.out)).trans (Trn.set _ (c * 10 + 2) _ HG.out))
      go_wp2_with fail
      rw [← HW1.out]
      clear x0 f0 x1 f1 x2 f2
      refine Calls.mono (KM3.out _) ?_
      rintro e w1 ⟨rfl, b1⟩
      have KNk1 : Hid (MkS w1 B 76 10 g n cap G _) := MkS.below KMk1.out b1
      have KNt1 : Hid (Trn w w1 F) := KTr1.out.trans (Trn.ofBelow F b1)
      clear b1 KMk1 KTr1
      obtain ⟨x3v, x3, f3, _⟩ := MkS.cell KNk1.out hlt (show 3 < 10 by omega)
      obtain ⟨W2, HW2⟩ : ∃ x, Hid (x = (w1.setCell ⟨g, c * 10 + 3, none⟩ (.string s3))) := ⟨_, rfl⟩
      have M2 := KNk1.out
      have M2 := MkS.set M2 KS.out hlt (show 3 < 10 by omega) (.string s3)
      rw [← HW2.out] at M2
      have KMk2 : Hid (MkS W2 B 76 10 g n cap G _) := M2
      clear M2
      have KTr2 : Hid (Trn w W2 F) := by show Trn _ _ _; rw [HW2.out]; exact (KNt1.out.trans (Trn.set _ (c * 10 + 3) _ HG.out))
      go_wp2_with fail
      rw [← HW2.out]
      clear x3 f3
      refine Calls.mono (KM4.out _) ?_
      rintro e w2 ⟨rfl, b2⟩
      have KNk2 : Hid (MkS w2 B 76 10 g n cap G _) := MkS.below KMk2.out b2
      have KNt2 : Hid (Trn w w2 F) := KTr2.out.trans (Trn.ofBelow F b2)
      clear b2 KMk2 KTr2
      obtain ⟨x4v, x4, f4, _⟩ := MkS.cell KNk2.out hlt (show 4 < 10 by omega)
      obtain ⟨x5v, x5, f5, _⟩ := MkS.cell KNk2.out hlt (show 5 < 10 by omega)
      obtain ⟨x6v, x6, f6, _⟩ := MkS.cell KNk2.out hlt (show 6 < 10 by omega)
      obtain ⟨x7v, x7, f7, _⟩ := MkS.cell KNk2.out hlt (show 7 < 10 by omega)
      obtain ⟨W3, HW3⟩ : ∃ x, Hid (x = ((((w2.setCell ⟨g, c * 10 + 4, none⟩ (.string s4)).setCell ⟨g, c * 10 + 5, none⟩ (.int .i64 (o5 : Int))).setCell ⟨g, c * 10 + 6, none⟩ (.int .i64 (o6 : Int))).setCell ⟨g, c * 10 + 7, none⟩ (.int .i64 (o7 : Int)))) := ⟨_, rfl⟩
      have M3 := KNk2.out
      have M3 := MkS.set M3 KS.out hlt (show 4 < 10 by omega) (.string s4)
      have M3 := MkS.set M3 KS.out hlt (show 5 < 10 by omega) (.int .i64 (o5 : Int))
      have M3 := MkS.set M3 KS.out hlt (show 6 < 10 by omega) (.int .i64 (o6 : Int))
      have M3 := MkS.set M3 KS.out hlt (show 7 < 10 by omega) (.int .i64 (o7 : Int))
      rw [← HW3.out] at M3
      have KMk3 : Hid (MkS W3 B 76 10 g n cap G _) := M3
      clear M3
      have KTr3 : Hid (Trn w W3 F) := by show Trn _ _ _; rw [HW3.out]; exact ((((KNt2.out.trans (Trn.set _ (c * 10 + 4) _ HG.out)).trans (Trn.set _ (c * 10 + 5) _ HG.out)).trans (Trn.set _ (c * 10 + 6) _ HG.out)).trans (Trn.set _ (c * 10 + 7) _ HG.out))
      go_wp2_with fail
      rw [← HW3.out]
      clear x4 f4 x5 f5 x6 f6 x7 f7
      refine Calls.mono (KM8.out _) ?_
      rintro e w3 ⟨rfl, b3⟩
      have KNk3 : Hid (MkS w3 B 76 10 g n cap G _) := MkS.below KMk3.out b3
      have KNt3 : Hid (Trn w w3 F) := KTr3.out.trans (Trn.ofBelow F b3)
      clear b3 KMk3 KTr3
      obtain ⟨x8v, x8, f8, _⟩ := MkS.cell KNk3.out hlt (show 8 < 10 by omega)
      obtain ⟨v9, x9, _, ho9⟩ := MkS.cell KNk3.out hlt (show 9 < 10 by omega)
      obtain ⟨W4, HW4⟩ : ∃ x, Hid (x = (w3.setCell ⟨g, c * 10 + 8, none⟩ (.string s8))) := ⟨_, rfl⟩
      have M4 := KNk3.out
      have M4 := MkS.set M4 KS.out hlt (show 8 < 10 by omega) (.string s8)
      rw [← HW4.out] at M4
      have KMk4 : Hid (MkS W4 B 76 10 g n cap G _) := M4
      clear M4
      have KTr4 : Hid (Trn w W4 F) := by show Trn _ _ _; rw [HW4.out]; exact (KNt3.out.trans (Trn.set _ (c * 10 + 8) _ HG.out))
      obtain ⟨v9', x9', _, ho9'⟩ := MkS.cell KMk4.out hlt (show 9 < 10 by omega)
      have ev : v9' = v9 := by
        have h1 := x9'
        rw [HW4.out, World.cell?_setCell_other _ _ _ _ (by simp)] at h1
        exact Option.some.inj (h1.symm.trans x9)
      subst ev
      have HD9 : Hid (Ow W4 B (txD m (S c).p.S) v9' (G c 9)) := by
        have := ho9'
        show Ow _ _ _ _ _
        rw [← HMm.out]
        simpa [syD] using this
      have KMS : Hid _ := markD_txt B v9' m (S c).p.S o9 q6 (G c 9) W4 HD9.out (by omega) (by omega) HQ6.out
      have X9 : Hid (W4.cell? ⟨g, c * 10 + 9, none⟩ = some v9') := x9'
      clear ho9 ho9' x9'
      obtain ⟨a9, c9, e9⟩ : ∃ a9 c9, v9' = .slice a9 m c9 := by
        obtain ⟨a, cp, e, _⟩ := txt_ow HD9.out
        exact ⟨a, cp, e⟩
      subst e9
      go_wp2_with fail
      rw [← HW4.out]
      refine Calls.mono KMS.out ?_
      rintro e w9 ⟨rfl, hR9, hT9⟩
      have M9 := MkS.turn KMk4.out KS.out hlt (show 9 < 10 by omega) X9.out hR9 hT9
      have KT9 : Hid (Trn w w9 F) := KTr4.out.trans (hT9.mono (fun x hx => KS.out.sub c 9 x hlt (by omega) hx))
      have HN : Hid (MkS w9 B 76 10 g n cap G (fun i => if i < c + 1 then syD (mkdY k S i) else syD (S i))) := by
        refine MkS.congr M9 fun i q hi hq => ?_
        by_cases ei : i = c
        · subst ei
          have hd : mkdY k S i = ⟨(o0 : Int), (o1 : Int), (o2 : Int), s3, ⟨s4, (o5 : Int), (o6 : Int), (o7 : Int), s8, m, fun j => mtxt (o9 + j)⟩⟩ := by
            unfold mkdY
            rw [HO0.out, ← HO1.out, ← HO2.out, ← HO3.out, ← HO4.out, ← HO5.out, ← HO6.out, ← HO7.out, ← HO8.out, ← HO9.out, HS3.out, HS4.out, HS8.out, HMm.out]
          rw [if_pos (show i < i + 1 by omega), hd]
          match q, hq with
          | 0, _ | 1, _ | 2, _ | 3, _ | 4, _ | 5, _ | 6, _ | 7, _ | 8, _ | 9, _ => simp [syD]
        · by_cases e2 : i < c
          · simp [ei, e2, show i < c + 1 by omega]
          · simp [ei, e2, show ¬ i < c + 1 by omega]
      have HQQ : Hid ((q6 : Int) = ((ofy k S (c + 1) : Nat) : Int)) := by show _ = _; rw [HNX.out, ← HQ6.out, HO9.out]
      clear M9 hR9 hT9 KMS x8 f8 x9
      go_wp2
      go_roundw
      case rel => exact ⟨c + 1, by omega, by rw [HQQ.out], by go_num, HN.out, KT9.out⟩
      case measure => simp [intOf]; omega
    · obtain rfl : c = n := by omega
      have HN : Hid (MkS wr B 76 10 g c cap G (fun i => syD (mkdY k S i))) := KO.out.1.congr (fun i q hi _ => by simp [hi])
      go_wp2
      go_ret
      exact ⟨rfl, HN.out.ow KS.out, KO.out.2⟩
set_option maxHeartbeats 4000000 in
theorem heldSys_any (a : Option Addr) (n cap : Nat) (S : Nat → Sy) (k : Nat) (w : World) (h : Rd w (sysD n (mkdY k S)) (.slice a n cap)) (hn : n ≤ 64) (hm : ∀ i, i < n → (S i).p.m ≤ 1000) (hk : ofy k S n ≤ 1000000) :
    Calls Try.prog 25 #[.slice a n cap, .int .i64 (k : Int)] w fun e w' => e = .returned (.int .i64 ((ofy k S n : Nat) : Int)) ∧ Below w.heap.size w w' := by
  have KH : Hid (Rd w (sysD n (mkdY k S)) (.slice a n cap)) := h
  have HM : Hid (∀ i, i < n → (S i).p.m ≤ 1000) := hm
  clear h hm
  go_enter Try.func25, Try.ntmps25
  go_wp2
  go_loopw [1, 5] (fun vk vi wr => ∃ c : Nat, c ≤ n ∧ vk = .int .i64 ((ofy k S c : Nat) : Int) ∧ vi = .int .i64 (c : Int) ∧ Below w.heap.size w wr) (fun _ vi _ => n - (intOf vi).toNat)
  case atStart => exact ⟨0, Nat.zero_le _, rfl, rfl, Below.refl _ _⟩
  case round =>
    obtain ⟨c, hcn, rfl, rfl, hbel⟩ := hrel
    by_cases hlt : c < n
    · have hki : (c : Int) < (n : Int) := by omega
      obtain ⟨b1, f1, y, p9, q9, rfl, hc1, ey, ht1⟩ := say_row (KH.out.below hbel) hlt
      obtain ⟨o0, HO0⟩ : ∃ x, Hid (ofy k S c = x) := ⟨_, rfl⟩
      have ho : o0 + 9 + (S c).p.m ≤ 1000000 := by rw [← HO0.out]; exact Nat.le_trans (ofy_le k S (show c + 1 ≤ n by omega)) hk
      have HNX : Hid (ofy k S (c + 1) = o0 + 9 + (S c).p.m) := by show ofy k S c + 9 + (S c).p.m = _; rw [HO0.out]
      have hmc := HM.out c hlt
      rw [HO0.out]
      obtain ⟨o1, HO1⟩ : ∃ x, Hid (x = o0 + 1) := ⟨_, rfl⟩
      obtain ⟨o2, HO2⟩ : ∃ x, Hid (x = o0 + 2) := ⟨_, rfl⟩
      obtain ⟨o3, HO3⟩ : ∃ x, Hid (x = o0 + 3) := ⟨_, rfl⟩
      obtain ⟨o4, HO4⟩ : ∃ x, Hid (x = o0 + 4) := ⟨_, rfl⟩
      obtain ⟨o5, HO5⟩ : ∃ x, Hid (x = o0 + 5) := ⟨_, rfl⟩
      obtain ⟨o6, HO6⟩ : ∃ x, Hid (x = o0 + 6) := ⟨_, rfl⟩
      obtain ⟨o7, HO7⟩ : ∃ x, Hid (x = o0 + 7) := ⟨_, rfl⟩
      obtain ⟨o8, HO8⟩ : ∃ x, Hid (x = o0 + 8) := ⟨_, rfl⟩
      obtain ⟨o9, HO9⟩ : ∃ x, Hid (x = o0 + 9) := ⟨_, rfl⟩
      have e1 : (o0 : Int) + 1 = (o1 : Int) := by have := HO1.out; omega
      have e2 : (o1 : Int) + 1 = (o2 : Int) := by have := HO2.out; have := HO1.out; omega
      have e3 : (o2 : Int) + 1 = (o3 : Int) := by have := HO3.out; have := HO2.out; omega
      have e4 : (o3 : Int) + 1 = (o4 : Int) := by have := HO4.out; have := HO3.out; omega
      have e5 : (o4 : Int) + 1 = (o5 : Int) := by have := HO5.out; have := HO4.out; omega
      have e6 : (o5 : Int) + 1 = (o6 : Int) := by have := HO6.out; have := HO5.out; omega
      have e7 : (o6 : Int) + 1 = (o7 : Int) := by have := HO7.out; have := HO6.out; omega
      have e8 : (o7 : Int) + 1 = (o8 : Int) := by have := HO8.out; have := HO7.out; omega
      have e9 : (o8 : Int) + 1 = (o9 : Int) := by have := HO9.out; have := HO8.out; omega
      obtain ⟨m, HMm⟩ : ∃ x, Hid ((S c).p.m = x) := ⟨_, rfl⟩
      rw [HMm.out] at ho hmc HNX
      obtain ⟨q6, HQ6⟩ : ∃ x, Hid (o9 + m = x) := ⟨_, rfl⟩
      have u0 : o0 ≤ 1000000 := by omega
      have u1 : o1 ≤ 1000000 := by have := HO1.out; omega
      have u2 : o2 ≤ 1000000 := by have := HO2.out; omega
      have u3 : o3 ≤ 1000000 := by have := HO3.out; omega
      have u4 : o4 ≤ 1000000 := by have := HO4.out; omega
      have u5 : o5 ≤ 1000000 := by have := HO5.out; omega
      have u6 : o6 ≤ 1000000 := by have := HO6.out; omega
      have u7 : o7 ≤ 1000000 := by have := HO7.out; omega
      have u8 : o8 ≤ 1000000 := by have := HO8.out; omega
      have u9 : o9 ≤ 1000000 := by have := HO9.out; omega
      obtain ⟨s3, HS3⟩ : ∃ x, Hid (mtxt o3 = x) := ⟨_, rfl⟩
      have KM3 : Hid (∀ W, Calls Try.prog 54 #[.int .i64 (o3 : Int)] W fun e w' => e = .returned (.string s3) ∧ Below W.heap.size W w') := fun W => by rw [← HS3.out]; exact markText_any o3 W (by omega)
      have n3 : (s3.toList != s3.toList) = false := by simp
      have n3' := ba_beq s3
      obtain ⟨s4, HS4⟩ : ∃ x, Hid (mtxt o4 = x) := ⟨_, rfl⟩
      have KM4 : Hid (∀ W, Calls Try.prog 54 #[.int .i64 (o4 : Int)] W fun e w' => e = .returned (.string s4) ∧ Below W.heap.size W w') := fun W => by rw [← HS4.out]; exact markText_any o4 W (by omega)
      have n4 : (s4.toList != s4.toList) = false := by simp
      have n4' := ba_beq s4
      obtain ⟨s8, HS8⟩ : ∃ x, Hid (mtxt o8 = x) := ⟨_, rfl⟩
      have KM8 : Hid (∀ W, Calls Try.prog 54 #[.int .i64 (o8 : Int)] W fun e w' => e = .returned (.string s8) ∧ Below W.heap.size W w') := fun W => by rw [← HS8.out]; exact markText_any o8 W (by omega)
      have n8 : (s8.toList != s8.toList) = false := by simp
      have n8' := ba_beq s8
      have n0 : ((o0 : Int) != (o0 : Int)) = false := by simp
      have n1 : ((o1 : Int) != (o1 : Int)) = false := by simp
      have n2 : ((o2 : Int) != (o2 : Int)) = false := by simp
      have n5 : ((o5 : Int) != (o5 : Int)) = false := by simp
      have n6 : ((o6 : Int) != (o6 : Int)) = false := by simp
      have n7 : ((o7 : Int) != (o7 : Int)) = false := by simp
      have hd : mkdY k S c = ⟨(o0 : Int), (o1 : Int), (o2 : Int), s3, ⟨s4, (o5 : Int), (o6 : Int), (o7 : Int), s8, m, fun j => mtxt (o9 + j)⟩⟩ := by
        unfold mkdY
        rw [HO0.out, ← HO1.out, ← HO2.out, ← HO3.out, ← HO4.out, ← HO5.out, ← HO6.out, ← HO7.out, ← HO8.out, ← HO9.out, HS3.out, HS4.out, HS8.out, HMm.out]
      rw [hd] at ey ht1
      simp only [ag10, syV, syC, Value.agg.injEq, Array.mk.injEq, List.cons.injEq, and_true] at ey
      obtain ⟨y0, y1, y2, y3, y4, y5, y6, y7, y8, y9⟩ := ey
      obtain ⟨x0, xq⟩ := one_row (sz := 9) wr (Below.refl _ _) hc1
      have x1 := xq 1 (by omega)
      have x2 := xq 2 (by omega)
      have x3 := xq 3 (by omega)
      have x4 := xq 4 (by omega)
      have x5 := xq 5 (by omega)
      have x6 := xq 6 (by omega)
      have x7 := xq 7 (by omega)
      have x8 := xq 8 (by omega)
      have x9 := xq 9 (by omega)
      rw [y0] at x0
      rw [y1] at x1
      rw [y2] at x2
      rw [y3] at x3
      rw [y4] at x4
      rw [y5] at x5
      rw [y6] at x6
      rw [y7] at x7
      rw [y8] at x8
      rw [y9] at x9
      have KSt : Hid (∀ W, Below wr.heap.size wr W → Calls Try.prog 56 #[.slice p9 m q9, .int .i64 (o9 : Int)] W fun e w' => e = .returned (.int .i64 (q6 : Int)) ∧ Below W.heap.size W w') := fun W hW => heldT_any p9 m q9 o9 q6 W (ht1.below hW) (by omega) (by omega) HQ6.out
      have q6n : ¬ ((q6 : Int) < 0) := by omega
      have KB : Hid (Below w.heap.size w wr) := hbel
      have HQQ : Hid ((q6 : Int) = ((ofy k S (c + 1) : Nat) : Int)) := by show _ = _; rw [HNX.out, ← HQ6.out, HO9.out]
      have lg := block_lt_of_cell x0
      have KBr : Hid (Below wr.heap.size wr wr) := Below.refl _ _
      clear hc1 ht1 hbel hk ho hd xq y0 y1 y2 y3 y4 y5 y6 y7 y8 y9 KH
      go_wp2_with fail
      go_region_held3 (fun w' => w'.cell? ⟨b1, f1 + c * 10 + 3, none⟩ = some (.string s3)) (go_keep) ((go_at_call 54; refine Calls.mono (KM3.out _) ?_; rintro e v1 ⟨rfl, bq'⟩; have bq := below_of_drew bq'; clear bq'; have z3 := (bq.cell (p := ⟨b1, f1 + c * 10 + 3, none⟩) (block_lt_of_cell x3)).trans x3))
      all_goals
        replace x4 := (bq.cell (p := ⟨b1, f1 + c * 10 + 4, none⟩) (block_lt_of_cell x4)).trans x4
        replace x5 := (bq.cell (p := ⟨b1, f1 + c * 10 + 5, none⟩) (block_lt_of_cell x5)).trans x5
        replace x6 := (bq.cell (p := ⟨b1, f1 + c * 10 + 6, none⟩) (block_lt_of_cell x6)).trans x6
        replace x7 := (bq.cell (p := ⟨b1, f1 + c * 10 + 7, none⟩) (block_lt_of_cell x7)).trans x7
        replace x8 := (bq.cell (p := ⟨b1, f1 + c * 10 + 8, none⟩) (block_lt_of_cell x8)).trans x8
        replace x9 := (bq.cell (p := ⟨b1, f1 + c * 10 + 9, none⟩) (block_lt_of_cell x9)).trans x9
        have KB1 : Hid (Below wr.heap.size wr v1) := below2 KBr.out bq
        clear bq z3 x0 x1 x2 x3
        go_wp2_with fail
        go_region_held3 (fun w' => w'.cell? ⟨b1, f1 + c * 10 + 4, none⟩ = some (.string s4)) (go_keep) ((go_at_call 54; refine Calls.mono (KM4.out _) ?_; rintro e v2 ⟨rfl, bq'⟩; have bq := below_of_drew bq'; clear bq'; have z4 := (bq.cell (p := ⟨b1, f1 + c * 10 + 4, none⟩) (block_lt_of_cell x4)).trans x4))
        all_goals
          replace x5 := (bq.cell (p := ⟨b1, f1 + c * 10 + 5, none⟩) (block_lt_of_cell x5)).trans x5
          replace x6 := (bq.cell (p := ⟨b1, f1 + c * 10 + 6, none⟩) (block_lt_of_cell x6)).trans x6
          replace x7 := (bq.cell (p := ⟨b1, f1 + c * 10 + 7, none⟩) (block_lt_of_cell x7)).trans x7
          replace x8 := (bq.cell (p := ⟨b1, f1 + c * 10 + 8, none⟩) (block_lt_of_cell x8)).trans x8
          replace x9 := (bq.cell (p := ⟨b1, f1 + c * 10 + 9, none⟩) (block_lt_of_cell x9)).trans x9
          have KB2 : Hid (Below wr.heap.size wr v2) := below2 KB1.out bq
          clear bq z4 x4
          go_wp2_with fail
          go_region_held3 (fun w' => w'.cell? ⟨b1, f1 + c * 10 + 8, none⟩ = some (.string s8)) (go_keep) ((go_at_call 54; refine Calls.mono (KM8.out _) ?_; rintro e v3 ⟨rfl, bq'⟩; have bq := below_of_drew bq'; clear bq'; have z8 := (bq.cell (p := ⟨b1, f1 + c * 10 + 8, none⟩) (block_lt_of_cell x8)).trans x8))
          all_goals
            replace x9 := (bq.cell (p := ⟨b1, f1 + c * 10 + 9, none⟩) (block_lt_of_cell x9)).trans x9
            have KB3 : Hid (Below wr.heap.size wr v3) := below2 KB2.out bq
            clear bq z8 x5 x6 x7 x8
            go_wp2_with fail
            refine Calls.mono (KSt.out _ KB3.out) ?_
            rintro e w3 ⟨rfl, b3⟩
            have HB3 : Hid (Below w.heap.size w w3) := below2 KB.out (below2 KB3.out b3)
            clear b3 x9
            go_wp2
            go_roundw
            case rel => exact ⟨c + 1, by omega, by rw [HQQ.out], by go_num, HB3.out⟩
            case measure => simp [intOf]; omega
    · obtain rfl : c = n := by omega
      go_wp2
      go_ret
      exact ⟨rfl, hbel⟩
end Go.Proofs.Ytcnigfejpfcfaaa

/- What the exact laws count of slots and nodes. Conditions: what each says. -/
namespace Go.Proofs.Ytcnigfejpfcfaaa
set_option maxRecDepth 2000
open Go.ChangeShapes Go.WideShapes Go.ChangeAt Go.RowKit

/-- What is left of l behind a weight, or -1. -/
def szN (l x : Nat) : Int := if x ≤ l then ((l - x : Nat) : Int) else -1
theorem szN_yes {l x : Nat} (h : x ≤ l) : szN l x = ((l - x : Nat) : Int) := if_pos h
theorem szN_no {l x : Nat} (h : ¬ x ≤ l) : szN l x = -1 := if_neg h
def wtP (p : Pc) : Nat := p.r.size + p.b.size + (p.m + tot (fun i => (p.S i).size) p.m)
def wtS (s : Sl) : Nat := s.r.size + wtP s.p + s.ze.length + s.zr.length
theorem szPc_eq (p : Pc) (l : Nat) : szPc p.r p.b p.m p.S l = szN l (wtP p) := by
  by_cases h : wtP p ≤ l
  · rw [szN_yes h]; exact szPc_yes h
  · rw [szN_no h]; exact szPc_no h
/-- What the form tells of a slot that came in. -/
structure SlI (w : World) (s : Sl) (a6 : Option Addr) : Prop where
  r : s.r.size ≤ maxLen
  pr : s.p.r.size ≤ maxLen
  pb : s.p.b.size ≤ maxLen
  tx : IsTxt w a6 s.p.m s.p.S
  ne : s.ze.length ≤ maxLen
  nr : s.zr.length ≤ maxLen
theorem szI_any (a : Option Addr) (n cap l : Nat) (w : World) (hn : n ≤ maxLen) (hl : l ≤ 1048576) : Calls Try.prog 77 #[.slice a n cap, .int .i64 (l : Int)] w fun e w' => e = .returned (.int .i64 (szN l n)) ∧ w' = w := by
  unfold maxLen at hn
  by_cases h : n ≤ l
  · rw [szN_yes h]
    obtain ⟨d, hd⟩ : ∃ d, l - n = d := ⟨_, rfl⟩
    rw [hd]
    have e : IntKind.i64.wrap ((l : Int) - (n : Int)) = (d : Int) := by rw [IntKind.wrap_i64]; omega
    have h0 : ¬ ((d : Int) < 0) := by omega
    go_enter Try.func77, Try.ntmps77
    go_wp2
    go_ret
    exact ⟨rfl, rfl⟩
  · rw [szN_no h]
    have e : IntKind.i64.wrap ((l : Int) - (n : Int)) = (l : Int) - (n : Int) := by rw [IntKind.wrap_i64]; omega
    have h0 : (l : Int) - (n : Int) < 0 := by omega
    go_enter Try.func77, Try.ntmps77
    go_wp2
    go_ret
    exact ⟨rfl, rfl⟩
set_option maxHeartbeats 4000000 in
theorem szSl_any (s : Sl) (a6 a11 a12 : Option Addr) (c6 c11 c12 l : Nat) (w : World) (h : SlI w s a6) (hl : l ≤ 1048576) :
    Calls Try.prog 58 #[slV s (.slice a6 s.p.m c6) (.slice a11 s.ze.length c11) (.slice a12 s.zr.length c12), .int .i64 (l : Int)] w fun e w' => e = .returned (.int .i64 (szN l (wtS s))) ∧ Below w.heap.size w w' := by
  obtain ⟨r, p, fh, fe, fd, fo, ze, zr⟩ := s
  obtain ⟨hr, hpr, hpb, htx, hne, hnr⟩ := h
  simp only at hr hpr hpb htx hne hnr
  have HWT : Hid (wtS ⟨r, p, fh, fe, fd, fo, ze, zr⟩ = r.size + wtP p + ze.length + zr.length) := rfl
  rw [HWT.out]
  simp only
  obtain ⟨A, HA⟩ : ∃ x, Hid (x = w.heap.size) := ⟨_, rfl⟩
  obtain ⟨w0, HW0⟩ : ∃ x, Hid (x = w.alloc (.cells (slC ⟨r, p, fh, fe, fd, fo, ze, zr⟩ (.slice a6 p.m c6) (.slice a11 ze.length c11) (.slice a12 zr.length c12)) 85)) := ⟨_, rfl⟩
  have RA : Hid (Row w0 A 85 (slC ⟨r, p, fh, fe, fd, fo, ze, zr⟩ (.slice a6 p.m c6) (.slice a11 ze.length c11) (.slice a12 zr.length c12))) := by
    show Row _ _ _ _
    rw [HW0.out, HA.out]
    exact Row.new w _ _
  have hb0 : Below w.heap.size w w0 := by rw [HW0.out]; exact (Below.refl _ _).alloc (Nat.le_refl _) _
  have KB0 : Hid (Below w.heap.size w w0) := hb0
  have KP : Hid (∀ l1 : Nat, l1 ≤ 1048576 → Calls Try.prog 76 #[pcV p.r p.k p.n p.i p.b (.slice a6 p.m c6), .int .i64 (l1 : Int)] w0 fun e w' => e = .returned (.int .i64 (szN l1 (wtP p))) ∧ Below w0.heap.size w0 w') := fun l1 h1 => by
    rw [← szPc_eq]
    exact szPc_any p.r p.k p.n p.i p.b a6 p.m c6 p.S l1 w0 (htx.1.below hb0) h1 htx.2.1 htx.2.2 hpr hpb
  have KE : Hid (∀ (l1 : Nat) W, l1 ≤ 1048576 → Calls Try.prog 77 #[.slice a11 ze.length c11, .int .i64 (l1 : Int)] W fun e w' => e = .returned (.int .i64 (szN l1 ze.length)) ∧ w' = W) := fun l1 W h1 => szI_any a11 _ c11 l1 W hne h1
  have KZ : Hid (∀ (l1 : Nat) W, l1 ≤ 1048576 → Calls Try.prog 77 #[.slice a12 zr.length c12, .int .i64 (l1 : Int)] W fun e w' => e = .returned (.int .i64 (szN l1 zr.length)) ∧ w' = W) := fun l1 W h1 => szI_any a12 _ c12 l1 W hnr h1
  obtain ⟨pr, pk, pn, pi, pb, m, S⟩ := p
  simp only at *
  obtain ⟨x, hx⟩ : ∃ x, r.size = x := ⟨_, rfl⟩
  rw [hx] at hr ⊢
  unfold maxLen at hr
  generalize ze.length = le at *
  generalize zr.length = lr at *
  generalize wtP ⟨pr, pk, pn, pi, pb, m, S⟩ = wp at *
  clear hpr hpb htx hne hnr hb0 HWT
  by_cases h1 : x ≤ l
  case neg =>
    rw [szN_no (by omega)]
    have e1 : IntKind.i64.wrap ((l : Int) - (x : Int)) = (l : Int) - (x : Int) := by rw [IntKind.wrap_i64]; omega
    have n1 : (l : Int) - (x : Int) < 0 := by omega
    go_enter Try.func58, Try.ntmps58
    go_wp2
    go_ret
    exact ⟨rfl, by rw [← HW0.out]; exact KB0.out⟩
  obtain ⟨l1, hl1⟩ : ∃ l1, l = x + l1 := ⟨l - x, by omega⟩
  have e1 : IntKind.i64.wrap ((l : Int) - (x : Int)) = (l1 : Int) := by rw [IntKind.wrap_i64]; omega
  have n1 : ¬ ((l1 : Int) < 0) := by omega
  have KP1 : Hid _ := KP.out l1 (by omega)
  by_cases h2 : wp ≤ l1
  case neg =>
    rw [szN_no (by omega)]
    rw [szN_no h2] at KP1
    clear hl1
    go_enter Try.func58, Try.ntmps58
    go_wp2_with fail
    rw [← HW0.out]
    refine Calls.mono KP1.out ?_
    rintro e w1 ⟨rfl, b1⟩
    go_wp2
    go_ret
    exact ⟨rfl, below2 KB0.out b1⟩
  obtain ⟨l2, hl2⟩ : ∃ l2, l1 = wp + l2 := ⟨l1 - wp, by omega⟩
  have n2 : ¬ ((l2 : Int) < 0) := by omega
  rw [szN_yes h2, show l1 - wp = l2 by omega] at KP1
  have KE1 : Hid (∀ W, _) := fun W => KE.out l2 W (by omega)
  by_cases h3 : le ≤ l2
  case neg =>
    rw [szN_no (by omega)]
    rw [szN_no h3] at KE1
    clear hl1 hl2
    go_enter Try.func58, Try.ntmps58
    go_wp2_with fail
    rw [← HW0.out, ← HA.out]
    refine Calls.mono KP1.out ?_
    rintro e w1 ⟨rfl, b1⟩
    have x11 := (RA.out.below b1 RA.out.lt).cell 11
    simp at x11
    go_wp2_with fail
    refine Calls.mono (KE1.out _) ?_
    rintro e w2 ⟨rfl, hw⟩
    obtain rfl := hw.symm
    clear hw
    go_wp2
    go_ret
    exact ⟨rfl, below2 KB0.out b1⟩
  obtain ⟨l3, hl3⟩ : ∃ l3, l2 = le + l3 := ⟨l2 - le, by omega⟩
  have n3 : ¬ ((l3 : Int) < 0) := by omega
  rw [szN_yes h3, show l2 - le = l3 by omega] at KE1
  have KZ1 : Hid (∀ W, _) := fun W => KZ.out l3 W (by omega)
  by_cases h4 : lr ≤ l3
  case neg =>
    rw [szN_no (by omega)]
    rw [szN_no h4] at KZ1
    clear hl1 hl2 hl3
    go_enter Try.func58, Try.ntmps58
    go_wp2_with fail
    rw [← HW0.out, ← HA.out]
    refine Calls.mono KP1.out ?_
    rintro e w1 ⟨rfl, b1⟩
    have x11 := (RA.out.below b1 RA.out.lt).cell 11
    have x12 := (RA.out.below b1 RA.out.lt).cell 12
    simp at x11 x12
    go_wp2_with fail
    refine Calls.mono (KE1.out _) ?_
    rintro e w2 ⟨rfl, hw⟩
    obtain rfl := hw.symm
    clear hw
    go_wp2_with fail
    refine Calls.mono (KZ1.out _) ?_
    rintro e w3 ⟨rfl, hw⟩
    obtain rfl := hw.symm
    clear hw
    go_wp2
    go_ret
    exact ⟨rfl, below2 KB0.out b1⟩
  obtain ⟨l4, hl4⟩ : ∃ l4, l3 = lr + l4 := ⟨l3 - lr, by omega⟩
  have n4 : ¬ ((l4 : Int) < 0) := by omega
  rw [szN_yes h4, show l3 - lr = l4 by omega] at KZ1
  rw [szN_yes (by omega), show l - (x + wp + le + lr) = l4 by omega]
  clear hl1 hl2 hl3 hl4
  go_enter Try.func58, Try.ntmps58
  go_wp2_with fail
  rw [← HW0.out, ← HA.out]
  refine Calls.mono KP1.out ?_
  rintro e w1 ⟨rfl, b1⟩
  have x11 := (RA.out.below b1 RA.out.lt).cell 11
  have x12 := (RA.out.below b1 RA.out.lt).cell 12
  simp at x11 x12
  go_wp2_with fail
  refine Calls.mono (KE1.out _) ?_
  rintro e w2 ⟨rfl, hw⟩
  obtain rfl := hw.symm
  clear hw
  go_wp2_with fail
  refine Calls.mono (KZ1.out _) ?_
  rintro e w3 ⟨rfl, hw⟩
  obtain rfl := hw.symm
  clear hw
  go_wp2
  go_ret
  exact ⟨rfl, below2 KB0.out b1⟩
/-- The same without its memory. -/
structure SlB (s : Sl) : Prop where
  r : s.r.size ≤ maxLen
  pr : s.p.r.size ≤ maxLen
  pb : s.p.b.size ≤ maxLen
  m : s.p.m ≤ maxLen
  tx : ∀ i, i < s.p.m → (s.p.S i).size ≤ maxLen
  ne : s.ze.length ≤ maxLen
  nr : s.zr.length ≤ maxLen
theorem SlB.i {s : Sl} (h : SlB s) {w : World} {a6 : Option Addr} (ht : TxtAt w a6 s.p.m s.p.S) : SlI w s a6 := ⟨h.r, h.pr, h.pb, ⟨ht, h.m, h.tx⟩, h.ne, h.nr⟩
def wtL (n : Nat) (S : Nat → Sl) : Nat := n + tot (fun i => wtS (S i)) n
theorem Try.infoSlL : (Try.prog.info? 85).map (·.size) = some 13 := by kernel_rfl
set_option maxHeartbeats 4000000 in
theorem szSls_any (a : Option Addr) (n cap : Nat) (S : Nat → Sl) (l : Nat) (w : World) (h : Rd w (slsD n S) (.slice a n cap)) (hl : l ≤ 1048576) (hn : n ≤ maxLen) (hL : ∀ i, i < n → SlB (S i)) :
    Calls Try.prog 32 #[.slice a n cap, .int .i64 (l : Int)] w fun e w' => e = .returned (.int .i64 (szN l (wtL n S))) ∧ Below w.heap.size w w' := by
  unfold maxLen at hn
  by_cases h1 : n ≤ l
  · obtain ⟨d, hd⟩ : ∃ d, l - n = d := ⟨_, rfl⟩
    have hw : IntKind.i64.wrap ((l : Int) - (n : Int)) = (d : Int) := by rw [IntKind.wrap_i64]; omega
    have h0 : ¬ ((d : Int) < 0) := by omega
    have KL : Hid (∀ i, i < n → SlB (S i)) := hL
    have KH : Hid (Rd w (slsD n S) (.slice a n cap)) := h
    clear hL h
    go_enter Try.func32, Try.ntmps32
    go_wp2
    go_loopw [1, 5] (fun p i wr => ∃ c q : Nat, c ≤ n ∧ q ≤ 1048576 ∧ Hid (tot (fun i => wtS (S i)) c + q = d) ∧ p = .int .i64 (q : Int) ∧ i = .int .i64 (c : Int) ∧ Below w.heap.size w wr) (fun _ i _ => n - (intOf i).toNat)
    case atStart => exact ⟨0, d, Nat.zero_le _, by omega, by show 0 + d = d; omega, rfl, rfl, Below.refl _ _⟩
    case round =>
      obtain ⟨c, q, hc, hq, HT, rfl, rfl, hbel⟩ := hrel
      clear hw h0
      by_cases hlt : c < n
      · obtain ⟨b1, f1, y1, p6, p11, p12, q6, q11, q12, rfl, hc1, e1, ht1, he1, hz1⟩ := slot_row (KH.out.below hbel) hlt
        have hti := tot_le (fun i => wtS (S i)) hlt
        have hlti : (c : Int) < (n : Int) := by omega
        have HT' := HT.out
        obtain ⟨lc, HLC⟩ : ∃ x, Hid (wtS (S c) = x) := ⟨_, rfl⟩
        have KTS : Hid (tot (fun i => wtS (S i)) (c + 1) = tot (fun i => wtS (S i)) c + lc) := by rw [← HLC.out]; rfl
        have hti' : tot (fun i => wtS (S i)) c + lc ≤ tot (fun i => wtS (S i)) n := by rw [← HLC.out]; exact hti
        have KZ : Hid (Calls Try.prog 58 #[ag13 y1, .int .i64 (q : Int)] wr fun e w' => e = .returned (.int .i64 (szN q lc)) ∧ Below wr.heap.size wr w') := by
          rw [e1, ← HLC.out]
          exact szSl_any (S c) p6 p11 p12 q6 q11 q12 q wr ((KL.out c hlt).i ht1) hq
        obtain ⟨_, x⟩ := one_row (sz := 12) wr (Below.refl _ _) hc1
        have R1 : Hid (wr.rangeAt b1 (f1 + c * 13) [y1 0, y1 1, y1 2, y1 3, y1 4, y1 5, y1 6, y1 7, y1 8, y1 9, y1 10, y1 11, y1 12]) := range13 x
        have KB : Hid (Below w.heap.size w wr) := hbel
        clear hti hc1 e1 ht1 he1 hz1 x hbel
        by_cases h2 : lc ≤ q
        · obtain ⟨q', hq'⟩ : ∃ q', q - lc = q' := ⟨_, rfl⟩
          have h3 : ¬ ((q' : Int) < 0) := by omega
          have HT2 : Hid (tot (fun i => wtS (S i)) (c + 1) + q' = d) := by show _ = _; rw [KTS.out]; omega
          have hq2 : q' ≤ 1048576 := by omega
          rw [szN_yes h2, hq'] at KZ
          clear HT HT' hti' KTS
          go_wp2_with (refine wpList_load_mid (by rfl) 85 _ (by rfl) b1 (f1 + c * 13) (by rfl) _ _ R1.out Try.underlying85 (by rfl) Try.infoSlL ?_)
          refine Calls.mono KZ.out ?_
          rintro e w1 ⟨rfl, bb⟩
          have KB1 : Hid (Below w.heap.size w w1) := below2 KB.out bb
          clear bb KZ R1
          go_wp2
          go_roundw
          case rel => exact ⟨c + 1, q', by omega, hq2, HT2, rfl, by go_num, KB1.out⟩
          case measure => simp [intOf] <;> omega
        · have HR : Hid (szN l (wtL n S) = -1) := szN_no (by unfold wtL; omega)
          rw [szN_no h2] at KZ
          clear HT HT' hti' KTS
          go_wp2_with (refine wpList_load_mid (by rfl) 85 _ (by rfl) b1 (f1 + c * 13) (by rfl) _ _ R1.out Try.underlying85 (by rfl) Try.infoSlL ?_)
          refine Calls.mono KZ.out ?_
          rintro e w1 ⟨rfl, bb⟩
          have KB1 : Hid (Below w.heap.size w w1) := below2 KB.out bb
          clear bb KZ R1
          go_wp2
          go_ret
          exact ⟨ret_int HR.out.symm, KB1.out⟩
      · obtain rfl : c = n := by omega
        have HR : Hid (szN l (wtL c S) = (q : Int)) := by
          have := HT.out
          have e : l - (c + tot (fun i => wtS (S i)) c) = q := by omega
          exact (szN_yes (by unfold wtL; omega)).trans (by unfold wtL; rw [e])
        clear KH
        go_wp2
        go_ret
        exact ⟨ret_int HR.out.symm, hbel⟩
  · have h0 : (l : Int) - (n : Int) < 0 := by omega
    have hw : IntKind.i64.wrap ((l : Int) - (n : Int)) = (l : Int) - (n : Int) := by rw [IntKind.wrap_i64]; omega
    have HR : Hid (szN l (wtL n S) = -1) := szN_no (by unfold wtL; omega)
    clear h hL
    go_enter Try.func32, Try.ntmps32
    go_wp2
    go_ret
    exact ⟨ret_int HR.out.symm, Below.refl _ _⟩
set_option maxHeartbeats 1000000 in
theorem szNd_any (id f : Int) (a : Option Addr) (n cap : Nat) (S : Nat → Sl) (l : Nat) (w : World) (h : Rd w (slsD n S) (.slice a n cap)) (hl : l ≤ 1048576) (hn : n ≤ maxLen) (hL : ∀ i, i < n → SlB (S i)) :
    Calls Try.prog 12 #[.agg #[.int .i64 id, .int .i64 f, .slice a n cap], .int .i64 (l : Int)] w fun e w' => e = .returned (.int .i64 (szN l (wtL n S))) ∧ Below w.heap.size w w' := by
  obtain ⟨w0, HW0⟩ : ∃ x, Hid (x = w.alloc (.cells #[.int .i64 id, .int .i64 f, .slice a n cap] 32)) := ⟨_, rfl⟩
  have hb0 : Below w.heap.size w w0 := by rw [HW0.out]; exact (Below.refl _ _).alloc (Nat.le_refl _) _
  have KB0 : Hid (Below w.heap.size w w0) := hb0
  have KZ : Hid _ := szSls_any a n cap S l w0 (h.below hb0) hl hn hL
  clear h hL hb0
  by_cases h1 : wtL n S ≤ l
  · obtain ⟨d, hd⟩ : ∃ d, l - wtL n S = d := ⟨_, rfl⟩
    rw [szN_yes h1, hd] at KZ
    rw [szN_yes h1, hd]
    have h0 : ¬ ((d : Int) < 0) := by omega
    clear h1 hd
    go_enter Try.func12, Try.ntmps12
    go_wp2_with fail
    rw [← HW0.out]
    refine Calls.mono KZ.out ?_
    rintro e w1 ⟨rfl, b1⟩
    go_wp2
    go_ret
    exact ⟨rfl, below2 KB0.out b1⟩
  · rw [szN_no h1] at KZ
    rw [szN_no h1]
    clear h1
    go_enter Try.func12, Try.ntmps12
    go_wp2_with fail
    rw [← HW0.out]
    refine Calls.mono KZ.out ?_
    rintro e w1 ⟨rfl, b1⟩
    go_wp2
    go_ret
    exact ⟨rfl, below2 KB0.out b1⟩
end Go.Proofs.Ytcnigfejpfcfaaa

/- Slots, lists of slots and nodes, copied by the exact laws: the copies lie in new memory. Conditions: no list is longer than 2^20. Written by mknto.py. -/
namespace Go.Proofs.Ytcnigfejpfcfaaa
set_option maxRecDepth 2000
open Go.ChangeShapes Go.WideShapes Go.ChangeAt Go.RowKit

/-- A row of numbers that is ours, as a datum. -/
theorem ow_ints {w : World} {B : Nat} {a : Option Addr} {cap : Nat} {zs : List Int} {F : Nat → Prop} (h : w.ownsRow B 3 1 (.slice a zs.length cap) zs.length (zs.map (Value.int .i64))) (hF : ∀ x, a = some x → F x.block) : Ow w B (inD zs) (.slice a zs.length cap) F := by
  refine ⟨a, cap, fun i _ => .int .i64 (zs.getD i 0), fun _ _ _ => False, rfl, ?_, ⟨hF, fun _ _ _ _ _ h => h.elim, fun _ _ _ _ _ _ h => h, fun _ _ _ _ _ _ _ _ _ h => h.elim⟩, fun _ _ _ _ => rfl⟩
  have : cL 1 (fun i _ => Value.int .i64 (zs.getD i 0)) zs.length = zs.map (Value.int .i64) := by
    apply List.ext_getElem?
    intro i
    by_cases hi : i < zs.length
    · have := cL_get 1 (fun i _ => Value.int .i64 (zs.getD i 0)) zs.length i 0 hi (by omega)
      rw [Nat.mul_one, Nat.add_zero] at this
      rw [this]
      simp [hi]
    · rw [List.getElem?_eq_none (by rw [cL_len]; omega), List.getElem?_eq_none (by simp; omega)]
  rw [this]
  exact h
theorem ints_ow {w : World} {B : Nat} {v : Value} {zs : List Int} {F : Nat → Prop} (h : Ow w B (inD zs) v F) : ∃ a cap, v = .slice a zs.length cap ∧ w.ownsRow B 3 1 (.slice a zs.length cap) zs.length (zs.map (Value.int .i64)) ∧ ∀ x, a = some x → F x.block := by
  obtain ⟨a, cap, c, G, e, ho, hs, hr⟩ := h
  refine ⟨a, cap, e, ?_, hs.head⟩
  have : cL 1 c zs.length = zs.map (Value.int .i64) := by
    apply List.ext_getElem?
    intro i
    by_cases hi : i < zs.length
    · have := cL_get 1 c zs.length i 0 hi (by omega)
      rw [Nat.mul_one, Nat.add_zero] at this
      rw [this]
      have h2 : c i 0 = .int .i64 (zs.getD i 0) := hr i 0 hi (by omega)
      rw [h2]
      simp [hi]
    · rw [List.getElem?_eq_none (by rw [cL_len]; omega), List.getElem?_eq_none (by simp; omega)]
  rw [← this]
  exact ho
theorem grown_row (w : World) (g : Nat) (cs : Array Value) : w.grownBy (w.setRow g cs) (some g) := ⟨rfl, rfl, rfl, by simp, fun i _ hi => setRow_other _ _ _ _ (fun e => hi (by simp [e]))⟩
theorem World.size_setCells (b : Nat) : ∀ (vs : List Value) (o : Nat) (w : World), (w.setCells b o vs).heap.size = w.heap.size
  | [], _, _ => rfl
  | v :: r, o, w => by rw [World.setCells, World.size_setCells b r (o + 1) _]; simp
set_option maxHeartbeats 4000000 in
theorem toSl_any (s : Sl) (a6 a11 a12 : Option Addr) (c6 c11 c12 : Nat) (w : World) (h6 : TxtAt w a6 s.p.m s.p.S) (h11 : IntsAt w a11 s.ze.length s.ze) (h12 : IntsAt w a12 s.zr.length s.zr) (hs : SlS s) :
    Calls Try.prog 60 #[slV s (.slice a6 s.p.m c6) (.slice a11 s.ze.length c11) (.slice a12 s.zr.length c12)] w fun e w' => ∃ g6 g11 g12 : Nat, e = .returned (slV s (.slice (some ⟨g6, 0, none⟩) s.p.m s.p.m) (.slice (some ⟨g11, 0, none⟩) s.ze.length s.ze.length) (.slice (some ⟨g12, 0, none⟩) s.zr.length s.zr.length)) ∧
      w.heap.size ≤ g6 ∧ g6 < g11 ∧ g11 < g12 ∧ g12 < w'.heap.size ∧ Ow w' w.heap.size (txD s.p.m s.p.S) (.slice (some ⟨g6, 0, none⟩) s.p.m s.p.m) (fun g => g = g6) ∧ Ow w' w.heap.size (inD s.ze) (.slice (some ⟨g11, 0, none⟩) s.ze.length s.ze.length) (fun g => g = g11) ∧ Ow w' w.heap.size (inD s.zr) (.slice (some ⟨g12, 0, none⟩) s.zr.length s.zr.length) (fun g => g = g12) ∧ Below w.heap.size w w' := by
  obtain ⟨r, p, fh, fe, fd, fo, ze, zr⟩ := s
  obtain ⟨pr, pk, pn, pi, pb, m, S⟩ := p
  obtain ⟨hm, he, hz⟩ := hs
  simp only at h6 h11 h12 hm he hz ⊢
  obtain ⟨A, HA⟩ : ∃ x, Hid (x = w.heap.size) := ⟨_, rfl⟩
  obtain ⟨D, HD⟩ : ∃ x, Hid (x = w.heap.size + 1) := ⟨_, rfl⟩
  obtain ⟨V, HV⟩ : ∃ x, Hid (x = w.heap.size + 1 + 1) := ⟨_, rfl⟩
  obtain ⟨w0, HW0⟩ : ∃ x, Hid (x = ((w.alloc (.cells (slC ⟨r, ⟨pr, pk, pn, pi, pb, m, S⟩, fh, fe, fd, fo, ze, zr⟩ (.slice a6 m c6) (.slice a11 ze.length c11) (.slice a12 zr.length c12)) 85)).alloc (.cells #[.string ⟨#[]⟩, .string ⟨#[]⟩, .int .i64 0, .int .i64 0, .int .i64 0, .string ⟨#[]⟩, .slice none 0 0, .bool false, .bool false, .bool false, .bool false, .slice none 0 0, .slice none 0 0] 42)).alloc (.cells #[.string r, .string ⟨#[]⟩, .int .i64 0, .int .i64 0, .int .i64 0, .string ⟨#[]⟩, .slice none 0 0, .bool false, .bool false, .bool false, .bool false, .slice none 0 0, .slice none 0 0] 42)) := ⟨_, rfl⟩
  have RA : Hid (Row w0 A 85 (slC ⟨r, ⟨pr, pk, pn, pi, pb, m, S⟩, fh, fe, fd, fo, ze, zr⟩ (.slice a6 m c6) (.slice a11 ze.length c11) (.slice a12 zr.length c12))) := by show Row _ _ _ _; rw [HW0.out, HA.out]; exact Row.alloc (Row.alloc (Row.new w _ _) _) _
  have RD : Hid (Row w0 D 42 #[.string ⟨#[]⟩, .string ⟨#[]⟩, .int .i64 0, .int .i64 0, .int .i64 0, .string ⟨#[]⟩, .slice none 0 0, .bool false, .bool false, .bool false, .bool false, .slice none 0 0, .slice none 0 0]) := by
    show Row _ _ _ _
    rw [HW0.out, HD.out]
    have := Row.new (w.alloc (.cells (slC ⟨r, ⟨pr, pk, pn, pi, pb, m, S⟩, fh, fe, fd, fo, ze, zr⟩ (.slice a6 m c6) (.slice a11 ze.length c11) (.slice a12 zr.length c12)) 85)) #[.string ⟨#[]⟩, .string ⟨#[]⟩, .int .i64 0, .int .i64 0, .int .i64 0, .string ⟨#[]⟩, .slice none 0 0, .bool false, .bool false, .bool false, .bool false, .slice none 0 0, .slice none 0 0] 42
    exact Row.alloc (by simpa using this) _
  have RV : Hid (Row w0 V 42 #[.string r, .string ⟨#[]⟩, .int .i64 0, .int .i64 0, .int .i64 0, .string ⟨#[]⟩, .slice none 0 0, .bool false, .bool false, .bool false, .bool false, .slice none 0 0, .slice none 0 0]) := by
    show Row _ _ _ _
    rw [HW0.out, HV.out]
    have := Row.new ((w.alloc (.cells (slC ⟨r, ⟨pr, pk, pn, pi, pb, m, S⟩, fh, fe, fd, fo, ze, zr⟩ (.slice a6 m c6) (.slice a11 ze.length c11) (.slice a12 zr.length c12)) 85)).alloc (.cells #[.string ⟨#[]⟩, .string ⟨#[]⟩, .int .i64 0, .int .i64 0, .int .i64 0, .string ⟨#[]⟩, .slice none 0 0, .bool false, .bool false, .bool false, .bool false, .slice none 0 0, .slice none 0 0] 42)) #[.string r, .string ⟨#[]⟩, .int .i64 0, .int .i64 0, .int .i64 0, .string ⟨#[]⟩, .slice none 0 0, .bool false, .bool false, .bool false, .bool false, .slice none 0 0, .slice none 0 0] 42
    simpa using this
  have hb0 : Below w.heap.size w w0 := by rw [HW0.out]; exact (((Below.refl _ _).alloc (Nat.le_refl _) _).alloc (by simp) _).alloc (by simp; omega) _
  have hVD : Hid (V ≠ D ∧ A ≠ V ∧ A ≠ D ∧ w.heap.size ≤ D ∧ w.heap.size ≤ V ∧ V < w0.heap.size ∧ D < w0.heap.size) := by
    have h1 := HV.out; have h2 := HD.out; have h3 := HA.out
    exact ⟨by omega, by omega, by omega, by omega, by omega, RV.out.lt, RD.out.lt⟩
  have KB0 : Hid (Below w.heap.size w w0) := hb0
  have KP : Hid _ := toPc_any pr pk pn pi pb a6 m c6 S w0 (h6.below hb0) hm
  have KEW : Hid (∀ W, Below w.heap.size w W → Calls Try.prog 82 #[.slice a11 ze.length c11] W fun e w' => e = .returned (.slice (some ⟨W.heap.size, 0, none⟩) ze.length ze.length) ∧ w'.ownsRow W.heap.size 3 1 (.slice (some ⟨W.heap.size, 0, none⟩) ze.length ze.length) ze.length (ze.map (Value.int .i64)) ∧ Below W.heap.size W w') := fun W hW => toIntS_any a11 _ c11 ze W (h11.below hW) he
  have KZW : Hid (∀ W, Below w.heap.size w W → Calls Try.prog 82 #[.slice a12 zr.length c12] W fun e w' => e = .returned (.slice (some ⟨W.heap.size, 0, none⟩) zr.length zr.length) ∧ w'.ownsRow W.heap.size 3 1 (.slice (some ⟨W.heap.size, 0, none⟩) zr.length zr.length) zr.length (zr.map (Value.int .i64)) ∧ Below W.heap.size W w') := fun W hW => toIntS_any a12 _ c12 zr W (h12.below hW) hz
  obtain ⟨le, HLE⟩ : ∃ x, Hid (ze.length = x) := ⟨_, rfl⟩
  obtain ⟨lr, HLR⟩ : ∃ x, Hid (zr.length = x) := ⟨_, rfl⟩
  have OI : Hid (∀ (B : Nat) (W : World) (g : Nat), W.ownsRow B 3 1 (.slice (some ⟨g, 0, none⟩) le le) le (ze.map (Value.int .i64)) → Ow W B (inD ze) (.slice (some ⟨g, 0, none⟩) le le) (fun x => x = g)) := fun B W g ho => by
    rw [← HLE.out] at ho ⊢
    exact ow_ints ho (fun x e => by cases e; rfl)
  have OZ : Hid (∀ (B : Nat) (W : World) (g : Nat), W.ownsRow B 3 1 (.slice (some ⟨g, 0, none⟩) lr lr) lr (zr.map (Value.int .i64)) → Ow W B (inD zr) (.slice (some ⟨g, 0, none⟩) lr lr) (fun x => x = g)) := fun B W g ho => by
    rw [← HLR.out] at ho ⊢
    exact ow_ints ho (fun x e => by cases e; rfl)
  rw [HLE.out] at KEW RA HW0 ⊢
  rw [HLR.out] at KZW RA HW0 ⊢
  clear h6 h11 h12 hm he hz hb0
  go_enter Try.func60, Try.ntmps60
  go_wp2_with fail
  rw [← HW0.out, ← HV.out, ← HD.out, ← HA.out]
  refine Calls.mono KP.out ?_
  rintro e w1 ⟨g6, rfl, O6, b1⟩
  have S6 : Hid (w0.heap.size ≤ g6 ∧ g6 < w1.heap.size) := World.ownsRow.lt O6 g6 rfl
  have A1 := RA.out.below b1 RA.out.lt
  have D1 : Hid (Row w1 D 42 #[.string ⟨#[]⟩, .string ⟨#[]⟩, .int .i64 0, .int .i64 0, .int .i64 0, .string ⟨#[]⟩, .slice none 0 0, .bool false, .bool false, .bool false, .bool false, .slice none 0 0, .slice none 0 0]) := RD.out.below b1 RD.out.lt
  have V1 := RV.out.below b1 RV.out.lt
  have x7 := A1.cell 7
  have x8 := A1.cell 8
  have x9 := A1.cell 9
  have x10 := A1.cell 10
  have x11 := A1.cell 11
  have y1 := V1.cell 1
  have y2 := V1.cell 2
  have y3 := V1.cell 3
  have y4 := V1.cell 4
  have y5 := V1.cell 5
  have y6 := V1.cell 6
  have y7 := V1.cell 7
  have y8 := V1.cell 8
  have y9 := V1.cell 9
  have y10 := V1.cell 10
  have f1 := V1.free 1
  have f2 := V1.free 2
  have f3 := V1.free 3
  have f4 := V1.free 4
  have f5 := V1.free 5
  have f6 := V1.free 6
  have f7 := V1.free 7
  have f8 := V1.free 8
  have f9 := V1.free 9
  have f10 := V1.free 10
  simp at x7 x8 x9 x10 x11 y1 y2 y3 y4 y5 y6 y7 y8 y9 y10
  have TH : Hid (w1.there V 1 6) := fun j hj => by
    match j, hj with
    | 0, _ => exact ⟨by rw [y1]; rfl, f1⟩
    | 1, _ => exact ⟨by rw [y2]; rfl, f2⟩
    | 2, _ => exact ⟨by rw [y3]; rfl, f3⟩
    | 3, _ => exact ⟨by rw [y4]; rfl, f4⟩
    | 4, _ => exact ⟨by rw [y5]; rfl, f5⟩
    | 5, _ => exact ⟨by rw [y6]; rfl, f6⟩
  clear x7 x8 x9 x10 x11 y1 y2 y3 y4 y5 y6 y7 y8 y9 y10 f1 f2 f3 f4 f5 f6 f7 f8 f9 f10
  obtain ⟨wa, HWa⟩ : ∃ x, Hid (x = w1.setCells V 1 (pcC pr pk pn pi pb (.slice (some ⟨g6, 0, none⟩) m m)).toList) := ⟨_, rfl⟩
  have Va : Hid (Row wa V 42 #[.string r, .string pr, .int .i64 pk, .int .i64 pn, .int .i64 pi, .string pb, .slice (some ⟨g6, 0, none⟩) m m, .bool false, .bool false, .bool false, .bool false, .slice none 0 0, .slice none 0 0]) := by show Row _ _ _ _; rw [HWa.out]; exact ((((((V1.set 1 _).set 2 _).set 3 _).set 4 _).set 5 _).set 6 _)
  have Aa : Hid (Row wa A 85 (slC ⟨r, ⟨pr, pk, pn, pi, pb, m, S⟩, fh, fe, fd, fo, ze, zr⟩ (.slice a6 m c6) (.slice a11 le c11) (.slice a12 lr c12))) := by show Row _ _ _ _; rw [HWa.out]; exact ((((((A1.other 1 _ hVD.out.2.1).other 2 _ hVD.out.2.1).other 3 _ hVD.out.2.1).other 4 _ hVD.out.2.1).other 5 _ hVD.out.2.1).other 6 _ hVD.out.2.1)
  have Da : Hid (Row wa D 42 #[.string ⟨#[]⟩, .string ⟨#[]⟩, .int .i64 0, .int .i64 0, .int .i64 0, .string ⟨#[]⟩, .slice none 0 0, .bool false, .bool false, .bool false, .bool false, .slice none 0 0, .slice none 0 0]) := by show Row _ _ _ _; rw [HWa.out]; exact ((((((D1.out.other 1 _ (Ne.symm hVD.out.1)).other 2 _ (Ne.symm hVD.out.1)).other 3 _ (Ne.symm hVD.out.1)).other 4 _ (Ne.symm hVD.out.1)).other 5 _ (Ne.symm hVD.out.1)).other 6 _ (Ne.symm hVD.out.1))
  have O6a : Hid (OwnT wa w0.heap.size (some ⟨g6, 0, none⟩) m m S) := by show OwnT _ _ _ _ _ _; rw [HWa.out]; exact (OwnT.setFar (OwnT.setFar (OwnT.setFar (OwnT.setFar (OwnT.setFar (OwnT.setFar O6 hVD.out.2.2.2.2.2.1) hVD.out.2.2.2.2.2.1) hVD.out.2.2.2.2.2.1) hVD.out.2.2.2.2.2.1) hVD.out.2.2.2.2.2.1) hVD.out.2.2.2.2.2.1)
  have Ba : Hid (Below w.heap.size w wa) := by show Below _ _ _; rw [HWa.out]; exact (Below.setCell (Below.setCell (Below.setCell (Below.setCell (Below.setCell (Below.setCell (below2 KB0.out b1) hVD.out.2.2.2.2.1 _) hVD.out.2.2.2.2.1 _) hVD.out.2.2.2.2.1 _) hVD.out.2.2.2.2.1 _) hVD.out.2.2.2.2.1 _) hVD.out.2.2.2.2.1 _)
  have sza : Hid (w1.heap.size = wa.heap.size) := by show _ = _; rw [HWa.out]; exact (World.size_setCells _ _ _ _).symm
  have x7 := Aa.out.cell 7
  have x8 := Aa.out.cell 8
  have x9 := Aa.out.cell 9
  have x10 := Aa.out.cell 10
  have x11 := Aa.out.cell 11
  have y7 := Va.out.cell 7
  have y8 := Va.out.cell 8
  have y9 := Va.out.cell 9
  have y10 := Va.out.cell 10
  have f7 := Va.out.free 7
  have f8 := Va.out.free 8
  have f9 := Va.out.free 9
  have f10 := Va.out.free 10
  simp at x7 x8 x9 x10 x11 y7 y8 y9 y10
  obtain ⟨w2, HW2⟩ : ∃ x, Hid (x = ((((wa.setCell ⟨V, 7, none⟩ (.bool fh)).setCell ⟨V, 8, none⟩ (.bool fe)).setCell ⟨V, 9, none⟩ (.bool fd)).setCell ⟨V, 10, none⟩ (.bool fo))) := ⟨_, rfl⟩
  have V2 : Hid (Row w2 V 42 #[.string r, .string pr, .int .i64 pk, .int .i64 pn, .int .i64 pi, .string pb, .slice (some ⟨g6, 0, none⟩) m m, .bool fh, .bool fe, .bool fd, .bool fo, .slice none 0 0, .slice none 0 0]) := by show Row _ _ _ _; rw [HW2.out]; exact ((((Va.out.set 7 _).set 8 _).set 9 _).set 10 _)
  have A2 : Hid (Row w2 A 85 (slC ⟨r, ⟨pr, pk, pn, pi, pb, m, S⟩, fh, fe, fd, fo, ze, zr⟩ (.slice a6 m c6) (.slice a11 le c11) (.slice a12 lr c12))) := by show Row _ _ _ _; rw [HW2.out]; exact ((((Aa.out.other 7 _ hVD.out.2.1).other 8 _ hVD.out.2.1).other 9 _ hVD.out.2.1).other 10 _ hVD.out.2.1)
  have D2 : Hid (Row w2 D 42 #[.string ⟨#[]⟩, .string ⟨#[]⟩, .int .i64 0, .int .i64 0, .int .i64 0, .string ⟨#[]⟩, .slice none 0 0, .bool false, .bool false, .bool false, .bool false, .slice none 0 0, .slice none 0 0]) := by show Row _ _ _ _; rw [HW2.out]; exact ((((Da.out.other 7 _ (Ne.symm hVD.out.1)).other 8 _ (Ne.symm hVD.out.1)).other 9 _ (Ne.symm hVD.out.1)).other 10 _ (Ne.symm hVD.out.1))
  have O62 : Hid (OwnT w2 w0.heap.size (some ⟨g6, 0, none⟩) m m S) := by show OwnT _ _ _ _ _ _; rw [HW2.out]; exact (OwnT.setFar (OwnT.setFar (OwnT.setFar (OwnT.setFar O6a.out hVD.out.2.2.2.2.2.1) hVD.out.2.2.2.2.2.1) hVD.out.2.2.2.2.2.1) hVD.out.2.2.2.2.2.1)
  have BW2 : Hid (Below w.heap.size w w2) := by show Below _ _ _; rw [HW2.out]; exact (Below.setCell (Below.setCell (Below.setCell (Below.setCell Ba.out hVD.out.2.2.2.2.1 _) hVD.out.2.2.2.2.1 _) hVD.out.2.2.2.2.1 _) hVD.out.2.2.2.2.1 _)
  have KE2 : Hid (Calls Try.prog 82 #[.slice a11 le c11] w2 fun e w' => e = .returned (.slice (some ⟨w2.heap.size, 0, none⟩) le le) ∧ w'.ownsRow w2.heap.size 3 1 (.slice (some ⟨w2.heap.size, 0, none⟩) le le) le (ze.map (Value.int .i64)) ∧ Below w2.heap.size w2 w') := KEW.out w2 BW2.out
  have sz2 : Hid (w1.heap.size = w2.heap.size) := by show _ = _; rw [sza.out, HW2.out]; simp
  clear A1 V1 b1 O6 D1
  go_wp2_with (refine wpList_store_mid (by rfl) 39 _ _ (by rfl) V 1 (pcC pr pk pn pi pb (.slice (some ⟨g6, 0, none⟩) m m)) (by rfl) (by rfl) ?_ Try.infoPc (by simp [Value.oneCell']) ?_; exact TH.out; rw [← HWa.out])
  rw [← HW2.out]
  clear x7 x8 x9 x10 x11 y7 y8 y9 y10 f7 f8 f9 f10
  refine Calls.mono KE2.out ?_
  obtain ⟨g11, HG11⟩ : ∃ x, Hid (x = w2.heap.size) := ⟨_, rfl⟩
  rw [← HG11.out]
  rintro e w3 ⟨rfl, O11, b3⟩
  rw [HG11.out] at b3
  have A3 := A2.out.below b3 A2.out.lt
  have D3 : Hid (Row w3 D 42 #[.string ⟨#[]⟩, .string ⟨#[]⟩, .int .i64 0, .int .i64 0, .int .i64 0, .string ⟨#[]⟩, .slice none 0 0, .bool false, .bool false, .bool false, .bool false, .slice none 0 0, .slice none 0 0]) := D2.out.below b3 D2.out.lt
  have V3 := V2.out.below b3 V2.out.lt
  have x12 := A3.cell 12
  have y11 := V3.cell 11
  have f11 := V3.free 11
  simp at x12 y11
  obtain ⟨w4, HW4⟩ : ∃ x, Hid (x = w3.setCell ⟨V, 11, none⟩ (.slice (some ⟨g11, 0, none⟩) le le)) := ⟨_, rfl⟩
  have V4 : Hid (Row w4 V 42 #[.string r, .string pr, .int .i64 pk, .int .i64 pn, .int .i64 pi, .string pb, .slice (some ⟨g6, 0, none⟩) m m, .bool fh, .bool fe, .bool fd, .bool fo, .slice (some ⟨g11, 0, none⟩) le le, .slice none 0 0]) := by show Row _ _ _ _; rw [HW4.out]; exact V3.set 11 _
  have D4 : Hid (Row w4 D 42 #[.string ⟨#[]⟩, .string ⟨#[]⟩, .int .i64 0, .int .i64 0, .int .i64 0, .string ⟨#[]⟩, .slice none 0 0, .bool false, .bool false, .bool false, .bool false, .slice none 0 0, .slice none 0 0]) := by show Row _ _ _ _; rw [HW4.out]; exact D3.out.other 11 _ (Ne.symm hVD.out.1)
  have hV2 : V < w2.heap.size := V2.out.lt
  have O64 : Hid (OwnT w4 w0.heap.size (some ⟨g6, 0, none⟩) m m S) := by show OwnT _ _ _ _ _ _; rw [HW4.out]; exact OwnT.setFar (OwnT.below O62.out b3) hVD.out.2.2.2.2.2.1
  have O114 : Hid (w4.ownsRow w2.heap.size 3 1 (.slice (some ⟨g11, 0, none⟩) le le) le (ze.map (Value.int .i64))) := by
    show World.ownsRow _ _ _ _ _ _ _
    rw [HW4.out]
    rw [HG11.out] at O11 ⊢
    exact own_kept O11 (grown_set _ _ _ _) (fun x e => by cases e; show w2.heap.size ≠ V; omega)
  have B4 : Hid (Below w.heap.size w w4) := by show Below _ _ _; rw [HW4.out]; exact Below.setCell (below2 BW2.out b3) hVD.out.2.2.2.2.1 _
  have sz4 : Hid (w2.heap.size < w4.heap.size) := by
    show _ < _
    have := (World.ownsRow.lt O114.out g11 rfl)
    have e := HG11.out
    omega
  have KZ4 : Hid (Calls Try.prog 82 #[.slice a12 lr c12] w4 fun e w' => e = .returned (.slice (some ⟨w4.heap.size, 0, none⟩) lr lr) ∧ w'.ownsRow w4.heap.size 3 1 (.slice (some ⟨w4.heap.size, 0, none⟩) lr lr) lr (zr.map (Value.int .i64)) ∧ Below w4.heap.size w4 w') := KZW.out w4 B4.out
  clear A3 V3 b3 O11 D3 A2 V2 D2
  go_wp2_with fail
  rw [← HW4.out]
  clear x12 y11 f11
  refine Calls.mono KZ4.out ?_
  obtain ⟨g12, HG12⟩ : ∃ x, Hid (x = w4.heap.size) := ⟨_, rfl⟩
  rw [← HG12.out]
  rintro e w5 ⟨rfl, O12, b5⟩
  rw [HG12.out] at b5
  have D5 : Hid (Row w5 D 42 #[.string ⟨#[]⟩, .string ⟨#[]⟩, .int .i64 0, .int .i64 0, .int .i64 0, .string ⟨#[]⟩, .slice none 0 0, .bool false, .bool false, .bool false, .bool false, .slice none 0 0, .slice none 0 0]) := D4.out.below b5 D4.out.lt
  have V5 := V4.out.below b5 V4.out.lt
  have y12 := V5.cell 12
  have f12 := V5.free 12
  simp at y12
  obtain ⟨w6, HW6⟩ : ∃ x, Hid (x = w5.setCell ⟨V, 12, none⟩ (.slice (some ⟨g12, 0, none⟩) lr lr)) := ⟨_, rfl⟩
  have V6 : Hid (Row w6 V 42 #[.string r, .string pr, .int .i64 pk, .int .i64 pn, .int .i64 pi, .string pb, .slice (some ⟨g6, 0, none⟩) m m, .bool fh, .bool fe, .bool fd, .bool fo, .slice (some ⟨g11, 0, none⟩) le le, .slice (some ⟨g12, 0, none⟩) lr lr]) := by show Row _ _ _ _; rw [HW6.out]; exact V5.set 12 _
  have D6 : Hid (Row w6 D 42 #[.string ⟨#[]⟩, .string ⟨#[]⟩, .int .i64 0, .int .i64 0, .int .i64 0, .string ⟨#[]⟩, .slice none 0 0, .bool false, .bool false, .bool false, .bool false, .slice none 0 0, .slice none 0 0]) := by show Row _ _ _ _; rw [HW6.out]; exact D5.out.other 12 _ (Ne.symm hVD.out.1)
  have hV4 : V < w4.heap.size := V4.out.lt
  have O66 : Hid (OwnT w6 w0.heap.size (some ⟨g6, 0, none⟩) m m S) := by show OwnT _ _ _ _ _ _; rw [HW6.out]; exact OwnT.setFar (OwnT.below O64.out b5) hVD.out.2.2.2.2.2.1
  have O116 : Hid (w6.ownsRow w2.heap.size 3 1 (.slice (some ⟨g11, 0, none⟩) le le) le (ze.map (Value.int .i64))) := by
    show World.ownsRow _ _ _ _ _ _ _
    rw [HW6.out]
    exact own_kept (ownsRow_below O114.out b5) (grown_set _ _ _ _) (fun x e => by cases e; show g11 ≠ V; rw [HG11.out]; omega)
  have O126 : Hid (w6.ownsRow w4.heap.size 3 1 (.slice (some ⟨g12, 0, none⟩) lr lr) lr (zr.map (Value.int .i64))) := by
    show World.ownsRow _ _ _ _ _ _ _
    rw [HW6.out]
    rw [HG12.out] at O12 ⊢
    exact own_kept O12 (grown_set _ _ _ _) (fun x e => by cases e; show w4.heap.size ≠ V; omega)
  have B6 : Hid (Below w.heap.size w w6) := by show Below _ _ _; rw [HW6.out]; exact Below.setCell (below2 B4.out b5) hVD.out.2.2.2.2.1 _
  clear V5 b5 O12 D5 V4 D4
  obtain ⟨w7, HW7⟩ : ∃ x, Hid (x = w6.setRow D #[.string r, .string pr, .int .i64 pk, .int .i64 pn, .int .i64 pi, .string pb, .slice (some ⟨g6, 0, none⟩) m m, .bool fh, .bool fe, .bool fd, .bool fo, .slice (some ⟨g11, 0, none⟩) le le, .slice (some ⟨g12, 0, none⟩) lr lr]) := ⟨_, rfl⟩
  have ZR : Hid (Row w7 D 42 #[.string r, .string pr, .int .i64 pk, .int .i64 pn, .int .i64 pi, .string pb, .slice (some ⟨g6, 0, none⟩) m m, .bool fh, .bool fe, .bool fd, .bool fo, .slice (some ⟨g11, 0, none⟩) le le, .slice (some ⟨g12, 0, none⟩) lr lr]) := by show Row _ _ _ _; rw [HW7.out]; exact D6.out.row
  have ZB : Hid (Below w.heap.size w w7) := by show Below _ _ _; rw [HW7.out]; exact belowSetRow B6.out hVD.out.2.2.2.1 _
  have far6 : ∀ x, (some ⟨g6, 0, none⟩ : Option Addr) = some x → x.block ≠ D := fun x e => by cases e; have h1 := S6.out.1; have h2 := hVD.out.2.2.2.2.2.2; show g6 ≠ D; omega
  have hD2 : D < w2.heap.size := by have h1 := sz2.out; have h2 := S6.out; have h3 := hVD.out.2.2.2.2.2.2; omega
  have far11 : ∀ x, (some ⟨g11, 0, none⟩ : Option Addr) = some x → x.block ≠ D := fun x e => by cases e; show g11 ≠ D; rw [HG11.out]; omega
  have far12 : ∀ x, (some ⟨g12, 0, none⟩ : Option Addr) = some x → x.block ≠ D := fun x e => by cases e; show g12 ≠ D; rw [HG12.out]; have := sz4.out; omega
  have Z6 : Hid (OwnT w7 w0.heap.size (some ⟨g6, 0, none⟩) m m S) := by show OwnT _ _ _ _ _ _; rw [HW7.out]; exact own_kept O66.out (grown_row _ _ _) far6
  have Z11 : Hid (World.ownsRow w7 w2.heap.size 3 1 (.slice (some ⟨g11, 0, none⟩) le le) le (ze.map (Value.int .i64))) := by show World.ownsRow _ _ _ _ _ _ _; rw [HW7.out]; exact own_kept O116.out (grown_row _ _ _) far11
  have Z12 : Hid (World.ownsRow w7 w4.heap.size 3 1 (.slice (some ⟨g12, 0, none⟩) lr lr) lr (zr.map (Value.int .i64))) := by show World.ownsRow _ _ _ _ _ _ _; rw [HW7.out]; exact own_kept O126.out (grown_row _ _ _) far12
  have l12 := (World.ownsRow.lt Z12.out g12 rfl).2
  go_wp2_with (first | (rw [← HW6.out]; refine wpList_load_row (by rfl) 42 _ (by rfl) V (by rfl) 42 _ (0, 0) _ V6.out Try.underlying42 (by rfl) Try.infoSl ?_; clear y12 f12) | (refine wpList_store_row (by rfl) 42 _ _ (by rfl) D #[.string r, .string pr, .int .i64 pk, .int .i64 pn, .int .i64 pi, .string pb, .slice (some ⟨g6, 0, none⟩) m m, .bool fh, .bool fe, .bool fd, .bool fo, .slice (some ⟨g11, 0, none⟩) le le, .slice (some ⟨g12, 0, none⟩) lr lr] (by rfl) (by rfl) 42 #[.string ⟨#[]⟩, .string ⟨#[]⟩, .int .i64 0, .int .i64 0, .int .i64 0, .string ⟨#[]⟩, .slice none 0 0, .bool false, .bool false, .bool false, .bool false, .slice none 0 0, .slice none 0 0] ?_ Try.infoSl rfl (by simp [Value.oneCell']) ?_; exact D6.out; rw [← HW7.out]))
  refine bodyPost_ret (v := .agg #[.string r, .string pr, .int .i64 pk, .int .i64 pn, .int .i64 pi, .string pb, .slice (some ⟨g6, 0, none⟩) m m, .bool fh, .bool fe, .bool fd, .bool fo, .slice (some ⟨g11, 0, none⟩) le le, .slice (some ⟨g12, 0, none⟩) lr lr]) (results_cell_row Try.results60 _ _ D 42 _ (0, 0) _ (by rfl) ZR.out Try.underlying42 (by rfl) Try.infoSl) rfl ⟨g6, g11, g12, rfl, ?_, ?_, ?_, l12, ?_, ?_, ?_, ZB.out⟩
  · have h1 := S6.out.1; have h2 := KB0.out.size; omega
  · have h1 := S6.out.2; have h2 := sz2.out; have h3 := HG11.out; omega
  · have h1 := HG11.out; have h2 := HG12.out; have h3 := sz4.out; omega
  · exact ow_txt (OwnT.base Z6.out KB0.out.size) (fun x e => by cases e; rfl)
  · exact OI.out _ _ _ (own_base Z11.out BW2.out.size)
  · exact OZ.out _ _ _ (own_base Z12.out B4.out.size)
end Go.Proofs.Ytcnigfejpfcfaaa

/- Lists of slots and nodes, copied by the exact laws: the copies lie in new memory. Conditions: no list is longer than 2^20. -/
namespace Go.Proofs.Ytcnigfejpfcfaaa
set_option maxRecDepth 2000
open Go.ChangeShapes Go.WideShapes Go.ChangeAt Go.RowKit

def slZ : Sl := ⟨ByteArray.empty, ⟨ByteArray.empty, 0, 0, 0, ByteArray.empty, 0, fun _ => ByteArray.empty⟩, false, false, false, false, [], []⟩
def zcS : List Value := [.string ByteArray.empty, .string ByteArray.empty, .int .i64 0, .int .i64 0, .int .i64 0, .string ByteArray.empty, .slice none 0 0, .bool false, .bool false, .bool false, .bool false, .slice none 0 0, .slice none 0 0]
theorem Try.infoSlZ : (Try.prog.info? 42).map (fun i => (i.zero, i.size, i.bytes)) = some (some (.agg zcS.toArray), 13, 152) := by kernel_rfl
/-- Where the three lists of a slot lie. -/
def H3 (g6 g11 g12 q x : Nat) : Prop := (q = 6 ∧ x = g6) ∨ (q = 11 ∧ x = g11) ∨ (q = 12 ∧ x = g12)
/-- The cells of a slot whose lists are ours. -/
theorem ow_slot {w : World} {B g6 g11 g12 : Nat} {s : Sl} {v6 v11 v12 : Value} (h6 : Ow w B (txD s.p.m s.p.S) v6 (fun g => g = g6)) (h11 : Ow w B (inD s.ze) v11 (fun g => g = g11)) (h12 : Ow w B (inD s.zr) v12 (fun g => g = g12)) (q : Nat) (hq : q < 13) :
    Ow w B (slD s q) ((slC s v6 v11 v12).toList.getD q undef) (H3 g6 g11 g12 q) := by
  match q, hq with
  | 0, _ | 1, _ | 2, _ | 3, _ | 4, _ | 5, _ | 7, _ | 8, _ | 9, _ | 10, _ => rfl
  | 6, _ => exact Ow.mono h6 fun g hg => .inl ⟨rfl, hg⟩
  | 11, _ => exact Ow.mono h11 fun g hg => .inr (.inl ⟨rfl, hg⟩)
  | 12, _ => exact Ow.mono h12 fun g hg => .inr (.inr ⟨rfl, hg⟩)
theorem ow_slZ (w : World) (B q : Nat) (hq : q < 13) : Ow w B (slD slZ q) (zcS.getD q undef) (fun _ => False) := by
  match q, hq with
  | 0, _ | 1, _ | 2, _ | 3, _ | 4, _ | 5, _ | 7, _ | 8, _ | 9, _ | 10, _ => rfl
  | 6, _ => exact Ow.nil _ _ _ _ _ _
  | 11, _ => exact Ow.nil _ _ _ _ _ _
  | 12, _ => exact Ow.nil _ _ _ _ _ _
set_option maxHeartbeats 4000000 in
theorem toSls_any (a : Option Addr) (n cap : Nat) (S : Nat → Sl) (w : World) (h : Rd w (slsD n S) (.slice a n cap)) (hn : n ≤ 1048576) (hs : ∀ i, i < n → SlS (S i)) :
    Calls Try.prog 35 #[.slice a n cap] w fun e w' => e = .returned (.slice (some ⟨w.heap.size, 0, none⟩) n n) ∧ Ow w' w.heap.size (slsD n S) (.slice (some ⟨w.heap.size, 0, none⟩) n n) (rng w.heap.size w'.heap.size) ∧ Below w.heap.size w w' := by
  obtain ⟨i0, hi, hz0, hz1, hz2⟩ := info_parts Try.infoSlZ
  have KH : Hid (Rd w (slsD n S) (.slice a n cap)) := h
  have HS : Hid (∀ i, i < n → SlS (S i)) := hs
  clear h hs
  go_enter Try.func35, Try.ntmps35
  go_wp2_with (at_make; refine wpList_make_full _ rfl _ _ 22 rfl w.heap.size 42 i0 (.agg zcS.toArray) 13 Try.underlying22 hi hz0 hz1 .i64 .i64 _ _ n rfl rfl rfl rfl (by rw [hz2]; omega) (by unfold maxLen; omega) (Nat.le_refl _) ?_; intro w1 hown hgrow)
  have hb1 : Below w.heap.size w w1 := (Below.refl _ _).grown hgrow (Nat.le_refl _) (by simp)
  obtain ⟨g, HG⟩ : ∃ x, Hid (x = w.heap.size) := ⟨_, rfl⟩
  have ho1 : Ow w1 w.heap.size (.lst 42 13 n (fun i => if i < 0 then slD (S i) else slD slZ)) (.slice (some ⟨g, 0, none⟩) n n) (rng w.heap.size w1.heap.size) := by
    have e : (madeCells (Value.agg zcS.toArray).cells (n * 13)).toList = cL 13 (fun _ q => zcS.getD q undef) n := made_cL (zs := zcS) (by simp [zcS])
    rw [e] at hown
    rw [HG.out]
    have := ow_made (F := rng w.heap.size w1.heap.size) hown (fun q hq => ow_slZ w1 w.heap.size q hq) ⟨Nat.le_refl _, (World.ownsRow.lt hown _ rfl).2⟩
    exact this.congr (fun i q _ _ => by simp)
  have gB : g = w.heap.size := HG.out
  rw [← HG.out]
  have HB : Hid (w.heap.size ≤ g) := by show _ ≤ _; omega
  clear hown hgrow gB
  go_loopw [4] (fun i wr => ∃ k : Nat, k ≤ n ∧ i = .int .i64 k ∧ Ow wr w.heap.size (.lst 42 13 n (fun i => if i < k then slD (S i) else slD slZ)) (.slice (some ⟨g, 0, none⟩) n n) (rng w.heap.size wr.heap.size) ∧ Below w.heap.size w wr) (fun i _ => n - (intOf i).toNat)
  case atStart => exact ⟨0, Nat.zero_le _, rfl, ho1, hb1⟩
  case round =>
    obtain ⟨c, hc, rfl, hown, hbel⟩ := hrel
    clear ho1 hb1
    by_cases hlt : c < n
    · have hlti : (c : Int) < (n : Int) := by omega
      obtain ⟨b1, f1, y1, p6, p11, p12, q6, q11, q12, rfl, hc1, e1, ht1, he1, hz1'⟩ := slot_row (KH.out.below hbel) hlt
      have KT0 := toSl_any (S c) p6 p11 p12 q6 q11 q12 wr ht1 he1 hz1' (HS.out c hlt)
      rw [← e1] at KT0
      have KT : Hid _ := KT0
      clear KT0
      obtain ⟨_, x⟩ := one_row (sz := 12) wr (Below.refl _ _) hc1
      have R1 : Hid (wr.rangeAt b1 (f1 + c * 13) [y1 0, y1 1, y1 2, y1 3, y1 4, y1 5, y1 6, y1 7, y1 8, y1 9, y1 10, y1 11, y1 12]) := range13 x
      have KO : Hid (Ow wr w.heap.size (.lst 42 13 n (fun i => if i < c then slD (S i) else slD slZ)) (.slice (some ⟨g, 0, none⟩) n n) (rng w.heap.size wr.heap.size) ∧ Below w.heap.size w wr) := ⟨hown, hbel⟩
      have lg : g < wr.heap.size := by
        obtain ⟨a', cap', c', G', e', ho', _⟩ := hown
        cases e'
        exact (World.ownsRow.lt ho' g rfl).2
      clear hc1 e1 ht1 he1 hz1' x hbel hown
      go_wp2_with (refine wpList_load_mid (by rfl) 85 _ (by rfl) b1 (f1 + c * 13) (by rfl) [y1 0, y1 1, y1 2, y1 3, y1 4, y1 5, y1 6, y1 7, y1 8, y1 9, y1 10, y1 11, y1 12] _ ?_ Try.underlying85 (by rfl) Try.infoSlL ?_; exact R1.out)
      refine Calls.mono KT.out ?_
      rintro e w2 ⟨g6, g11, g12, rfl, l1, l2, l3, l4, o6, o11, o12, b2⟩
      have O2 := KO.out.1.below b2
      have TH : Hid (w2.there g (c * 13) 13) := by
        obtain ⟨a', cap', c', G', e', ho', _⟩ := O2
        cases e'
        intro j hj
        refine ⟨?_, World.ownsRow.frozenAt ho' _⟩
        rw [World.ownsRow.cellAt ho' _ (mid_lt hlt hj), cL_get _ _ _ _ _ hlt hj]
        rfl
      have hsz := KO.out.2.size
      have HO : Hid (Ow (w2.setCells g (c * 13) (slC (S c) (.slice (some ⟨g6, 0, none⟩) (S c).p.m (S c).p.m) (.slice (some ⟨g11, 0, none⟩) (S c).ze.length (S c).ze.length) (.slice (some ⟨g12, 0, none⟩) (S c).zr.length (S c).zr.length)).toList) w.heap.size (.lst 42 13 n (fun i => if i < c + 1 then slD (S i) else slD slZ)) (.slice (some ⟨g, 0, none⟩) n n) (rng w.heap.size (w2.setCells g (c * 13) (slC (S c) (.slice (some ⟨g6, 0, none⟩) (S c).p.m (S c).p.m) (.slice (some ⟨g11, 0, none⟩) (S c).ze.length (S c).ze.length) (.slice (some ⟨g12, 0, none⟩) (S c).zr.length (S c).zr.length)).toList).heap.size)) := by
        rw [size_setCells]
        refine Ow.congr (Ow.store (d := slD (S c)) O2 hlt rfl (fun q hq => ow_slot (o6.base hsz) (o11.base hsz) (o12.base hsz) q hq) ?_ ?_ ?_ ?_) ?_
        · intro q x _ hx hf
          have h2 := hf.2
          rcases hx with ⟨_, rfl⟩ | ⟨_, rfl⟩ | ⟨_, rfl⟩ <;> omega
        · intro q q' x _ _ hx hx'
          rcases hx with ⟨_, rfl⟩ | ⟨_, rfl⟩ | ⟨_, rfl⟩ <;> rcases hx' with ⟨_, h⟩ | ⟨_, h⟩ | ⟨_, h⟩ <;> omega
        · intro x hx
          have := b2.size
          exact ⟨hx.1, by have := hx.2; omega⟩
        · intro q x _ hx
          rcases hx with ⟨_, rfl⟩ | ⟨_, rfl⟩ | ⟨_, rfl⟩ <;> exact ⟨by omega, by omega⟩
        · intro i q _ _
          by_cases e : i = c
          · subst e; simp
          · by_cases e2 : i < c
            · simp [e, e2, show i < c + 1 by omega]
            · simp [e, e2, show ¬ i < c + 1 by omega]
      have HBe : Hid (Below w.heap.size w (w2.setCells g (c * 13) (slC (S c) (.slice (some ⟨g6, 0, none⟩) (S c).p.m (S c).p.m) (.slice (some ⟨g11, 0, none⟩) (S c).ze.length (S c).ze.length) (.slice (some ⟨g12, 0, none⟩) (S c).zr.length (S c).zr.length)).toList)) := below_setCells (below2 KO.out.2 b2) HB.out _ _
      clear O2 b2 o6 o11 o12 KT R1 KO
      go_wp2_with (refine wpList_store_mid (by rfl) 42 _ _ (by rfl) g (c * 13) (slC (S c) (.slice (some ⟨g6, 0, none⟩) (S c).p.m (S c).p.m) (.slice (some ⟨g11, 0, none⟩) (S c).ze.length (S c).ze.length) (.slice (some ⟨g12, 0, none⟩) (S c).zr.length (S c).zr.length)) (by rfl) (by rfl) ?_ Try.infoSl (by simp [Value.oneCell']) ?_; exact TH.out)
      go_roundw
      case rel => exact ⟨c + 1, by omega, by go_num, HO.out, HBe.out⟩
      case measure => simp [intOf]; omega
    · obtain rfl : c = n := by omega
      have HO : Hid (Ow wr w.heap.size (slsD c S) (.slice (some ⟨g, 0, none⟩) c c) (rng w.heap.size wr.heap.size)) := hown.congr (fun i q hi _ => by simp [hi])
      clear hown
      go_wp2
      go_ret
      exact ⟨by rw [← HG.out]; rfl, by rw [← HG.out]; rw [HG.out]; have := HO.out; rw [HG.out] at this; exact this, hbel⟩
set_option maxHeartbeats 1000000 in
theorem toNd_any (id f : Int) (a : Option Addr) (n cap : Nat) (S : Nat → Sl) (w : World) (h : Rd w (slsD n S) (.slice a n cap)) (hn : n ≤ 1048576) (hs : ∀ i, i < n → SlS (S i)) :
    Calls Try.prog 14 #[.agg #[.int .i64 id, .int .i64 f, .slice a n cap]] w fun e w' => ∃ g, e = .returned (.agg #[.int .i64 id, .int .i64 f, .slice (some ⟨g, 0, none⟩) n n]) ∧ Ow w' w.heap.size (slsD n S) (.slice (some ⟨g, 0, none⟩) n n) (rng w.heap.size w'.heap.size) ∧ Below w.heap.size w w' := by
  obtain ⟨A, HA⟩ : ∃ x, Hid (x = w.heap.size) := ⟨_, rfl⟩
  obtain ⟨D, HD⟩ : ∃ x, Hid (x = w.heap.size + 1) := ⟨_, rfl⟩
  obtain ⟨V, HV⟩ : ∃ x, Hid (x = w.heap.size + 1 + 1) := ⟨_, rfl⟩
  obtain ⟨w0, HW0⟩ : ∃ x, Hid (x = ((w.alloc (.cells #[.int .i64 id, .int .i64 f, .slice a n cap] 32)).alloc (.cells #[.int .i64 0, .int .i64 0, .slice none 0 0] 24)).alloc (.cells #[.int .i64 id, .int .i64 f, .slice none 0 0] 24)) := ⟨_, rfl⟩
  have RD : Hid (Row w0 D 24 #[.int .i64 0, .int .i64 0, .slice none 0 0]) := by
    show Row _ _ _ _
    rw [HW0.out, HD.out]
    have := Row.new (w.alloc (.cells #[.int .i64 id, .int .i64 f, .slice a n cap] 32)) #[.int .i64 0, .int .i64 0, .slice none 0 0] 24
    exact Row.alloc (by simpa using this) _
  have RV : Hid (Row w0 V 24 #[.int .i64 id, .int .i64 f, .slice none 0 0]) := by
    show Row _ _ _ _
    rw [HW0.out, HV.out]
    have := Row.new ((w.alloc (.cells #[.int .i64 id, .int .i64 f, .slice a n cap] 32)).alloc (.cells #[.int .i64 0, .int .i64 0, .slice none 0 0] 24)) #[.int .i64 id, .int .i64 f, .slice none 0 0] 24
    simpa using this
  have hb0 : Below w.heap.size w w0 := by rw [HW0.out]; exact (((Below.refl _ _).alloc (Nat.le_refl _) _).alloc (by simp) _).alloc (by simp; omega) _
  have hVD : Hid (V ≠ D ∧ w.heap.size ≤ D ∧ w.heap.size ≤ V ∧ V < w0.heap.size ∧ D < w0.heap.size) := by
    have h1 := HV.out; have h2 := HD.out
    exact ⟨by omega, by omega, by omega, RV.out.lt, RD.out.lt⟩
  have KB0 : Hid (Below w.heap.size w w0) := hb0
  have KT : Hid _ := toSls_any a n cap S w0 (h.below hb0) hn hs
  obtain ⟨g, HG⟩ : ∃ x, Hid (x = w0.heap.size) := ⟨_, rfl⟩
  clear h hs hb0
  go_enter Try.func14, Try.ntmps14
  go_wp2_with fail
  rw [← HW0.out, ← HV.out, ← HD.out, ← HA.out]
  refine Calls.mono KT.out ?_
  rintro e w1 ⟨rfl, O1, b1⟩
  rw [← HG.out] at O1
  rw [← HG.out]
  rw [HG.out] at O1
  have V1 := RV.out.below b1 RV.out.lt
  have D1 : Hid (Row w1 D 24 #[.int .i64 0, .int .i64 0, .slice none 0 0]) := RD.out.below b1 RD.out.lt
  have y2 := V1.cell 2
  have f2 := V1.free 2
  simp at y2
  obtain ⟨w2, HW2⟩ : ∃ x, Hid (x = w1.setCell ⟨V, 2, none⟩ (.slice (some ⟨g, 0, none⟩) n n)) := ⟨_, rfl⟩
  have V2 : Hid (Row w2 V 24 #[.int .i64 id, .int .i64 f, .slice (some ⟨g, 0, none⟩) n n]) := by show Row _ _ _ _; rw [HW2.out]; exact V1.set 2 _
  have D2 : Hid (Row w2 D 24 #[.int .i64 0, .int .i64 0, .slice none 0 0]) := by show Row _ _ _ _; rw [HW2.out]; exact D1.out.other 2 _ (Ne.symm hVD.out.1)
  obtain ⟨w3, HW3⟩ : ∃ x, Hid (x = w2.setRow D #[.int .i64 id, .int .i64 f, .slice (some ⟨g, 0, none⟩) n n]) := ⟨_, rfl⟩
  have D3 : Hid (Row w3 D 24 #[.int .i64 id, .int .i64 f, .slice (some ⟨g, 0, none⟩) n n]) := by show Row _ _ _ _; rw [HW3.out]; exact D2.out.row
  have B3 : Hid (Below w.heap.size w w3) := by
    show Below _ _ _
    rw [HW3.out, HW2.out]
    exact belowSetRow (Below.setCell (below2 KB0.out b1) hVD.out.2.2.1 _) hVD.out.2.1 _
  have O3 : Hid (Ow w3 w.heap.size (slsD n S) (.slice (some ⟨g, 0, none⟩) n n) (rng w.heap.size w3.heap.size)) := by
    have h1 : w3.heap.size = w1.heap.size := by rw [HW3.out, HW2.out]; simp
    have h2 := KB0.out.size
    have h3 := (O1.base h2).frame (w' := w3) (fun x hx _ => by
      have l1 := hx.1
      have l2 := hVD.out.2.2.2.1
      have l3 := hVD.out.2.2.2.2
      rw [HW3.out, setRow_other _ _ _ _ (by omega), HW2.out]
      exact heap_setCell_other w1 ⟨V, 2, none⟩ x _ (by show x ≠ V; omega))
    rw [HG.out]
    exact h3.mono (fun x hx => ⟨by have := hx.1; omega, by have := hx.2; omega⟩)
  clear V1 b1 O1
  go_wp2_with (first | (rw [← HW2.out]; refine wpList_load_row (by rfl) 24 _ (by rfl) V (by rfl) 24 _ (0, 0) _ V2.out Try.underlying24 (by rfl) Try.infoNd ?_; clear y2 f2) | (refine wpList_store_row (by rfl) 24 _ _ (by rfl) D #[.int .i64 id, .int .i64 f, .slice (some ⟨g, 0, none⟩) n n] (by rfl) (by rfl) 24 #[.int .i64 0, .int .i64 0, .slice none 0 0] ?_ Try.infoNd rfl (by simp [Value.oneCell']) ?_; exact D2.out; rw [← HW3.out]))
  refine bodyPost_ret (v := .agg #[.int .i64 id, .int .i64 f, .slice (some ⟨g, 0, none⟩) n n]) (results_cell_row Try.results14 _ _ D 24 _ (0, 0) _ (by rfl) D3.out Try.underlying24 (by rfl) Try.infoNd) rfl ⟨g, rfl, O3.out, B3.out⟩
end Go.Proofs.Ytcnigfejpfcfaaa
