import Derived.Test.YtmhcdkbgjjibeaaGreatDoorG5
import Derived.Deep.MidRow
set_option maxHeartbeats 8000000
set_option maxRecDepth 2000
open Go.ChangeShapes Go.WideShapes Go.ChangeAt Go.RowKit
namespace Go.Proofs.YtmhcdkbgjjibeaaGreatDoor
inductive Dt where
 | val (v : Value)
 | lst (t : TypeId) (sz n : Nat) (f : Nat → Nat → Dt)
def Rd (w : World) : Dt → Value → Prop
 | .val v, x => x = v
 | .lst _ sz n f, x => ∃ a cap, x = .slice a n cap ∧ ∀ i, i < n → ∃ b off, a = some ⟨b, off, none⟩ ∧ ∀ q, q < sz → ∃ y, w.cell? ⟨b, off + (i * sz + q), none⟩ = some y ∧ Rd w (f i q) y
theorem Rd.keep {w w' : World} (h : ∀ (p : Addr) (v : Value), w.cell? p = some v → w'.cell? p = some v) : ∀ {d : Dt} {v : Value}, Rd w d v → Rd w' d v := by
 intro d
 induction d with
 | val v => intro x hx; exact hx
 | lst t sz n f ih =>
  rintro x ⟨a, cap, e, hx⟩
  refine ⟨a, cap, e, fun i hi => ?_⟩
  obtain ⟨b, off, ea, hq⟩ := hx i hi
  refine ⟨b, off, ea, fun q hq' => ?_⟩
  obtain ⟨y, hy, hr⟩ := hq q hq'
  exact ⟨y, h _ _ hy, ih i q hr⟩
theorem Rd.below {w w' : World} {d : Dt} {v : Value} (h : Rd w d v) (hb : Below w.heap.size w w') : Rd w' d v :=
 h.keep fun _ _ hp => (hb.cell (block_lt_of_cell hp)).trans hp
theorem Rd.drew {w : World} {d : Dt} {v : Value} (h : Rd w d v) : Rd w.drew d v := Rd.keep (w' := w.drew) (fun p _ hp => by simpa using hp) h
theorem Rd.nil (w : World) (t : TypeId) (sz : Nat) (f : Nat → Nat → Dt) (a : Option Addr) (cap : Nat) : Rd w (.lst t sz 0 f) (.slice a 0 cap) := ⟨a, cap, rfl, fun _ hi => absurd hi (Nat.not_lt_zero _)⟩
theorem Rd.shape {w : World} {t : TypeId} {sz n : Nat} {f : Nat → Nat → Dt} {v : Value} (h : Rd w (.lst t sz n f) v) : ∃ a cap, v = .slice a n cap := by
 obtain ⟨a, cap, e, _⟩ := h
 exact ⟨a, cap, e⟩
theorem Rd.row {w : World} {t : TypeId} {sz n : Nat} {f : Nat → Nat → Dt} {a : Option Addr} {cap : Nat} (h : Rd w (.lst t sz n f) (.slice a n cap)) {i : Nat} (hi : i < n) :
  ∃ (b off : Nat) (y : Nat → Value), a = some ⟨b, off, none⟩ ∧ (∀ q, q < sz → w.cell? ⟨b, off + (i * sz + q), none⟩ = some (y q)) ∧ ∀ q, q < sz → Rd w (f i q) (y q) := by
 obtain ⟨a', cap', e, hx⟩ := h
 cases e
 obtain ⟨b, off, ea, hq⟩ := hx i hi
 have : ∀ q, ∃ y, q < sz → w.cell? ⟨b, off + (i * sz + q), none⟩ = some y ∧ Rd w (f i q) y := fun q => by
  by_cases h : q < sz
  ·obtain ⟨y, hy⟩ := hq q h; exact ⟨y, fun _ => hy⟩
  ·exact ⟨undef, fun h' => absurd h' h⟩
 obtain ⟨y, hy⟩ := Classical.axiomOfChoice this
 exact ⟨b, off, y, ea, fun q hq => (hy q hq).1, fun q hq => (hy q hq).2⟩
def txD (m : Nat) (S : Nat → ByteArray) : Dt := .lst 9 1 m fun i _ => .val (.string (S i))
def inD (zs : List Int) : Dt := .lst 3 1 zs.length fun i _ => .val (.int .i64 (zs.getD i 0))
theorem rd_txt {w : World} {m : Nat} {S : Nat → ByteArray} {a : Option Addr} {cap : Nat} : Rd w (txD m S) (.slice a m cap) ↔ TxtAt w a m S := by
 constructor
 ·rintro ⟨a', cap', e, hx⟩ i hi
  cases e
  obtain ⟨b, off, ea, hq⟩ := hx i hi
  obtain ⟨y, hy, hr⟩ := hq 0 (by omega)
  exact ⟨b, off, ea, by rw [show off + i = off + (i * 1 + 0) by omega, hy]; exact congrArg some hr⟩
 ·intro h
  refine ⟨a, cap, rfl, fun i hi => ?_⟩
  obtain ⟨b, off, ea, hc⟩ := h i hi
  refine ⟨b, off, ea, fun q hq => ?_⟩
  obtain rfl : q = 0 := by omega
  exact ⟨_, by rw [show off + (i * 1 + 0) = off + i by omega]; exact hc, rfl⟩
theorem rd_ints {w : World} {zs : List Int} {a : Option Addr} {cap : Nat} : Rd w (inD zs) (.slice a zs.length cap) ↔ IntsAt w a zs.length zs := by
 constructor
 ·rintro ⟨a', cap', e, hx⟩
  refine ⟨rfl, fun i hi => ?_⟩
  cases e
  obtain ⟨b, off, ea, hq⟩ := hx i hi
  obtain ⟨y, hy, hr⟩ := hq 0 (by omega)
  exact ⟨b, off, ea, by rw [show off + i = off + (i * 1 + 0) by omega, hy]; exact congrArg some hr⟩
 ·intro h
  refine ⟨a, cap, rfl, fun i hi => ?_⟩
  obtain ⟨b, off, ea, hc⟩ := h.2 i hi
  refine ⟨b, off, ea, fun q hq => ?_⟩
  obtain rfl : q = 0 := by omega
  exact ⟨_, by rw [show off + (i * 1 + 0) = off + i by omega]; exact hc, rfl⟩
def cL (sz : Nat) (c : Nat → Nat → Value) (n : Nat) : List Value := (List.range (n * sz)).map fun j => c (j / sz) (j % sz)
theorem cL_len (sz : Nat) (c : Nat → Nat → Value) (n : Nat) : (cL sz c n).length = n * sz := by simp [cL]
theorem mid_lt {sz n i q : Nat} (hi : i < n) (hq : q < sz) : i * sz + q < n * sz := by
 have := Nat.mul_le_mul_right sz (show i + 1 ≤ n by omega)
 rw [Nat.succ_mul] at this
 omega
theorem mid_div {sz i q : Nat} (hq : q < sz) : (i * sz + q) / sz = i := by rw [Nat.mul_comm, Nat.mul_add_div (by omega), Nat.div_eq_of_lt hq, Nat.add_zero]
theorem mid_mod {sz i q : Nat} (hq : q < sz) : (i * sz + q) % sz = q := by rw [Nat.mul_comm, Nat.mul_add_mod, Nat.mod_eq_of_lt hq]
theorem mid_eq {sz j : Nat} : j / sz * sz + j % sz = j := by rw [Nat.mul_comm]; exact Nat.div_add_mod j sz
theorem cL_get (sz : Nat) (c : Nat → Nat → Value) (n i q : Nat) (hi : i < n) (hq : q < sz) : (cL sz c n)[i * sz + q]? = some (c i q) := by
 simp [cL, mid_lt hi hq, mid_div hq, mid_mod hq]
theorem cL_congr {sz : Nat} {c c' : Nat → Nat → Value} {n : Nat} (h : ∀ i q, i < n → q < sz → c i q = c' i q) : cL sz c n = cL sz c' n := by
 unfold cL
 refine List.map_congr_left fun j hj => ?_
 have hj' : j < n * sz := by simpa using hj
 have hs : 0 < sz := by
  rcases Nat.eq_zero_or_pos sz with e | e
  ·subst e; omega
  ·exact e
 exact h _ _ ((Nat.div_lt_iff_lt_mul hs).2 hj') (Nat.mod_lt _ hs)
theorem cL_set (sz : Nat) (c : Nat → Nat → Value) (n i q : Nat) (v : Value) (hi : i < n) (hq : q < sz) : (cL sz c n).set (i * sz + q) v = cL sz (fun i' q' => if i' = i ∧ q' = q then v else c i' q') n := by
 apply List.ext_getElem?
 intro j
 rw [List.getElem?_set]
 by_cases hj : j < n * sz
 ·by_cases e : i * sz + q = j
  ·subst e
   rw [if_pos rfl, if_pos (by rw [cL_len]; exact hj), cL_get _ _ _ _ _ hi hq]
   simp
  ·rw [if_neg e]
   have hs : 0 < sz := by omega
   have h1 := cL_get sz c n (j / sz) (j % sz) ((Nat.div_lt_iff_lt_mul hs).2 hj) (Nat.mod_lt _ hs)
   have h2 := cL_get sz (fun i' q' => if i' = i ∧ q' = q then v else c i' q') n (j / sz) (j % sz) ((Nat.div_lt_iff_lt_mul hs).2 hj) (Nat.mod_lt _ hs)
   rw [mid_eq] at h1 h2
   rw [h1, h2, if_neg (fun ⟨e1, e2⟩ => e (by rw [← e1, ← e2]; exact mid_eq))]
 ·rw [if_neg (fun e => hj (by rw [← e]; exact mid_lt hi hq))]
  rw [List.getElem?_eq_none (by rw [cL_len]; omega), List.getElem?_eq_none (by rw [cL_len]; omega)]
structure Sep (a : Option Addr) (n sz : Nat) (G : Nat → Nat → Nat → Prop) (F : Nat → Prop) : Prop where
 head : ∀ x, a = some x → F x.block
 sub : ∀ i q g, i < n → q < sz → G i q g → F g
 apart : ∀ i q x, i < n → q < sz → a = some x → ¬ G i q x.block
 each : ∀ i q i' q' g, i < n → q < sz → i' < n → q' < sz → G i q g → G i' q' g → i = i' ∧ q = q'
def Ow (w : World) (B : Nat) : Dt → Value → (Nat → Prop) → Prop
 | .val v, x, _ => x = v
 | .lst t sz n f, x, F => ∃ a cap c G, x = .slice a n cap ∧ w.ownsRow B t sz (.slice a n cap) n (cL sz c n) ∧ Sep a n sz G F ∧ ∀ i q, i < n → q < sz → Ow w B (f i q) (c i q) (G i q)
theorem Ow.mono {w : World} {B : Nat} {d : Dt} {v : Value} {F F' : Nat → Prop} (h : Ow w B d v F) (hF : ∀ g, F g → F' g) : Ow w B d v F' := by
 cases d with
 | val v => exact h
 | lst t sz n f =>
  obtain ⟨a, cap, c, G, e, ho, hs, hr⟩ := h
  exact ⟨a, cap, c, G, e, ho, ⟨fun x hx => hF _ (hs.head x hx), fun i q g hi hq hg => hF _ (hs.sub i q g hi hq hg), hs.apart, hs.each⟩, hr⟩
theorem Ow.frame {w w' : World} {B : Nat} : ∀ {d : Dt} {v : Value} {F : Nat → Prop}, Ow w B d v F → (∀ g, F g → g < w.heap.size → w'.heap[g]? = w.heap[g]?) → Ow w' B d v F := by
 intro d
 induction d with
 | val v => intro x F hx _; exact hx
 | lst t sz n f ih =>
  rintro x F ⟨a, cap, c, G, e, ho, hs, hr⟩ hF
  refine ⟨a, cap, c, G, e, ⟨ho.1, ?_⟩, hs, fun i q hi hq => ih i q (hr i q hi hq) fun g hg => hF g (hs.sub i q g hi hq hg)⟩
  rcases ho.2 with h' | ⟨g, cap', cur, h1, h2, h3, h4⟩
  ·exact .inl h'
  ·refine .inr ⟨g, cap', cur, h1, h2, ?_, h4⟩
   have hx : a = some ⟨g, 0, none⟩ := by cases h1; rfl
   rw [hF g (hs.head _ hx) (Array.getElem?_eq_some_iff.1 h3).1]
   exact h3
theorem Ow.below {w w' : World} {B : Nat} {d : Dt} {v : Value} {F : Nat → Prop} (h : Ow w B d v F) (hb : Below w.heap.size w w') : Ow w' B d v F := h.frame fun g _ hg => hb.block g hg
theorem Ow.base {w : World} {B B' : Nat} : ∀ {d : Dt} {v : Value} {F : Nat → Prop}, Ow w B d v F → B' ≤ B → Ow w B' d v F := by
 intro d
 induction d with
 | val v => intro x F hx _; exact hx
 | lst t sz n f ih =>
  rintro x F ⟨a, cap, c, G, e, ho, hs, hr⟩ hB
  exact ⟨a, cap, c, G, e, own_base ho hB, hs, fun i q hi hq => ih i q (hr i q hi hq) hB⟩
theorem Ow.rd {w : World} {B : Nat} : ∀ {d : Dt} {v : Value} {F : Nat → Prop}, Ow w B d v F → Rd w d v := by
 intro d
 induction d with
 | val v => intro x F hx; exact hx
 | lst t sz n f ih =>
  rintro x F ⟨a, cap, c, G, e, ho, hs, hr⟩
  refine ⟨a, cap, e, fun i hi => ?_⟩
  rcases own_shape ho with ⟨_, h0, _⟩ | ⟨g, cur, rfl, _⟩
  ·omega
  ·refine ⟨g, 0, rfl, fun q hq => ⟨c i q, ?_, ih i q (hr i q hi hq)⟩⟩
   rw [Nat.zero_add, ho.cellAt _ (mid_lt hi hq)]
   exact cL_get _ _ _ _ _ hi hq
theorem Ow.cut {w : World} {B : Nat} : ∀ {d : Dt} {v : Value} {F : Nat → Prop}, Ow w B d v F → Ow w B d v (fun g => F g ∧ B ≤ g ∧ g < w.heap.size) := by
 intro d
 induction d with
 | val v => intro x F hx; exact hx
 | lst t sz n f ih =>
  rintro x F ⟨a, cap, c, G, e, ho, hs, hr⟩
  refine ⟨a, cap, c, fun i q g => G i q g ∧ B ≤ g ∧ g < w.heap.size, e, ho, ⟨fun x hx => ⟨hs.head x hx, ?_⟩, fun i q g hi hq hg => ⟨hs.sub i q g hi hq hg.1, hg.2⟩, fun i q x hi hq hx hg => hs.apart i q x hi hq hx hg.1, fun i q i' q' g hi hq hi' hq' hg hg' => hs.each i q i' q' g hi hq hi' hq' hg.1 hg'.1⟩, fun i q hi hq => ih i q (hr i q hi hq)⟩
  subst hx
  exact World.ownsRow.lt ho x.block rfl
theorem Ow.nil (w : World) (B : Nat) (t : TypeId) (sz : Nat) (f : Nat → Nat → Dt) (F : Nat → Prop) : Ow w B (.lst t sz 0 f) (.slice none 0 0) F :=
 ⟨none, 0, fun _ _ => undef, fun _ _ _ => False, rfl, by have := World.ownsRow_nil w B t sz; simpa [cL] using this, ⟨fun _ e => (nomatch e), fun _ _ _ hi => absurd hi (Nat.not_lt_zero _), fun _ _ _ hi => absurd hi (Nat.not_lt_zero _), fun _ _ _ _ _ hi => absurd hi (Nat.not_lt_zero _)⟩, fun _ _ hi => absurd hi (Nat.not_lt_zero _)⟩
theorem Ow.congr {w : World} {B : Nat} {t : TypeId} {sz n : Nat} {f f' : Nat → Nat → Dt} {v : Value} {F : Nat → Prop} (h : Ow w B (.lst t sz n f) v F) (e : ∀ i q, i < n → q < sz → f i q = f' i q) : Ow w B (.lst t sz n f') v F := by
 obtain ⟨a, cap, c, G, ex, ho, hs, hr⟩ := h
 exact ⟨a, cap, c, G, ex, ho, hs, fun i q hi hq => by rw [← e i q hi hq]; exact hr i q hi hq⟩
theorem ow_txt {w : World} {B : Nat} {a : Option Addr} {m cap : Nat} {S : Nat → ByteArray} {F : Nat → Prop} (h : OwnT w B a m cap S) (hF : ∀ x, a = some x → F x.block) : Ow w B (txD m S) (.slice a m cap) F := by
 refine ⟨a, cap, fun i _ => .string (S i), fun _ _ _ => False, rfl, ?_, ⟨hF, fun _ _ _ _ _ h => h.elim, fun _ _ _ _ _ _ h => h, fun _ _ _ _ _ _ _ _ _ h => h.elim⟩, fun _ _ _ _ => rfl⟩
 have : cL 1 (fun i _ => Value.string (S i)) m = sL S m := by unfold cL sL; simp
 rw [this]
 exact h
structure Trn (w w' : World) (F : Nat → Prop) : Prop where
 os : w'.os = w.os
 tape : w'.tape = w.tape
 output : w'.output = w.output
 size : w.heap.size ≤ w'.heap.size
 block : ∀ j, j < w.heap.size → ¬ F j → w'.heap[j]? = w.heap[j]?
theorem Trn.refl (w : World) (F : Nat → Prop) : Trn w w F := ⟨rfl, rfl, rfl, Nat.le_refl _, fun _ _ _ => rfl⟩
theorem Trn.trans {w w1 w2 : World} {F : Nat → Prop} (h : Trn w w1 F) (h2 : Trn w1 w2 F) : Trn w w2 F :=
 ⟨h2.os.trans h.os, h2.tape.trans h.tape, h2.output.trans h.output, Nat.le_trans h.size h2.size, fun j hj hn => (h2.block j (Nat.lt_of_lt_of_le hj h.size) hn).trans (h.block j hj hn)⟩
theorem Trn.ofBelow {w w' : World} (F : Nat → Prop) (h : Below w.heap.size w w') : Trn w w' F := ⟨h.os, h.tape, h.output, h.size, fun j hj _ => h.block j hj⟩
theorem Trn.below {w w' : World} {F : Nat → Prop} {s : Nat} (h : Trn w w' F) (hs : ∀ g, F g → s ≤ g) (hw : s ≤ w.heap.size) : Below s w w' := ⟨h.os, h.tape, h.output, h.size, fun j hj => h.block j (by omega) fun hf => by have := hs j hf; omega⟩
theorem Trn.set (w : World) {F : Nat → Prop} {g : Nat} (j : Nat) (v : Value) (hF : F g) : Trn w (w.setCell ⟨g, j, none⟩ v) F := ⟨rfl, rfl, rfl, by simp, fun i _ hi => heap_setCell_other w ⟨g, j, none⟩ i v (fun e => by subst e; exact hi hF)⟩
theorem Ow.turned {w w' : World} {B : Nat} {d : Dt} {v : Value} {F F' : Nat → Prop} (h : Ow w B d v F) (ht : Trn w w' F') (hd : ∀ g, F g → ¬ F' g) : Ow w' B d v F := h.frame fun g hg hl => ht.block g hl (hd g hg)
def rng (a b g : Nat) : Prop := a ≤ g ∧ g < b
theorem heap_setCells_other (b : Nat) : ∀ (vs : List Value) (o : Nat) (w : World) (j : Nat), j ≠ b → (w.setCells b o vs).heap[j]? = w.heap[j]?
 | [], _, _, _, _ => rfl
 | v :: r, o, w, j, h => by rw [World.setCells, heap_setCells_other b r (o + 1) _ j h]; exact heap_setCell_other w ⟨b, o, none⟩ j v h
theorem size_setCells (b : Nat) : ∀ (vs : List Value) (o : Nat) (w : World), (w.setCells b o vs).heap.size = w.heap.size
 | [], _, _ => rfl
 | v :: r, o, w => by rw [World.setCells, size_setCells b r (o + 1) _]; simp
theorem os_setCells (b : Nat) : ∀ (vs : List Value) (o : Nat) (w : World), (w.setCells b o vs).os = w.os ∧ (w.setCells b o vs).tape = w.tape ∧ (w.setCells b o vs).output = w.output
 | [], _, _ => ⟨rfl, rfl, rfl⟩
 | v :: r, o, w => by rw [World.setCells]; exact os_setCells b r (o + 1) _
theorem below_setCells {B b : Nat} {w0 w : World} (h : Below B w0 w) (hB : B ≤ b) (o : Nat) (vs : List Value) : Below B w0 (w.setCells b o vs) := by
 obtain ⟨h1, h2, h3⟩ := os_setCells b vs o w
 exact h.trans ⟨h1, h2, h3, by rw [size_setCells]; exact Nat.le_refl _, fun j hj => heap_setCells_other b vs o w j (by omega)⟩
theorem trn_setCells (w : World) {F : Nat → Prop} {b : Nat} (hF : F b) (o : Nat) (vs : List Value) : Trn w (w.setCells b o vs) F := by
 obtain ⟨h1, h2, h3⟩ := os_setCells b vs o w
 exact ⟨h1, h2, h3, by rw [size_setCells]; exact Nat.le_refl _, fun j _ hn => heap_setCells_other b vs o w j (fun e => by subst e; exact hn hF)⟩
theorem own_setCells {B t sz g n cap i : Nat} (hi : i < n) : ∀ (vs : List Value) (q0 : Nat) (w : World) (c : Nat → Nat → Value), q0 + vs.length = sz → w.ownsRow B t sz (.slice (some ⟨g, 0, none⟩) n cap) n (cL sz c n) →
  (w.setCells g (i * sz + q0) vs).ownsRow B t sz (.slice (some ⟨g, 0, none⟩) n cap) n (cL sz (fun i' q' => if i' = i ∧ q0 ≤ q' then vs.getD (q' - q0) undef else c i' q') n) := by
 intro vs
 induction vs with
 | nil =>
  intro q0 w c hq ho
  have e : cL sz (fun i' q' => if i' = i ∧ q0 ≤ q' then ([] : List Value).getD (q' - q0) undef else c i' q') n = cL sz c n := cL_congr fun i' q' _ hq' => if_neg (fun h => by have := h.2; simp at hq; omega)
  rw [e]
  exact ho
 | cons v r ih =>
  intro q0 w c hq ho
  rw [World.setCells]
  have hq0 : q0 < sz := by simp at hq; omega
  have h1 := (World.ownsRow.stored ho (i * sz + q0) v).1
  rw [cL_set _ _ _ _ _ _ hi hq0] at h1
  have h2 := ih (q0 + 1) _ _ (by simp at hq; omega) h1
  rw [Nat.add_assoc]
  have e : cL sz (fun i' q' => if i' = i ∧ q0 ≤ q' then (v :: r).getD (q' - q0) undef else c i' q') n = cL sz (fun i' q' => if i' = i ∧ q0 + 1 ≤ q' then r.getD (q' - (q0 + 1)) undef else if i' = i ∧ q' = q0 then v else c i' q') n := cL_congr fun i' q' _ hq' => by
   by_cases ei : i' = i
   ·by_cases e1 : q' = q0
    ·subst e1
     rw [if_pos ⟨ei, Nat.le_refl _⟩, if_neg (by omega), if_pos ⟨ei, rfl⟩, Nat.sub_self]
     rfl
    ·by_cases e2 : q0 ≤ q'
     ·obtain ⟨k, rfl⟩ : ∃ k, q' = q0 + 1 + k := ⟨q' - (q0 + 1), by omega⟩
      rw [if_pos ⟨ei, e2⟩, if_pos ⟨ei, by omega⟩, show q0 + 1 + k - q0 = k + 1 by omega, show q0 + 1 + k - (q0 + 1) = k by omega]
      rfl
     ·rw [if_neg (by omega), if_neg (by omega), if_neg (by omega)]
   ·simp [ei]
  rw [e]
  exact h2
theorem Ow.store {w : World} {B t sz g n cap i : Nat} {f : Nat → Nat → Dt} {F F' : Nat → Prop} {vs : List Value} {d : Nat → Dt} {H : Nat → Nat → Prop} (h : Ow w B (.lst t sz n f) (.slice (some ⟨g, 0, none⟩) n cap) F) (hi : i < n) (hl : vs.length = sz)
  (hv : ∀ q, q < sz → Ow w B (d q) (vs.getD q undef) (H q)) (hH : ∀ q x, q < sz → H q x → ¬ F x) (hE : ∀ q q' x, q < sz → q' < sz → H q x → H q' x → q = q') (hF : ∀ x, F x → F' x) (hF' : ∀ q x, q < sz → H q x → F' x) :
  Ow (w.setCells g (i * sz) vs) B (.lst t sz n (fun i' => if i' = i then d else f i')) (.slice (some ⟨g, 0, none⟩) n cap) F' := by
 obtain ⟨a, cap', c, G, e, ho, hs, hr⟩ := h
 cases e
 have hg : F g := hs.head _ rfl
 have e0 := own_setCells hi vs 0 w c (by omega) ho
 rw [Nat.add_zero] at e0
 refine ⟨some ⟨g, 0, none⟩, cap, _, fun i' q' => if i' = i then H q' else G i' q', rfl, e0, ⟨fun x hx => by cases hx; exact hF _ hg, fun i' q' x hi' hq' hx => ?_, fun i' q' x hi' hq' ex hx => ?_, fun i1 q1 i2 q2 x h1 h2 h3 h4 hx hx' => ?_⟩, fun i' q' hi' hq' => ?_⟩
 ·by_cases ei : i' = i
  ·simp only [ei, if_true] at hx; exact hF' _ _ hq' hx
  ·simp only [ei, if_false] at hx; exact hF _ (hs.sub _ _ _ hi' hq' hx)
 ·cases ex
  by_cases ei : i' = i
  ·simp only [ei, if_true] at hx; exact hH _ _ hq' hx hg
  ·simp only [ei, if_false] at hx; exact hs.apart _ _ _ hi' hq' rfl hx
 ·by_cases e1 : i1 = i
  ·by_cases e2 : i2 = i
   ·simp only [e1, e2, if_true] at hx hx'
    exact ⟨by omega, hE _ _ _ h2 h4 hx hx'⟩
   ·simp only [e1, e2, if_true, if_false] at hx hx'
    exact absurd (hs.sub _ _ _ h3 h4 hx') (hH _ _ h2 hx)
  ·by_cases e2 : i2 = i
   ·simp only [e1, e2, if_true, if_false] at hx hx'
    exact absurd (hs.sub _ _ _ h1 h2 hx) (hH _ _ h4 hx')
   ·simp only [e1, e2, if_false] at hx hx'
    exact hs.each _ _ _ _ _ h1 h2 h3 h4 hx hx'
 ·have keep : ∀ {dd : Dt} {v : Value} {K : Nat → Prop}, Ow w B dd v K → (∀ x, K x → x ≠ g) → Ow (w.setCells g (i * sz) vs) B dd v K := fun ho hk => ho.frame fun x hx _ => heap_setCells_other g vs _ w x (hk x hx)
  by_cases ei : i' = i
  ·simp only [ei, true_and, Nat.zero_le, if_true, Nat.sub_zero]
   exact keep (hv q' hq') (fun x hx e => by subst e; exact hH _ _ hq' hx hg)
  ·simp only [ei, false_and, if_false]
   exact keep (hr i' q' hi' hq') (fun x hx e => by subst e; exact hs.apart _ _ _ hi' hq' rfl hx)
theorem ow_made {w : World} {B t sz g n cap : Nat} {F : Nat → Prop} {zs : List Value} {f : Nat → Dt} (ho : w.ownsRow B t sz (.slice (some ⟨g, 0, none⟩) n cap) n (cL sz (fun _ q => zs.getD q undef) n)) (hz : ∀ q, q < sz → Ow w B (f q) (zs.getD q undef) (fun _ => False)) (hF : F g) : Ow w B (.lst t sz n (fun _ => f)) (.slice (some ⟨g, 0, none⟩) n cap) F :=
 ⟨_, cap, _, fun _ _ _ => False, rfl, ho, ⟨fun x e => by cases e; exact hF, fun _ _ _ _ _ h => h.elim, fun _ _ _ _ _ _ h => h, fun _ _ _ _ _ _ _ _ _ h => h.elim⟩, fun _ q _ hq => hz q hq⟩
theorem made_cL {zs : List Value} {n : Nat} (hz : 0 < zs.length) : (madeCells zs.toArray (n * zs.length)).toList = cL zs.length (fun _ q => zs.getD q undef) n := by
 apply List.ext_getElem?
 intro j
 by_cases hj : j < n * zs.length
 ·have h1 := cL_get zs.length (fun _ q => zs.getD q undef) n (j / zs.length) (j % zs.length) ((Nat.div_lt_iff_lt_mul hz).2 hj) (Nat.mod_lt _ hz)
  rw [mid_eq] at h1
  rw [h1]
  have hl := Nat.mod_lt j hz
  simp [madeCells, hj, hl]
 ·rw [List.getElem?_eq_none (by simp [size_madeCells]; omega), List.getElem?_eq_none (by rw [cL_len]; omega)]
theorem cL_snoc (sz : Nat) (c : Nat → Nat → Value) (n : Nat) (vs : List Value) (hz : 0 < sz) (hl : vs.length = sz) : cL sz c n ++ vs = cL sz (fun i q => if i = n then vs.getD q undef else c i q) (n + 1) := by
 apply List.ext_getElem?
 intro j
 by_cases hj : j < (n + 1) * sz
 ·have hd : j / sz < n + 1 := (Nat.div_lt_iff_lt_mul hz).2 hj
  have hm : j % sz < sz := Nat.mod_lt _ hz
  have h2 := cL_get sz (fun i q => if i = n then vs.getD q undef else c i q) (n + 1) (j / sz) (j % sz) hd hm
  rw [mid_eq] at h2
  rw [h2]
  by_cases hn : j < n * sz
  ·have hd' : j / sz < n := (Nat.div_lt_iff_lt_mul hz).2 hn
   have h1 := cL_get sz c n (j / sz) (j % sz) hd' hm
   rw [mid_eq] at h1
   rw [List.getElem?_append_left (by rw [cL_len]; exact hn), h1, if_neg (by omega)]
  ·have hd' : j / sz = n := by
    have : n ≤ j / sz := (Nat.le_div_iff_mul_le hz).2 (by omega)
    omega
   have he := @mid_eq sz j
   rw [hd'] at he
   rw [List.getElem?_append_right (by rw [cL_len]; omega), cL_len, if_pos hd']
   rw [show j - n * sz = j % sz by omega, List.getElem?_eq_getElem (by omega), List.getD_eq_getElem?_getD, List.getElem?_eq_getElem (by omega)]
   rfl
 ·have e : (n + 1) * sz = n * sz + sz := Nat.succ_mul n sz
  rw [List.getElem?_eq_none (by rw [List.length_append, cL_len]; omega), List.getElem?_eq_none (by rw [cL_len]; omega)]
theorem ow_snoc {w w' : World} {B t sz n g cap cp : Nat} {a : Option Addr} {c : Nat → Nat → Value} {G : Nat → Nat → Nat → Prop} {f : Nat → Nat → Dt} {F F' : Nat → Prop} {vs : List Value} {d : Nat → Dt} {H : Nat → Nat → Prop} (hz : 0 < sz)
  (hs : Sep a n sz G F) (hr : ∀ i q, i < n → q < sz → Ow w B (f i q) (c i q) (G i q))
  (hl : vs.length = sz) (hv : ∀ q, q < sz → Ow w B (d q) (vs.getD q undef) (H q)) (hH : ∀ q x, q < sz → H q x → ¬ F x) (hE : ∀ q q' x, q < sz → q' < sz → H q x → H q' x → q = q')
  (h2 : w'.ownsRow B t sz (.slice (some ⟨g, 0, none⟩) (n + 1) cap) (n + 1) (cL sz c n ++ vs)) (h3 : w.grownBy w' (Value.slice a n cp).ownBlock) (h4 : (Value.slice a n cp).ownBlock = some g ∨ g = w.heap.size)
  (hF : ∀ x, F x → x < w.heap.size → F' x) (hF' : ∀ q x, q < sz → H q x → x < w.heap.size → F' x) (hg : F' g) :
  Ow w' B (.lst t sz (n + 1) (fun i => if i = n then d else f i)) (.slice (some ⟨g, 0, none⟩) (n + 1) cap) F' := by
 rw [cL_snoc sz c n vs hz hl] at h2
 have hb' : ∀ x, x < w.heap.size → (∀ y, a = some y → x ≠ y.block) → w'.heap[x]? = w.heap[x]? := fun x hx hy => h3.block x hx fun e => by
  cases a with
  | none => cases e
  | some y => exact hy y rfl (by injection e)
 have hgn : ∀ x, x < w.heap.size → g = x → ∃ y, a = some y ∧ y.block = x := fun x hx e => by
  rcases h4 with h4 | h4
  ·cases a with
   | none => cases h4
   | some y => exact ⟨y, rfl, by injection h4 with h4; omega⟩
  ·omega
 refine ⟨_, cap, _, fun i q x => (if i = n then H q x else G i q x) ∧ B ≤ x ∧ x < w.heap.size, rfl, h2, ⟨fun x hx => by cases hx; exact hg, fun i q x hi hq hx => ?_, fun i q x hi hq ex hx => ?_, fun i q i' q' x hi hq hi' hq' hx hx' => ?_⟩, fun i q hi hq => ?_⟩
 ·obtain ⟨hx, _, hlt⟩ := hx
  by_cases e : i = n
  ·rw [if_pos e] at hx; exact hF' q x hq hx hlt
  ·rw [if_neg e] at hx; exact hF x (hs.sub i q x (by omega) hq hx) hlt
 ·cases ex
  obtain ⟨hx, _, hlt⟩ := hx
  obtain ⟨y, ey, eb⟩ := hgn g hlt rfl
  by_cases e : i = n
  ·rw [if_pos e] at hx
   exact hH q g hq hx (eb ▸ hs.head y ey)
  ·rw [if_neg e] at hx
   exact hs.apart i q y (by omega) hq ey (eb ▸ hx)
 ·obtain ⟨hx, _⟩ := hx
  obtain ⟨hx', _⟩ := hx'
  by_cases e : i = n <;> by_cases e' : i' = n
  ·rw [if_pos e] at hx; rw [if_pos e'] at hx'
   exact ⟨e.trans e'.symm, hE q q' x hq hq' hx hx'⟩
  ·rw [if_pos e] at hx; rw [if_neg e'] at hx'
   exact absurd (hs.sub i' q' x (by omega) hq' hx') (hH q x hq hx)
  ·rw [if_neg e] at hx; rw [if_pos e'] at hx'
   exact absurd (hs.sub i q x (by omega) hq hx) (hH q' x hq' hx')
  ·rw [if_neg e] at hx; rw [if_neg e'] at hx'
   exact hs.each i q i' q' x (by omega) hq (by omega) hq' hx hx'
 ·by_cases e : i = n
  ·simp only [e, if_true]
   refine (hv q hq).cut.frame fun x hx hlt => hb' x hlt fun y ey eb => hH q x hq hx.1 (eb ▸ hs.head y ey)
  ·simp only [e, if_false]
   refine (hr i q (by omega) hq).cut.frame fun x hx hlt => hb' x hlt fun y ey eb => hs.apart i q y (by omega) hq ey (eb ▸ hx.1)
theorem wpList_snoc {P : Program} (w : World) {ops : Array Oper} {rest : List Oper} {o : Oper} {a : Act} {Q : Exit → Act → World → Prop} (hgd : o.guard = none) (s x : Operand) (t : TypeId)
  (ho : o.op = .call { callee := .builtin .append, args := #[s, x], argTypes := #[t, t] })
  (B : Nat) (e : TypeId) (i : TypeInfo) (z : Value) (size bytes : Nat) (ht : P.underlying t = some (.slice e)) (hi : P.info? e = some i) (hz : i.zero = some z)
  (hsize : i.size = size) (hby : i.bytes = bytes) (hzs : z.cells.size = size) (hsz : 0 < size)
  (v : Value) (n : Nat) (f : Nat → Nat → Dt) (F : Nat → Prop) (hs : a.eval s = v) (hO : Ow w B (.lst e size n f) v F)
  (ad : Addr) (c : Nat) (vs : List Value) (hx : a.eval x = .slice (some ad) 1 c) (hl : vs.length = size) (hvs : ∀ j u, vs[j]? = some u → w.cell? (ad.add j) = some u) (h1 : ∀ u ∈ vs, u.oneCell' = true)
  (d : Nat → Dt) (H : Nat → Nat → Prop) (hv : ∀ q, q < size → Ow w B (d q) (vs.getD q undef) (H q)) (hH : ∀ q x, q < size → H q x → ¬ F x) (hE : ∀ q q' x, q < size → q' < size → H q x → H q' x → q = q')
  (h63 : n + 1 ≤ maxLen) (hbytes : (n + 1) * bytes ≤ 140737488355328) (hB : B ≤ w.heap.size)
  (h : ∀ g cap w', Ow w' B (.lst e size (n + 1) (fun i => if i = n then d else f i)) (.slice (some ⟨g, 0, none⟩) (n + 1) cap) (fun x => x < w'.heap.size ∧ ((F x ∨ ∃ q, q < size ∧ H q x) ∨ w.heap.size ≤ x)) → Below B w w' → (∀ x, x < w.heap.size → ¬ F x → w'.heap[x]? = w.heap[x]?) → wpList P ops Q rest (a.put o.dst (.slice (some ⟨g, 0, none⟩) (n + 1) cap)) w') :
  wpList P ops Q (o :: rest) a w := by
 obtain ⟨a0, cp, cc, G, rfl, hown, hsep, hr⟩ := hO
 refine wpList_append_lies w hgd s x t ho B e i z size bytes ht hi hz hsize hby hzs hsz _ n _ hs hown ad 1 c vs hx (by omega) hvs h1 (by omega) h63 hbytes hB w.heap.size rfl fun g cap w' h2 h3 h4 h5 => ?_
 have hsz' := h3.size
 have hk : ∀ k, (Value.slice a0 n cp).ownBlock = some k → F k ∧ B ≤ k ∧ k < w.heap.size := fun k ek => by
  cases a0 with
  | none => cases ek
  | some y =>
   have e1 : y.block = k := by injection ek
   subst e1
   exact ⟨hsep.head y rfl, World.ownsRow.lt hown y.block rfl⟩
 refine h g cap w' (ow_snoc hsz hsep hr hl hv hH hE h2 h3 h4 (fun x hx hlt => ⟨by omega, .inl (.inl hx)⟩) (fun q x hq hx hlt => ⟨by omega, .inl (.inr ⟨q, hq, hx⟩)⟩) ⟨h5, ?_⟩) ((Below.refl _ _).grown h3 hB fun k ek => (hk k ek).2.1) fun x hx hn => h3.block x hx fun ek => hn (hk x ek.symm).1
 rcases h4 with h4 | h4
 ·exact .inl (.inl (hk g h4).1)
 ·exact .inr (by omega)
end Go.Proofs.YtmhcdkbgjjibeaaGreatDoor
