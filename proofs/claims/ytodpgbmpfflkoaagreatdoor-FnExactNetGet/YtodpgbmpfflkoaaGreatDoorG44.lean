/- A net's start in the model. Conditions: lists of at most 2^20. -/
import Derived.Test.YtodpgbmpfflkoaaGreatDoorG43
import Derived.Test.YtodpgbmpfflkoaaGreatDoorG32
import Derived.Test.YtodpgbmpfflkoaaGreatDoorG16
import Derived.Test.YtodpgbmpfflkoaaGreatDoorG41
import Derived.RegionTactic
import Derived.Test.YtodpgbmpfflkoaaGreatDoorG35
import Derived.WideKeyEntry
import Derived.Laws.StructEq
import Derived.Laws.IdiomCopy
namespace Go.Proofs.YtodpgbmpfflkoaaGreatDoor
set_option maxRecDepth 2000
open Go.ChangeShapes Go.WideShapes Go.ChangeAt Go.RowKit

/-- A node at its start. -/
def nd0 (f : Int) (i : Nat) : Nd := ⟨(i : Int), f, 0, fun _ => slZ⟩
end Go.Proofs.YtodpgbmpfflkoaaGreatDoor
/- A net's start in the model, where it may start. Conditions: lists of at most 2^20. -/
namespace Go.Proofs.YtodpgbmpfflkoaaGreatDoor
set_option maxRecDepth 2000
open Go.ChangeShapes Go.WideShapes Go.ChangeAt Go.RowKit

end Go.Proofs.YtodpgbmpfflkoaaGreatDoor
/- A region that draws its order, by an invariant over all orders. Lemmas over any program; no condition. -/
namespace Go.Proofs.YtodpgbmpfflkoaaGreatDoor
set_option maxRecDepth 2000
open Go.ChangeShapes Go.WideShapes Go.ChangeAt Go.RowKit

end Go.Proofs.YtodpgbmpfflkoaaGreatDoor
/- A net's start in the program. Conditions: lists of at most 2^20. -/
namespace Go.Proofs.YtodpgbmpfflkoaaGreatDoor
set_option maxRecDepth 2000
open Go.ChangeShapes Go.WideShapes Go.ChangeAt Go.RowKit

end Go.Proofs.YtodpgbmpfflkoaaGreatDoor
/- A net's start in the program: what stands in memory while its literal is built, in whatever order. Lemmas. -/
namespace Go.Proofs.YtodpgbmpfflkoaaGreatDoor
set_option maxRecDepth 2000
open Go.ChangeShapes Go.WideShapes Go.ChangeAt Go.RowKit

def syO : Sy := ⟨0, 0, 0, ByteArray.empty, ⟨ByteArray.empty, 0, 0, 0, ByteArray.empty, 0, fun _ => ByteArray.empty⟩⟩
/-- Nodes of zero value. -/
def ndsZ (m : Nat) : Dt := .lst 81 3 m (fun _ => ndD ndN)
abbrev ntZ : Array Value := #[.int .i64 0, .slice none 0 0, .slice none 0 0, .slice none 0 0]
/-- What stands when some of the five are done: the number, the nodes, the liars, the way, the net's own block. -/
structure N3 (W0 : World) (m : Nat) (zs : List Int) (p2 p3 p5 p6 p8 : Bool) (x20 x21 x23 x24 x6 : Value) (W : World) (F1 F2 F3 F4 : Nat → Prop) : Prop where
  bw : Below W0.heap.size W0 W
  c2 : p2 = true → x20 = .int .i64 (m : Int)
  bd : ∀ g, F1 g ∨ F2 g ∨ F3 g ∨ F4 g → W0.heap.size ≤ g ∧ g < W.heap.size
  d1 : ∀ g, F1 g → ¬ F2 g ∧ ¬ F3 g ∧ ¬ F4 g
  d2 : ∀ g, F2 g → ¬ F3 g ∧ ¬ F4 g
  d3 : ∀ g, F3 g → ¬ F4 g
  c3 : p3 = true → ∃ g1, x21 = .slice (some ⟨g1, 0, none⟩) m m ∧ Ow W W0.heap.size (ndsZ m) x21 F1
  c5 : p5 = true → ∃ a2 c2, x23 = .slice a2 zs.length c2 ∧ Ow W W0.heap.size (inD zs) x23 F2
  c6 : p6 = true → ∃ g3, x24 = .slice (some ⟨g3, 0, none⟩) 0 0 ∧ Ow W W0.heap.size (sysD 0 (fun _ => syO)) x24 F3
  c8 : p8 = true → ∃ G, x6 = .pointer (some ⟨G, 0, none⟩) ∧ Row W G 35 ntZ ∧ F4 G
def N3E (W0 : World) (m : Nat) (zs : List Int) (p2 p3 p5 p6 p8 : Bool) (x20 x21 x23 x24 x6 : Value) (W : World) : Prop := ∃ F1 F2 F3 F4, N3 W0 m zs p2 p3 p5 p6 p8 x20 x21 x23 x24 x6 W F1 F2 F3 F4
section
variable {W0 W W' : World} {m : Nat} {zs : List Int} {p2 p3 p5 p6 p8 : Bool} {x20 x21 x23 x24 x6 : Value}
theorem N3E.count (h : N3E W0 m zs false p3 p5 p6 p8 x20 x21 x23 x24 x6 W) : N3E W0 m zs true p3 p5 p6 p8 (.int .i64 (m : Int)) x21 x23 x24 x6 W := by
  obtain ⟨F1, F2, F3, F4, h⟩ := h
  exact ⟨F1, F2, F3, F4, h.bw, fun _ => rfl, h.bd, h.d1, h.d2, h.d3, h.c3, h.c5, h.c6, h.c8⟩
theorem N3E.nodes {g1 : Nat} (h : N3E W0 m zs p2 false p5 p6 p8 x20 x21 x23 x24 x6 W) (hb : Below W.heap.size W W') (ho : Ow W' W.heap.size (ndsZ m) (.slice (some ⟨g1, 0, none⟩) m m) (rng W.heap.size W'.heap.size)) : N3E W0 m zs p2 true p5 p6 p8 x20 (.slice (some ⟨g1, 0, none⟩) m m) x23 x24 x6 W' := by
  obtain ⟨F1, F2, F3, F4, h⟩ := h
  have hs := h.bw.size
  have hl : ∀ g, F2 g ∨ F3 g ∨ F4 g → ¬ rng W.heap.size W'.heap.size g := fun g hg k => by have := h.bd g (.inr hg); have := k.1; omega
  refine ⟨rng W.heap.size W'.heap.size, F2, F3, F4, below2 h.bw hb, h.c2, fun g hg => ?_, fun g hg => ⟨fun k => hl g (.inl k) hg, fun k => hl g (.inr (.inl k)) hg, fun k => hl g (.inr (.inr k)) hg⟩, h.d2, h.d3, fun _ => ⟨g1, rfl, ho.base hs⟩, fun e => ?_, fun e => ?_, fun e => ?_⟩
  · have hs' := hb.size
    rcases hg with hg | hg
    · exact ⟨by have := hg.1; omega, hg.2⟩
    · have := h.bd g (.inr hg); omega
  · obtain ⟨a2, c2, e1, o⟩ := h.c5 e; exact ⟨a2, c2, e1, o.below hb⟩
  · obtain ⟨g3, e1, o⟩ := h.c6 e; exact ⟨g3, e1, o.below hb⟩
  · obtain ⟨G, e1, r, f⟩ := h.c8 e; exact ⟨G, e1, r.below hb r.lt, f⟩
theorem N3E.liars {a2 : Option Addr} {c2 : Nat} (h : N3E W0 m zs p2 p3 false p6 p8 x20 x21 x23 x24 x6 W) (hb : Below W.heap.size W W') (ho : Ow W' W.heap.size (inD zs) (.slice a2 zs.length c2) (rng W.heap.size W'.heap.size)) : N3E W0 m zs p2 p3 true p6 p8 x20 x21 (.slice a2 zs.length c2) x24 x6 W' := by
  obtain ⟨F1, F2, F3, F4, h⟩ := h
  have hs := h.bw.size
  have hl : ∀ g, F1 g ∨ F3 g ∨ F4 g → ¬ rng W.heap.size W'.heap.size g := fun g hg k => by have := h.bd g (by rcases hg with a | a | a <;> simp [a]); have := k.1; omega
  refine ⟨F1, rng W.heap.size W'.heap.size, F3, F4, below2 h.bw hb, h.c2, fun g hg => ?_, fun g hg => ⟨hl g (.inl hg), (h.d1 g hg).2⟩, fun g hg => ⟨fun k => hl g (.inr (.inl k)) hg, fun k => hl g (.inr (.inr k)) hg⟩, h.d3, fun e => ?_, fun _ => ⟨a2, c2, rfl, ho.base hs⟩, fun e => ?_, fun e => ?_⟩
  · have hs' := hb.size
    rcases hg with hg | hg | hg
    · have := h.bd g (.inl hg); omega
    · exact ⟨by have := hg.1; omega, hg.2⟩
    · have := h.bd g (.inr (.inr hg)); omega
  · obtain ⟨g1, e1, o⟩ := h.c3 e; exact ⟨g1, e1, o.below hb⟩
  · obtain ⟨g3, e1, o⟩ := h.c6 e; exact ⟨g3, e1, o.below hb⟩
  · obtain ⟨G, e1, r, f⟩ := h.c8 e; exact ⟨G, e1, r.below hb r.lt, f⟩
theorem N3E.way {g3 : Nat} (h : N3E W0 m zs p2 p3 p5 false p8 x20 x21 x23 x24 x6 W) (hb : Below W.heap.size W W') (ho : Ow W' W.heap.size (sysD 0 (fun _ => syO)) (.slice (some ⟨g3, 0, none⟩) 0 0) (rng W.heap.size W'.heap.size)) : N3E W0 m zs p2 p3 p5 true p8 x20 x21 x23 (.slice (some ⟨g3, 0, none⟩) 0 0) x6 W' := by
  obtain ⟨F1, F2, F3, F4, h⟩ := h
  have hs := h.bw.size
  have hl : ∀ g, F1 g ∨ F2 g ∨ F4 g → ¬ rng W.heap.size W'.heap.size g := fun g hg k => by have := h.bd g (by rcases hg with a | a | a <;> simp [a]); have := k.1; omega
  refine ⟨F1, F2, rng W.heap.size W'.heap.size, F4, below2 h.bw hb, h.c2, fun g hg => ?_, fun g hg => ⟨(h.d1 g hg).1, hl g (.inl hg), (h.d1 g hg).2.2⟩, fun g hg => ⟨hl g (.inr (.inl hg)), (h.d2 g hg).2⟩, fun g hg k => hl g (.inr (.inr k)) hg, fun e => ?_, fun e => ?_, fun _ => ⟨g3, rfl, ho.base hs⟩, fun e => ?_⟩
  · have hs' := hb.size
    rcases hg with hg | hg | hg | hg
    · have := h.bd g (.inl hg); omega
    · have := h.bd g (.inr (.inl hg)); omega
    · exact ⟨by have := hg.1; omega, hg.2⟩
    · have := h.bd g (.inr (.inr (.inr hg))); omega
  · obtain ⟨g1, e1, o⟩ := h.c3 e; exact ⟨g1, e1, o.below hb⟩
  · obtain ⟨a2, c2, e1, o⟩ := h.c5 e; exact ⟨a2, c2, e1, o.below hb⟩
  · obtain ⟨G, e1, r, f⟩ := h.c8 e; exact ⟨G, e1, r.below hb r.lt, f⟩
theorem N3E.own (h : N3E W0 m zs p2 p3 p5 p6 false x20 x21 x23 x24 x6 W) : N3E W0 m zs p2 p3 p5 p6 true x20 x21 x23 x24 (.pointer (some ⟨W.heap.size, 0, none⟩)) (W.alloc (.cells ntZ 35)) := by
  obtain ⟨F1, F2, F3, F4, h⟩ := h
  have hs := h.bw.size
  have hb : Below W.heap.size W (W.alloc (.cells ntZ 35)) := (Below.refl _ _).alloc (Nat.le_refl _) _
  have hl : ∀ g, F1 g ∨ F2 g ∨ F3 g → g ≠ W.heap.size := fun g hg k => by have := h.bd g (by rcases hg with a | a | a <;> simp [a]); omega
  refine ⟨F1, F2, F3, fun g => g = W.heap.size, below2 h.bw hb, h.c2, fun g hg => ?_, fun g hg => ⟨(h.d1 g hg).1, (h.d1 g hg).2.1, hl g (.inl hg)⟩, fun g hg => ⟨(h.d2 g hg).1, hl g (.inr (.inl hg))⟩, fun g hg => hl g (.inr (.inr hg)), fun e => ?_, fun e => ?_, fun e => ?_, fun _ => ⟨_, rfl, Row.new W _ _, rfl⟩⟩
  · have e1 : (W.alloc (.cells ntZ 35)).heap.size = W.heap.size + 1 := by simp
    rw [e1]
    rcases hg with hg | hg | hg | hg
    · have := h.bd g (.inl hg); omega
    · have := h.bd g (.inr (.inl hg)); omega
    · have := h.bd g (.inr (.inr (.inl hg))); omega
    · have hg' : g = W.heap.size := hg; omega
  · obtain ⟨g1, e1, o⟩ := h.c3 e; exact ⟨g1, e1, o.below hb⟩
  · obtain ⟨a2, c2, e1, o⟩ := h.c5 e; exact ⟨a2, c2, e1, o.below hb⟩
  · obtain ⟨g3, e1, o⟩ := h.c6 e; exact ⟨g3, e1, o.below hb⟩
end
/-- What does not change while the nodes are put in. -/
structure N5X (w : World) (B S0 G g1 D : Nat) (F1 F2 F3 : Nat → Prop) : Prop where
  h1 : F1 g1
  hb : ∀ g, F1 g ∨ F2 g ∨ F3 g → B ≤ g ∧ g < S0
  d1 : ∀ g, F1 g → ¬ F2 g ∧ ¬ F3 g
  d2 : ∀ g, F2 g → ¬ F3 g
  nG : ¬ F1 G ∧ ¬ F2 G ∧ ¬ F3 G
  nD : D < B ∧ G ≠ D ∧ w.heap.size ≤ D ∧ w.heap.size ≤ B
/-- What stands when k nodes are put in. -/
structure N5 (w : World) (B S0 G g1 D : Nat) (f : Int) (m : Nat) (zs : List Int) (a2 : Option Addr) (n c2 g3 : Nat) (F1 F2 F3 : Nat → Prop) (k : Nat) (wr : World) : Prop where
  rg : Row wr G 35 #[.int .i64 f, .slice (some ⟨g1, 0, none⟩) m m, .slice a2 n c2, .slice (some ⟨g3, 0, none⟩) 0 0]
  rd : Row wr D 35 ntZ
  on : Ow wr B (.lst 81 3 m (fun i => if i < k then ndD (nd0 f i) else ndD ndN)) (.slice (some ⟨g1, 0, none⟩) m m) (fun g => F1 g ∨ rng S0 wr.heap.size g)
  ol : Ow wr B (inD zs) (.slice a2 zs.length c2) F2
  oy : Ow wr B (sysD 0 (fun _ => syO)) (.slice (some ⟨g3, 0, none⟩) 0 0) F3
  bw : Below w.heap.size w wr
  sz : S0 ≤ wr.heap.size
theorem ow_none {w : World} {B : Nat} {ay : Option Addr} (h : w.ownsRow B 76 13 (.slice ay 0 0) 0 []) : Ow w B (slsD 0 (fun _ => slZ)) (.slice ay 0 0) (rng B w.heap.size) := by
  refine ⟨ay, 0, fun _ _ => undef, fun _ _ _ => False, rfl, by simpa [cL] using h, ⟨fun x e => ?_, fun _ _ _ hi => absurd hi (Nat.not_lt_zero _), fun _ _ _ hi => absurd hi (Nat.not_lt_zero _), fun _ _ _ _ _ hi => absurd hi (Nat.not_lt_zero _)⟩, fun _ _ hi => absurd hi (Nat.not_lt_zero _)⟩
  subst e
  exact World.ownsRow.lt h x.block rfl
theorem N5.put {w wr w2 : World} {B S0 G g1 D : Nat} {f : Int} {m : Nat} {zs : List Int} {a2 ay : Option Addr} {n c2 g3 : Nat} {F1 F2 F3 : Nat → Prop} {k : Nat} (hx : N5X w B S0 G g1 D F1 F2 F3) (h : N5 w B S0 G g1 D f m zs a2 n c2 g3 F1 F2 F3 k wr) (hk : k < m) (b2 : Below wr.heap.size wr w2) (o2 : w2.ownsRow wr.heap.size 76 13 (.slice ay 0 0) 0 []) :
    N5 w B S0 G g1 D f m zs a2 n c2 g3 F1 F2 F3 (k + 1) (w2.setCells g1 (k * 3) [.int .i64 (k : Int), .int .i64 f, .slice ay 0 0]) := by
  have b1 := hx.hb g1 (.inl hx.h1)
  have hs := b2.size
  have hz := h.sz
  have hD := hx.nD
  have hGl := h.rg.lt
  have hDl := h.rd.lt
  have gG : G ≠ g1 := fun e => hx.nG.1 (e ▸ hx.h1)
  have ht := h.on.below b2
  have hsB : B ≤ wr.heap.size := by omega
  refine ⟨(heap_setCells_other g1 _ _ w2 G gG).trans (h.rg.below b2 hGl), (heap_setCells_other g1 _ _ w2 D (by omega)).trans (h.rd.below b2 hDl), ?_, (h.ol.below b2).frame (fun g hg _ => heap_setCells_other g1 _ _ w2 g (fun e => (hx.d1 g1 hx.h1).1 (e ▸ hg))), (h.oy.below b2).frame (fun g hg _ => heap_setCells_other g1 _ _ w2 g (fun e => (hx.d1 g1 hx.h1).2 (e ▸ hg))), below_setCells (below2 h.bw b2) (by omega) _ _, by rw [size_setCells]; omega⟩
  rw [size_setCells]
  refine Ow.congr (Ow.store (d := ndD (nd0 f k)) (H := fun q x => q = 2 ∧ rng wr.heap.size w2.heap.size x) ht hk rfl (fun q hq => ow_node (d := nd0 f k) ((ow_none o2).base hsB) q hq) ?_ ?_ ?_ ?_) ?_
  · intro q x _ hx' hf
    have h2 := hx'.2.1
    rcases hf with hf | hf
    · have := hx.hb x (.inl hf); omega
    · have := hf.2; omega
  · intro q q' x _ _ hx' hx''
    exact hx'.1.trans hx''.1.symm
  · intro x hx'
    rcases hx' with hx' | hx'
    · exact .inl hx'
    · exact .inr ⟨hx'.1, by have := hx'.2; omega⟩
  · intro q x _ hx'
    exact .inr ⟨by have := hx'.2.1; omega, hx'.2.2⟩
  · intro i q _ _
    by_cases e : i = k
    · subst e; simp
    · by_cases e2 : i < k
      · simp [e, e2, show i < k + 1 by omega]
      · simp [e, e2, show ¬ i < k + 1 by omega]
theorem N5.fin {w wr : World} {B S0 G g1 D : Nat} {f : Int} {m : Nat} {zs : List Int} {a2 : Option Addr} {n c2 g3 : Nat} {F1 F2 F3 : Nat → Prop} (hx : N5X w B S0 G g1 D F1 F2 F3) (h : N5 w B S0 G g1 D f m zs a2 n c2 g3 F1 F2 F3 m wr) (cs : Array Value) :
    NtO (wr.setRow D cs) w.heap.size m (nd0 f) zs 0 (fun _ => syO) (.slice (some ⟨g1, 0, none⟩) m m) (.slice a2 zs.length c2) (.slice (some ⟨g3, 0, none⟩) 0 0) (fun g => F1 g ∨ rng S0 wr.heap.size g) F2 F3 ∧ Below w.heap.size w (wr.setRow D cs) := by
  have hD := hx.nD
  have b1 := hx.hb g1 (.inl hx.h1)
  have nF : ∀ g, F1 g ∨ F2 g ∨ F3 g → g ≠ D := fun g hg e => by have := hx.hb g hg; omega
  have nR : ∀ g, rng S0 wr.heap.size g → g ≠ D := fun g hg e => by have := hg.1; omega
  refine ⟨⟨?_, ((h.ol.base hD.2.2.2).frame fun g hg _ => setRow_other _ _ _ _ (nF g (.inr (.inl hg)))), ((h.oy.base hD.2.2.2).frame fun g hg _ => setRow_other _ _ _ _ (nF g (.inr (.inr hg)))), ?_, ?_, hx.d2⟩, belowSetRow h.bw hD.2.2.1 _⟩
  · have h1 : Ow wr B (ndsD m (nd0 f)) (.slice (some ⟨g1, 0, none⟩) m m) (fun g => F1 g ∨ rng S0 wr.heap.size g) := h.on.congr (fun i q hi _ => by simp [hi])
    exact (h1.base hD.2.2.2).frame fun g hg _ => setRow_other _ _ _ _ (by rcases hg with hg | hg; exact nF g (.inl hg); exact nR g hg)
  · intro g hg k
    rcases hg with hg | hg
    · exact (hx.d1 g hg).1 k
    · have := hx.hb g (.inr (.inl k)); have := hg.1; omega
  · intro g hg k
    rcases hg with hg | hg
    · exact (hx.d1 g hg).2 k
    · have := hx.hb g (.inr (.inr k)); have := hg.1; omega
end Go.Proofs.YtodpgbmpfflkoaaGreatDoor
/- A net's start in the program, where it may start. Conditions: lists of at most 2^20. -/
namespace Go.Proofs.YtodpgbmpfflkoaaGreatDoor
set_option maxRecDepth 2000
open Go.ChangeShapes Go.WideShapes Go.ChangeAt Go.RowKit

end Go.Proofs.YtodpgbmpfflkoaaGreatDoor
/- A net's start, in the program and in the model, told in one way; what stands in memory while its law is gone through. Conditions: lists of at most 2^20. -/
namespace Go.Proofs.YtodpgbmpfflkoaaGreatDoor
set_option maxRecDepth 2000
open Go.ChangeShapes Go.WideShapes Go.ChangeAt Go.RowKit

/-- What stands while the law is gone through: the answer's block, and its lists. -/
structure NsF (w4 : World) (bg G : Nat) (fx : Int) (m : Nat) (N : Nat → Nd) (zs : List Int) (Y : Nat → Sy) (b1 b2 b3 : Option Addr) (d1 l2 d2 d3 : Nat) (W : World) : Prop where
  bw : Below w4.heap.size w4 W
  rg : Row W G 35 #[.int .i64 fx, .slice b1 m d1, .slice b2 l2 d2, .slice b3 0 d3]
  og : ∃ F1 F2 F3, NtO W bg m N zs 0 Y (.slice b1 m d1) (.slice b2 l2 d2) (.slice b3 0 d3) F1 F2 F3 ∧ ∀ g, F1 g ∨ F2 g ∨ F3 g → bg ≤ g ∧ g < G
theorem NtO.below {w w' : World} {B n m : Nat} {N : Nat → Nd} {zs : List Int} {Y : Nat → Sy} {v1 v2 v3 : Value} {F1 F2 F3 : Nat → Prop} (h : NtO w B n N zs m Y v1 v2 v3 F1 F2 F3) (hb : Below w.heap.size w w') : NtO w' B n N zs m Y v1 v2 v3 F1 F2 F3 := ⟨h.n.below hb, h.z.below hb, h.y.below hb, h.d1, h.d2, h.d3⟩
theorem NtO.cut {w : World} {B n m : Nat} {N : Nat → Nd} {zs : List Int} {Y : Nat → Sy} {v1 v2 v3 : Value} {F1 F2 F3 : Nat → Prop} (h : NtO w B n N zs m Y v1 v2 v3 F1 F2 F3) : ∃ G1 G2 G3, NtO w B n N zs m Y v1 v2 v3 G1 G2 G3 ∧ ∀ g, G1 g ∨ G2 g ∨ G3 g → B ≤ g ∧ g < w.heap.size :=
  ⟨_, _, _, ⟨h.n.cut, h.z.cut, h.y.cut, fun g a b => h.d1 g a.1 b.1, fun g a b => h.d2 g a.1 b.1, fun g a b => h.d3 g a.1 b.1⟩, fun g hg => by rcases hg with hg | hg | hg <;> exact hg.2⟩
section
variable {w4 W W' : World} {bg G : Nat} {fx : Int} {m : Nat} {N N' : Nat → Nd} {zs zs' : List Int} {Y Y' : Nat → Sy} {b1 b2 b3 : Option Addr} {d1 l2 d2 d3 : Nat}
theorem NsF.below (h : NsF w4 bg G fx m N zs Y b1 b2 b3 d1 l2 d2 d3 W) (hb : Below W.heap.size W W') : NsF w4 bg G fx m N zs Y b1 b2 b3 d1 l2 d2 d3 W' := by
  obtain ⟨F1, F2, F3, o, hd⟩ := h.og
  exact ⟨below2 h.bw hb, h.rg.below hb h.rg.lt, F1, F2, F3, o.below hb, hd⟩
end
end Go.Proofs.YtodpgbmpfflkoaaGreatDoor
/- A map whose keys are badges (structs of two numbers): what its operations answer. No condition but what each says. -/
namespace Go.Proofs.YtodpgbmpfflkoaaGreatDoor
set_option maxRecDepth 2000
open Go.ChangeShapes Go.WideShapes Go.ChangeAt Go.RowKit

def bk (a f : Int) : Value := .agg #[.int .i64 a, .int .i64 f]
theorem bk_check (a f : Int) (em : Bool) (w : World) : (Instr.checkKey em 10000 99 (bk a f)).run Tryz.prog w = .ok () w := by rfl
theorem bk_equal (a b f : Int) (w : World) : (Op.equal 99 (bk a f) (bk b f)).run Tryz.prog w = .ok (decide (a = b)) w := by
  have u3 := Tryz.underlying3
  have hS : Tryz.prog.underlying 99 = some (.struct (Tryz.prog.fieldsOf 99)) := by kernel_rfl
  unfold Op.equal Op.maxDepth bk
  rw [show (10000 : Nat) = 9999 + 1 from rfl, run_equalIn_struct w 9999 99 _ _ hS (by kernel_rfl)]
  simp only [Program.fieldsOf, Tryz.underlying99]
  go_simp
  by_cases h : a = b <;> simp [h]
theorem bk_stays (a f : Int) (w : World) : (Instr.keyThatStays (bk a f) (bk a f)).run Tryz.prog w = .ok (bk a f) w := by
  have h : Instr.sameBits 10000 (bk a f) (bk a f) = true := by
    show ((2 : Nat) == 2 && _) = true
    simp [Instr.sameBits]
  simp [Instr.keyThatStays, h]
theorem bk_inj {a b f : Int} (h : bk a f = bk b f) : a = b := by
  unfold bk at h
  simp at h
  exact h
/-- A key is sought among badges of one F. -/
theorem bk_find (x f : Int) : ∀ (es : List MapEntry), (∀ e ∈ es, ∃ a, e.key = bk a f) →
    ((∀ w, (Instr.findKey 99 (bk x f) es).run Tryz.prog w = .ok none w) ∧ ∀ e ∈ es, e.key ≠ bk x f) ∨ ∃ j e, (∀ w, (Instr.findKey 99 (bk x f) es).run Tryz.prog w = .ok (some (j, e.val)) w) ∧ es[j]? = some e ∧ e.key = bk x f := by
  have ask : ∀ (es : List MapEntry) (i : Nat), (∀ e ∈ es, ∃ a, e.key = bk a f) → ((∀ w, (Instr.findAsking 99 (bk x f) es i).run Tryz.prog w = .ok none w) ∧ ∀ e ∈ es, e.key ≠ bk x f) ∨ ∃ j e, (∀ w, (Instr.findAsking 99 (bk x f) es i).run Tryz.prog w = .ok (some (i + j, e.val)) w) ∧ es[j]? = some e ∧ e.key = bk x f := by
    intro es
    induction es with
    | nil => intro i _; exact .inl ⟨fun w => rfl, fun e he => by cases he⟩
    | cons e r ih =>
      intro i hk
      obtain ⟨a, ha⟩ := hk e (by simp)
      by_cases hx : x = a
      · refine .inr ⟨0, e, fun w => ?_, rfl, by rw [ha, hx]⟩
        simp [Instr.findAsking, ha, bk_equal, hx]
      · have hne : e.key ≠ bk x f := fun h => hx (bk_inj (ha.symm.trans h)).symm
        rcases ih (i + 1) (fun e' he' => hk e' (by simp [he'])) with ⟨h1, h2⟩ | ⟨j, e', h1, h2, h3⟩
        · refine .inl ⟨fun w => ?_, fun e' he' => ?_⟩
          · simp [Instr.findAsking, ha, bk_equal, hx, h1]
          · rcases List.mem_cons.1 he' with rfl | he'
            · exact hne
            · exact h2 e' he'
        · refine .inr ⟨j + 1, e', fun w => ?_, by simpa using h2, h3⟩
          simp [Instr.findAsking, ha, bk_equal, hx, h1]
          omega
  intro es hk
  have hu : Tryz.prog.underlying 99 = some (.struct (Tryz.prog.fieldsOf 99)) := by kernel_rfl
  cases es with
  | nil => exact .inl ⟨fun w => by simp [Instr.findKey, run_underlying hu, Instr.findNow], fun e he => by cases he⟩
  | cons e r =>
    have hn : Instr.findNow (.struct (Tryz.prog.fieldsOf 99)) (bk x f) (e :: r) 0 = none := rfl
    rcases ask (e :: r) 0 hk with ⟨h1, h2⟩ | ⟨j, e', h1, h2, h3⟩
    · exact .inl ⟨fun w => by simp [Instr.findKey, run_underlying hu, hn, h1], h2⟩
    · refine .inr ⟨j, e', fun w => ?_, h2, h3⟩
      simp [Instr.findKey, run_underlying hu, hn, h1]
end Go.Proofs.YtodpgbmpfflkoaaGreatDoor
/- A map that counts badges: looked up, and one more counted. No condition but what each says. -/
namespace Go.Proofs.YtodpgbmpfflkoaaGreatDoor
set_option maxRecDepth 2000
open Go.ChangeShapes Go.WideShapes Go.ChangeAt Go.RowKit Go.ChangeMaps Go.MapKept Go.WideElems

/-- The entries count the numbers of a list. -/
structure LE (f : Int) (zs : List Int) (es : Array MapEntry) (clock : Nat) : Prop where
  ks : ∀ e ∈ es.toList, ∃ a c, e.key = bk a f ∧ e.val = .int .i64 c ∧ 1 ≤ c ∧ c ≤ (zs.length : Int) ∧ a ∈ zs
  all : ∀ a ∈ zs, ∃ e ∈ es.toList, e.key = bk a f
  st : ∀ e ∈ es.toList, e.born < clock
  nd : (es.toList.map (·.born)).Nodup
theorem LE.keys {f : Int} {zs : List Int} {es : Array MapEntry} {clock : Nat} (h : LE f zs es clock) : ∀ e ∈ es.toList, ∃ a, e.key = bk a f := fun e he => by
  obtain ⟨a, _, h1, _⟩ := h.ks e he
  exact ⟨a, h1⟩
def LM (w : World) (b : Nat) (f : Int) (zs : List Int) : Prop := ∃ es clock, w.heap[b]? = some (.map es clock) ∧ LE f zs es clock
theorem le_nil (f : Int) : LE f [] #[] 0 := ⟨(fun e he => by simp at he), (fun a ha => absurd ha (by simp)), (fun e he => by simp at he), (by simp)⟩
theorem bk_map : Tryz.prog.underlying 132 = some (.map 99 3) := by kernel_rfl
theorem look_at {w : World} {b : Nat} {es : Array MapEntry} {clock : Nat} (hb : w.heap[b]? = some (.map es clock)) {x f : Int} {j : Nat} {e : MapEntry} (h1 : ∀ w, (Instr.findKey 99 (bk x f) es.toList).run Tryz.prog w = .ok (some (j, e.val)) w) :
    (Instr.lookup 132 (.map (some b)) (bk x f) false).run Tryz.prog w = .ok e.val w := by
  simp [Instr.lookup, run_underlying bk_map, MapKept.run_getObj_map hb, bk_check, h1, Result.andThen]
theorem look_no {w : World} {b : Nat} {es : Array MapEntry} {clock : Nat} (hb : w.heap[b]? = some (.map es clock)) {x f : Int} (h1 : ∀ w, (Instr.findKey 99 (bk x f) es.toList).run Tryz.prog w = .ok none w) :
    (Instr.lookup 132 (.map (some b)) (bk x f) false).run Tryz.prog w = .ok (.int .i64 0) w := by
  simp [Instr.lookup, run_underlying bk_map, MapKept.run_getObj_map hb, bk_check, h1, Result.andThen]
/-- What a look-up answers. -/
theorem lm_look {w : World} {b : Nat} {f : Int} {zs : List Int} (h : LM w b f zs) (x : Int) : ∃ c : Int, (Instr.lookup 132 (.map (some b)) (bk x f) false).run Tryz.prog w = .ok (.int .i64 c) w ∧ (0 < c ↔ x ∈ zs) := by
  obtain ⟨es, clock, hb, hl⟩ := h
  rcases bk_find x f es.toList hl.keys with ⟨h1, h2⟩ | ⟨j, e, h1, h2, h3⟩
  · refine ⟨0, look_no hb h1, ⟨fun h => absurd h (by omega), fun hx => ?_⟩⟩
    obtain ⟨e, he, hk⟩ := hl.all x hx
    exact absurd hk (h2 e he)
  · obtain ⟨a, c, k1, k2, k3, _, k5⟩ := hl.ks e (List.mem_of_getElem? h2)
    refine ⟨c, by rw [look_at hb h1, k2], ⟨fun _ => ?_, fun _ => by omega⟩⟩
    rw [← bk_inj (k1.symm.trans h3)]
    exact k5
/-- One more is counted. -/
theorem lm_more {w : World} {b : Nat} {f : Int} {zs : List Int} (h : LM w b f zs) (x : Int) : ∃ (c : Int) (st : Nat) (es1 : Array MapEntry) (clock1 : Nat) (es2 : Array MapEntry) (clock2 : Nat),
    (∀ W, W.heap[b]? = w.heap[b]? → (Instr.lookup 132 (.map (some b)) (bk x f) false).run Tryz.prog W = .ok (.int .i64 c) W ∧ (Instr.mapEntry 132 (.map (some b)) (bk x f)).run Tryz.prog W = .ok (.tuple #[.int .i64 c, .int .i64 (st : Int)]) (setBlock W b (.map es1 clock1))) ∧
    (∀ W, W.heap[b]? = some (.map es1 clock1) → (Instr.lookup 132 (.map (some b)) (bk x f) false).run Tryz.prog W = .ok (.int .i64 c) W ∧ (Instr.entryStore 132 (.map (some b)) (.int .i64 (st : Int)) (.int .i64 (c + 1))).run Tryz.prog W = .ok () (setBlock W b (.map es2 clock2))) ∧
    0 ≤ c ∧ c ≤ (zs.length : Int) ∧ LE f (zs ++ [x]) es2 clock2 := by
  obtain ⟨es, clock, hb, hl⟩ := h
  rcases bk_find x f es.toList hl.keys with ⟨h1, h2⟩ | ⟨j, e0, h1, h2, h3⟩
  · have hpk : ∀ e ∈ (es.push ⟨bk x f, .int .i64 0, clock⟩).toList, ∃ a, e.key = bk a f := fun e he => by
      simp only [Array.toList_push, List.mem_append, List.mem_singleton] at he
      rcases he with he | rfl
      · exact hl.keys e he
      · exact ⟨x, rfl⟩
    have hnd : ((es.push ⟨bk x f, .int .i64 0, clock⟩).toList.map (·.born)).Nodup := by
      simp only [Array.toList_push, List.map_append, List.map_cons, List.map_nil]
      refine List.nodup_append.2 ⟨hl.nd, by simp, fun a ha c hc e1 => ?_⟩
      simp only [List.mem_singleton] at hc
      obtain ⟨y, hy, rfl⟩ := List.mem_map.1 ha
      have := hl.st y hy
      omega
    refine ⟨0, clock, es.push ⟨bk x f, .int .i64 0, clock⟩, clock + 1, es.push ⟨bk x f, .int .i64 1, clock⟩, clock + 1, fun W hW => ?_, fun W hW => ?_, by omega, by omega, ?_⟩
    · rw [hb] at hW
      refine ⟨look_no hW h1, ?_⟩
      simp [Instr.mapEntry, run_underlying bk_map, MapKept.run_getObj_map hW, bk_check, h1, MapKept.run_setObj_map _ hW, Result.andThen, setBlock, goInt]
    · constructor
      · rcases bk_find x f _ hpk with ⟨_, g2⟩ | ⟨j', e', g1, g2, g3⟩
        · exact absurd rfl (g2 ⟨bk x f, .int .i64 0, clock⟩ (by simp))
        · have he := List.mem_of_getElem? g2
          simp only [Array.toList_push, List.mem_append, List.mem_singleton] at he
          rcases he with he | rfl
          · exact absurd g3 (h2 e' he)
          · exact look_at hW g1
      · have hidx : (es.push ⟨bk x f, .int .i64 0, clock⟩).findIdx? (fun e => ((e.born : Nat) : Int) == ((clock : Nat) : Int)) = some es.size := by
          rw [findIdx_arr]
          exact findIdx_born (l := (es.push ⟨bk x f, .int .i64 0, clock⟩).toList) (j := es.size) (e0 := ⟨bk x f, .int .i64 0, clock⟩) hnd (by simp)
        have hmod : (es.push ⟨bk x f, .int .i64 0, clock⟩).modify es.size (fun e => { e with val := .int .i64 1 }) = es.push ⟨bk x f, .int .i64 1, clock⟩ := by
          apply Array.ext'
          rw [Array.toList_modify, Array.toList_push, Array.toList_push, ← Array.length_toList, modify_last]
        simp [Instr.entryStore, MapKept.run_getObj_map hW, asInt, asIntOf, hidx, hmod, MapKept.run_setObj_map _ hW, Result.andThen, setBlock]
    · refine ⟨fun e he => ?_, fun a ha => ?_, fun e he => ?_, ?_⟩
      · simp only [Array.toList_push, List.mem_append, List.mem_singleton] at he
        rcases he with he | rfl
        · obtain ⟨a, c, k1, k2, k3, k4, k5⟩ := hl.ks e he
          exact ⟨a, c, k1, k2, k3, by simp; omega, by simp [k5]⟩
        · exact ⟨x, 1, rfl, rfl, by omega, by simp; omega, by simp⟩
      · simp only [List.mem_append, List.mem_singleton] at ha
        rcases ha with ha | rfl
        · obtain ⟨e, he, hk⟩ := hl.all a ha
          exact ⟨e, by simp [he], hk⟩
        · exact ⟨⟨bk a f, .int .i64 1, clock⟩, by simp, rfl⟩
      · simp only [Array.toList_push, List.mem_append, List.mem_singleton] at he
        rcases he with he | rfl
        · have := hl.st e he; omega
        · show clock < clock + 1; omega
      · simpa using hnd
  · have hm0 := List.mem_of_getElem? h2
    obtain ⟨a, c, k1, k2, k3, k4, k5⟩ := hl.ks e0 hm0
    obtain rfl : a = x := bk_inj (k1.symm.trans h3)
    have hj : es[j]? = some e0 := by simpa using h2
    have hsame : es.modify j (fun e => { e with key := bk a f }) = es := by
      apply Array.ext'
      rw [Array.toList_modify, modify_eq_set _ _ _ _ h2]
      have : ({ e0 with key := bk a f } : MapEntry) = e0 := by rw [← h3]
      rw [this]
      exact set_self _ _ _ h2
    refine ⟨c, e0.born, es, clock, es.modify j (fun e => { e with val := .int .i64 (c + 1) }), clock, fun W hW => ?_, fun W hW => ?_, by omega, by omega, ?_⟩
    · rw [hb] at hW
      refine ⟨by rw [look_at hW h1, k2], ?_⟩
      simp [Instr.mapEntry, run_underlying bk_map, MapKept.run_getObj_map hW, bk_check, h1, hj, h3, bk_stays, hsame, k2, MapKept.run_setObj_map _ hW, Result.andThen, setBlock, goInt]
    · refine ⟨by rw [look_at hW h1, k2], ?_⟩
      have hidx : es.findIdx? (fun e => ((e.born : Nat) : Int) == ((e0.born : Nat) : Int)) = some j := by
        rw [findIdx_arr]
        exact findIdx_born hl.nd h2
      simp [Instr.entryStore, MapKept.run_getObj_map hW, asInt, asIntOf, hidx, MapKept.run_setObj_map _ hW, Result.andThen, setBlock]
    · have hto : (es.modify j (fun e => { e with val := .int .i64 (c + 1) })).toList = es.toList.set j { e0 with val := .int .i64 (c + 1) } := by
        rw [Array.toList_modify, modify_eq_set _ _ _ _ h2]
      have hmem : ∀ e ∈ (es.modify j (fun e => { e with val := .int .i64 (c + 1) })).toList, e ∈ es.toList ∨ e = { e0 with val := .int .i64 (c + 1) } := fun e he => by
        rw [hto] at he
        exact List.mem_or_eq_of_mem_set he
      refine ⟨fun e he => ?_, fun b' hb' => ?_, fun e he => ?_, ?_⟩
      · rcases hmem e he with he | rfl
        · obtain ⟨a', c', g1, g2, g3, g4, g5⟩ := hl.ks e he
          exact ⟨a', c', g1, g2, g3, by simp; omega, by simp [g5]⟩
        · exact ⟨a, c + 1, k1, rfl, by omega, by simp; omega, by simp⟩
      · have hb2 : b' ∈ zs := by
          simp only [List.mem_append, List.mem_singleton] at hb'
          rcases hb' with h | rfl
          · exact h
          · exact k5
        obtain ⟨e, he, hk⟩ := hl.all b' hb2
        obtain ⟨i, hi, rfl⟩ := List.getElem_of_mem he
        by_cases ei : i = j
        · subst ei
          have e1 : es.toList[i] = e0 := by rw [List.getElem?_eq_getElem hi] at h2; exact Option.some.inj h2
          refine ⟨{ e0 with val := .int .i64 (c + 1) }, ?_, by rw [← e1]; exact hk⟩
          rw [hto]
          exact List.mem_iff_getElem.2 ⟨i, by simpa using hi, by simp⟩
        · refine ⟨es.toList[i], ?_, hk⟩
          rw [hto]
          exact List.mem_iff_getElem.2 ⟨i, by simpa using hi, by rw [List.getElem_set_ne (Ne.symm ei)]⟩
      · rcases hmem e he with he | rfl
        · exact hl.st e he
        · exact hl.st e0 hm0
      · rw [hto, List.map_set]
        have : (es.toList.map (·.born)).set j e0.born = es.toList.map (·.born) := set_self _ _ _ (by rw [List.getElem?_map, h2]; rfl)
        show ((es.toList.map (·.born)).set j e0.born).Nodup
        rw [this]
        exact hl.nd
end Go.Proofs.YtodpgbmpfflkoaaGreatDoor
/- The liars of a net, counted in a map, in the program. Conditions: lists of at most 2^20. -/
namespace Go.Proofs.YtodpgbmpfflkoaaGreatDoor
set_option maxRecDepth 2000
open Go.ChangeShapes Go.WideShapes Go.ChangeAt Go.RowKit Go.ChangeMaps

theorem below_setBlock {B b : Nat} {w0 w : World} (h : Below B w0 w) (hb : B ≤ b) (o : Obj) : Below B w0 (setBlock w b o) :=
  ⟨h.os, h.tape, h.output, by show _ ≤ (w.heap.setIfInBounds b o).size; simp; exact h.size, fun j hj => by
    show (w.heap.setIfInBounds b o)[j]? = _
    rw [Array.getElem?_setIfInBounds_ne (by omega)]
    exact h.block j hj⟩
set_option maxHeartbeats 2000000 in
theorem lies_any (f : Int) (v1 v3 : Value) (l : Option Addr) (d : Nat) (zs : List Int) (w : World) (h : IntsAt w l zs.length zs) (hn : zs.length ≤ 1048576) :
    Calls Tryz.prog 74 #[ntV f v1 (.slice l zs.length d) v3] w fun e w' => ∃ b, e = .returned (.map (some b)) ∧ LM w' b f zs ∧ w.heap.size ≤ b ∧ Below w.heap.size w w' := by
  obtain ⟨A, HA⟩ : ∃ x, Hid (x = w.heap.size) := ⟨_, rfl⟩
  obtain ⟨w0, HW0⟩ : ∃ x, Hid (x = w.alloc (.cells #[.int .i64 f, v1, .slice l zs.length d, v3] 35)) := ⟨_, rfl⟩
  have RA : Hid (Row w0 A 35 #[.int .i64 f, v1, .slice l zs.length d, v3]) := by show Row _ _ _ _; rw [HW0.out, HA.out]; exact Row.new w _ _
  have hb0 : Below w.heap.size w w0 := by rw [HW0.out]; exact (Below.refl _ _).alloc (Nat.le_refl _) _
  obtain ⟨b, HB⟩ : ∃ x, Hid (x = w.heap.size + 1) := ⟨_, rfl⟩
  have eb : b = w0.heap.size := by rw [HB.out, HW0.out]; simp
  obtain ⟨w1, HW1⟩ : ∃ x, Hid (x = w0.alloc (.map #[] 0)) := ⟨_, rfl⟩
  have hb1 : Below w0.heap.size w0 w1 := by rw [HW1.out]; exact (Below.refl _ _).alloc (Nat.le_refl _) _
  have HL1 : Hid (LM w1 b f [] ∧ Row w1 A 35 #[.int .i64 f, v1, .slice l zs.length d, v3] ∧ Below w.heap.size w w1) := ⟨⟨#[], 0, by rw [HW1.out, eb]; exact heap_alloc_new w0 _, le_nil f⟩, RA.out.below hb1 RA.out.lt, below2 hb0 hb1⟩
  have HLs : Hid (A < b ∧ w.heap.size ≤ b ∧ w.heap.size ≤ A) := ⟨by rw [eb]; exact RA.out.lt, by rw [eb]; exact hb0.size, by rw [HA.out]; exact Nat.le_refl _⟩
  obtain ⟨n, HN⟩ : ∃ x, Hid (zs.length = x) := ⟨_, rfl⟩
  have KI : Hid (∀ W, Below w.heap.size w W → IntsAt W l n zs) := fun W hW => by have := h.below hW; rw [HN.out] at this; exact this
  rw [HN.out] at hn HL1 RA HW0 ⊢
  have x2 := HL1.out.2.1.cell 2
  simp at x2
  have hmm : ∀ W, (Instr.makeMap 132 none).run Tryz.prog W = .ok (.map (some W.heap.size)) (W.alloc (.map #[] 0)) := fun W => rfl
  clear h hb0 hb1 eb
  rw [HW0.out] at HW1
  go_enter Tryz.func74, Tryz.ntmps74
  go_wp2
  rw [← HW1.out, ← HB.out, ← HA.out]
  go_loopw [10, 5] (fun vi _ wr => ∃ k : Nat, k ≤ n ∧ vi = .int .i64 (k : Int) ∧ Hid (LM wr b f (zs.take k) ∧ Row wr A 35 #[.int .i64 f, v1, .slice l n d, v3] ∧ Below w.heap.size w wr)) (fun vi _ _ => n - (intOf vi).toNat)
  case atStart => exact ⟨0, Nat.zero_le _, rfl, HL1.out⟩
  case round =>
    obtain ⟨k, hk, rfl, HR⟩ := hrel
    clear HL1 hmm x2
    by_cases hlt : k < n
    · have hki : (k : Int) < (n : Int) := by omega
      obtain ⟨bl, off, rfl, hc⟩ := (KI.out _ HR.out.2.2).some (by omega)
      have x1 := hc k hlt
      obtain ⟨x, HX⟩ : ∃ y, Hid (zs.getD k 0 = y) := ⟨_, rfl⟩
      rw [HX.out] at x1
      clear hc
      have x0 := HR.out.2.1.cell 0
      simp at x0
      obtain ⟨c, st, es1, clock1, es2, clock2, q1, q2, c0, cl, hle⟩ := lm_more HR.out.1 x
      have HTK : Hid (zs.take (k + 1) = zs.take k ++ [x]) := by show _ = _; rw [take_snoc zs k (by rw [HN.out]; exact hlt), HX.out]
      have hlen : (zs.take k).length = k := by rw [List.length_take, HN.out]; omega
      rw [hlen] at cl
      have hb' : wr.heap[b]? ≠ none := by
        obtain ⟨es, clock, e, _⟩ := HR.out.1
        rw [e]; simp
      have e1 := (q1 wr.drew rfl).1
      have e2 := (q1 wr.drew rfl).2
      have hW1 : (setBlock wr.drew b (.map es1 clock1)).heap[b]? = some (.map es1 clock1) := by
        show (wr.heap.setIfInBounds b _)[b]? = _
        obtain ⟨es, clock, e, _⟩ := HR.out.1
        simp [(Array.getElem?_eq_some_iff.1 e).1]
      have e3 := (q2 _ hW1).1
      have e4 := (q2 _ hW1).2
      have hW2 : (setBlock (setBlock wr.drew b (.map es1 clock1)) b (.map es2 clock2)).heap[b]? = some (.map es2 clock2) := by
        show ((setBlock wr.drew b (.map es1 clock1)).heap.setIfInBounds b _)[b]? = _
        simp [(Array.getElem?_eq_some_iff.1 hW1).1]
      have hAb := HLs.out
      have HR2 : Hid (LM (setBlock (setBlock wr.drew b (.map es1 clock1)) b (.map es2 clock2)) b f (zs.take (k + 1)) ∧ Row (setBlock (setBlock wr.drew b (.map es1 clock1)) b (.map es2 clock2)) A 35 #[.int .i64 f, v1, .slice (some ⟨bl, off, none⟩) n d, v3] ∧ Below w.heap.size w (setBlock (setBlock wr.drew b (.map es1 clock1)) b (.map es2 clock2))) := by
        refine ⟨⟨es2, clock2, hW2, by rw [HTK.out]; exact hle⟩, ?_, below_setBlock (below_setBlock HR.out.2.2.drew hAb.2.1 _) hAb.2.1 _⟩
        show ((wr.heap.setIfInBounds b _).setIfInBounds b _)[A]? = _
        rw [Array.getElem?_setIfInBounds_ne (by omega), Array.getElem?_setIfInBounds_ne (by omega)]
        exact HR.out.2.1
      have hcw : IntKind.i64.wrap (c + 1) = c + 1 := by rw [IntKind.wrap_i64]; omega
      simp only [bk] at e1 e2 e3 e4
      clear q1 q2 hle hW1 hW2 hb' hlen
      go_wp2_with fail
      go_region
      all_goals
        go_wp2
        go_roundw
        case rel => exact ⟨k + 1, by omega, by go_num, HR2⟩
        case measure => simp [intOf]; omega
    · obtain rfl : k = n := by omega
      have HF : Hid (LM wr b f zs) := by have := HR.out.1; rw [← HN.out, List.take_length] at this; exact this
      have HBf : Hid (Below w.heap.size w wr) := HR.out.2.2
      go_wp2
      go_ret
      exact ⟨b, rfl, HF.out, HLs.out.2.1, HBf.out⟩
end Go.Proofs.YtodpgbmpfflkoaaGreatDoor
/- The seats of a net, as a list of ours; whether one's badge is counted. Conditions: lists of at most 2^20. -/
namespace Go.Proofs.YtodpgbmpfflkoaaGreatDoor
set_option maxRecDepth 2000
open Go.ChangeShapes Go.WideShapes Go.ChangeAt Go.RowKit

/-- A seat: a node and its badge. -/
def stD (d : Nd) (i : Nat) (f : Int) : Nat → Dt
  | 0 => .val (.int .i64 d.i)
  | 1 => .val (.int .i64 d.f)
  | 2 => slsD d.n d.S
  | 3 => .val (.int .i64 (i : Int))
  | _ => .val (.int .i64 f)
def zcT : List Value := [.int .i64 0, .int .i64 0, .slice none 0 0, .int .i64 0, .int .i64 0]
theorem Tryz.infoStZ : (Tryz.prog.info? 101).map (fun i => (i.zero, i.size, i.bytes)) = some (some (.agg zcT.toArray), 5, 56) := by kernel_rfl
theorem Tryz.infoSt : (Tryz.prog.info? 101).map (·.size) = some 5 := by kernel_rfl
set_option maxHeartbeats 4000000 in
theorem seatO_any (f : Int) (a : Option Addr) (n c : Nat) (v2 v3 : Value) (N : Nat → Nd) (wb w : World) (hwb : Below wb.heap.size wb w) (h : Rd wb (ndsD n N) (.slice a n c)) (hn : n ≤ 1048576) :
    Calls Tryz.prog 76 #[ntV f (.slice a n c) v2 v3] w fun e w' => ∃ g y, e = .returned (.slice (some ⟨g, 0, none⟩) n n) ∧ w'.ownsRow w.heap.size 101 5 (.slice (some ⟨g, 0, none⟩) n n) n (cL 5 y n) ∧ (∀ i, i < n → ∀ q, q < 5 → Rd wb (stD (N i) i f q) (y i q)) ∧ Below w.heap.size w w' := by
  obtain ⟨i0, hi, hz0, hz1, hz2⟩ := info_parts Tryz.infoStZ
  obtain ⟨A, HA⟩ : ∃ x, Hid (x = w.heap.size) := ⟨_, rfl⟩
  obtain ⟨w0, HW0⟩ : ∃ x, Hid (x = w.alloc (.cells #[.int .i64 f, .slice a n c, v2, v3] 35)) := ⟨_, rfl⟩
  have RA : Hid (Row w0 A 35 #[.int .i64 f, .slice a n c, v2, v3]) := by show Row _ _ _ _; rw [HW0.out, HA.out]; exact Row.new w _ _
  have hb0 : Below w.heap.size w w0 := by rw [HW0.out]; exact (Below.refl _ _).alloc (Nat.le_refl _) _
  have KB0 : Hid (Below w.heap.size w w0) := hb0
  have KH : Hid (Rd wb (ndsD n N) (.slice a n c) ∧ Below wb.heap.size wb w) := ⟨h, hwb⟩
  obtain ⟨g, HG⟩ : ∃ x, Hid (x = w0.heap.size) := ⟨_, rfl⟩
  have x1 := RA.out.cell 1
  simp at x1
  clear h hb0 hwb
  go_enter Tryz.func76, Tryz.ntmps76
  go_wp2_with (at_make; rw [← HW0.out, ← HA.out]; refine wpList_make_full _ rfl _ _ 96 rfl w0.heap.size 101 i0 (.agg zcT.toArray) 5 Tryz.underlying96 hi hz0 hz1 .i64 .i64 _ _ n rfl rfl rfl rfl (by rw [hz2]; omega) (by unfold maxLen; omega) (Nat.le_refl _) ?_; intro w1 hown hgrow; have hb1 : Below w0.heap.size w0 w1 := (Below.refl _ _).grown hgrow (Nat.le_refl _) (by simp); have y1 := (hb1.cell (p := ⟨A, 1, none⟩) RA.out.lt).trans x1)
  have ho1 : w1.ownsRow w0.heap.size 101 5 (.slice (some ⟨g, 0, none⟩) n n) n (cL 5 (fun _ q => zcT.getD q undef) n) := by
    have e : (madeCells (Value.agg zcT.toArray).cells (n * 5)).toList = cL 5 (fun _ q => zcT.getD q undef) n := made_cL (zs := zcT) (by simp [zcT])
    rw [e] at hown
    rw [HG.out]
    exact hown
  rw [← HG.out]
  have KO1 : Hid (w1.ownsRow w0.heap.size 101 5 (.slice (some ⟨g, 0, none⟩) n n) n (cL 5 (fun _ q => zcT.getD q undef) n)) := ho1
  clear hown hgrow ho1
  go_loopw [13] (fun vi wr => ∃ k : Nat, k ≤ n ∧ vi = .int .i64 (k : Int) ∧ Hid (∃ y, wr.ownsRow w0.heap.size 101 5 (.slice (some ⟨g, 0, none⟩) n n) n (cL 5 y n) ∧ ∀ i, i < k → ∀ q, q < 5 → Rd wb (stD (N i) i f q) (y i q)) ∧ Below w0.heap.size w0 wr) (fun vi _ => n - (intOf vi).toNat)
  case atStart => exact ⟨0, Nat.zero_le _, rfl, ⟨_, KO1.out, fun i hi => absurd hi (Nat.not_lt_zero _)⟩, hb1⟩
  case round =>
    obtain ⟨k, hk, rfl, HY, hbel⟩ := hrel
    clear KO1 hb1 y1 x1
    by_cases hlt : k < n
    · have hki : (k : Int) < (n : Int) := by omega
      obtain ⟨b1, f1, an, cn, rfl, _, R0, hr0⟩ := node_at KH.out.1 hlt
      have R1 : Hid (wr.rangeAt b1 (f1 + k * 3) [.int .i64 (N k).i, .int .i64 (N k).f, .slice an (N k).n cn]) := fun j v hv => ((below2 KH.out.2 (below2 KB0.out hbel)).cell (block_lt_of_cell (R0 j v hv))).trans (R0 j v hv)
      obtain ⟨w2, HW2⟩ : ∃ x, Hid (x = wr.alloc (.cells #[.int .i64 (N k).i, .int .i64 (N k).f, .slice an (N k).n cn] 81)) := ⟨_, rfl⟩
      have b2 : Below wr.heap.size wr w2 := by rw [HW2.out]; exact (Below.refl _ _).alloc (Nat.le_refl _) _
      obtain ⟨y, hoy, hry⟩ := HY.out
      have ho2 := ownsRow_below hoy b2
      have TH : Hid (w2.there g (k * 5) 5) := by
        intro j hj
        refine ⟨?_, World.ownsRow.frozenAt ho2 _⟩
        rw [World.ownsRow.cellAt ho2 _ (mid_lt hlt hj), cL_get _ _ _ _ _ hlt hj]
        rfl
      have x0 := (RA.out.below hbel RA.out.lt).cell 0
      have lA := (RA.out.below hbel RA.out.lt).lt
      simp at x0
      obtain ⟨w3, HW3⟩ : ∃ x, Hid (x = w2.setCells g (k * 5) [.int .i64 (N k).i, .int .i64 (N k).f, .slice an (N k).n cn, .int .i64 (k : Int), .int .i64 f]) := ⟨_, rfl⟩
      have HY3 : Hid (∃ y, w3.ownsRow w0.heap.size 101 5 (.slice (some ⟨g, 0, none⟩) n n) n (cL 5 y n) ∧ ∀ i, i < k + 1 → ∀ q, q < 5 → Rd wb (stD (N i) i f q) (y i q)) := by
        rw [HW3.out]
        have := own_setCells hlt [.int .i64 (N k).i, .int .i64 (N k).f, .slice an (N k).n cn, .int .i64 (k : Int), .int .i64 f] 0 w2 y rfl ho2
        rw [Nat.add_zero] at this
        refine ⟨_, this, fun i hi q hq => ?_⟩
        by_cases e : i = k
        · subst e
          match q, hq with
          | 0, _ | 1, _ | 3, _ | 4, _ => simp [stD, Rd]
          | 2, _ => simpa [stD] using hr0
        · simp only [e, false_and, if_false]
          exact hry i (by omega) q hq
      have hgs : w0.heap.size ≤ g := by rw [HG.out]; exact Nat.le_refl _
      have KB3 : Hid (Below w0.heap.size w0 w3) := by show Below _ _ _; rw [HW3.out]; exact below_setCells (below2 hbel b2) hgs _ _
      clear HY hoy ho2 b2 R0 hr0 hbel hry hgs
      go_wp2_with (first | (refine wpList_load_mid (by rfl) 81 _ (by rfl) b1 (f1 + k * 3) (by rfl) [.int .i64 (N k).i, .int .i64 (N k).f, .slice an (N k).n cn] _ ?_ Tryz.underlying81 (by rfl) Tryz.infoNd ?_; exact R1.out) | (rw [← HW2.out]; refine wpList_store_mid (by rfl) 101 _ _ (by rfl) g (k * 5) #[.int .i64 (N k).i, .int .i64 (N k).f, .slice an (N k).n cn, .int .i64 (k : Int), .int .i64 f] (by rfl) (by rfl) ?_ Tryz.infoSt (by simp [Value.oneCell']) ?_; exact TH.out; rw [← HW3.out]))
      go_roundw
      case rel => exact ⟨k + 1, by omega, by go_num, HY3, KB3.out⟩
      case measure => simp [intOf]; omega
    · obtain rfl : k = n := by omega
      have HF : Hid (∃ y, wr.ownsRow w.heap.size 101 5 (.slice (some ⟨g, 0, none⟩) k k) k (cL 5 y k) ∧ ∀ i, i < k → ∀ q, q < 5 → Rd wb (stD (N i) i f q) (y i q)) := by
        obtain ⟨y, hoy, hry⟩ := HY.out
        exact ⟨y, own_base hoy KB0.out.size, hry⟩
      obtain ⟨y, hf1, hf2⟩ := HF.out
      have HF2 : Hid _ := And.intro hf1 hf2
      clear hf1 hf2 HF
      go_wp2
      go_ret
      exact ⟨g, y, rfl, HF2.out.1, HF2.out.2, below2 KB0.out hbel⟩
/-- The five cells of a seat. -/
theorem st_cells {w : World} {d : Nd} {i : Nat} {f : Int} {y : Nat → Value} (h : ∀ q, q < 5 → Rd w (stD d i f q) (y q)) : ∃ an cn, y 0 = .int .i64 d.i ∧ y 1 = .int .i64 d.f ∧ y 2 = .slice an d.n cn ∧ y 3 = .int .i64 (i : Int) ∧ y 4 = .int .i64 f ∧ Rd w (slsD d.n d.S) (.slice an d.n cn) := by
  have g0 := h 0 (by omega)
  have g1 := h 1 (by omega)
  have g2 : Rd w (slsD d.n d.S) (y 2) := h 2 (by omega)
  have g3 := h 3 (by omega)
  have g4 := h 4 (by omega)
  simp only [Rd, stD] at g0 g1 g3 g4
  obtain ⟨an, cn, e2⟩ := g2.shape
  rw [e2] at g2
  exact ⟨an, cn, g0, g1, e2, g3, g4, g2⟩
theorem LM.below {w w' : World} {b : Nat} {f : Int} {zs : List Int} (h : LM w b f zs) (hb : Below w.heap.size w w') : LM w' b f zs := by
  obtain ⟨es, clock, e, hl⟩ := h
  exact ⟨es, clock, (hb.block b (Array.getElem?_eq_some_iff.1 e).1).trans e, hl⟩
set_option maxHeartbeats 1000000 in
/-- The test whether a seat's badge is counted. -/
theorem honest1_any (L b : Nat) (f : Int) (zs : List Int) (x0 x1 x2 : Value) (i : Int) (w : World) (hL : w.cell? ⟨L, 0, none⟩ = some (.map (some b))) (hm : LM w b f zs) :
    Calls Tryz.prog 77 #[.agg #[x0, x1, x2, .int .i64 i, .int .i64 f], .pointer (some ⟨L, 0, none⟩)] w fun e w' => e = .returned (.bool (decide (i ∈ zs))) ∧ Below w.heap.size w w' := by
  have hb0 : Below w.heap.size w (w.alloc (.cells #[x0, x1, x2, .int .i64 i, .int .i64 f] 101)) := (Below.refl _ _).alloc (Nat.le_refl _) _
  have KB : Hid _ := hb0
  have lL := block_lt_of_cell hL
  obtain ⟨c, hc, hiff⟩ := lm_look (hm.below hb0) i
  simp only [bk] at hc
  by_cases hx : i ∈ zs
  · have hc0 : c > 0 := hiff.2 hx
    rw [decide_eq_true hx]
    clear hm hb0 hiff hx
    go_enter Tryz.func77, Tryz.ntmps77
    go_wp2
    go_ret
    exact ⟨rfl, KB.out⟩
  · have hc0 : ¬ (c > 0) := fun h => hx (hiff.1 h)
    rw [decide_eq_false hx]
    clear hm hb0 hiff hx
    go_enter Tryz.func77, Tryz.ntmps77
    go_wp2
    go_ret
    exact ⟨rfl, KB.out⟩
end Go.Proofs.YtodpgbmpfflkoaaGreatDoor
/- Seats of which some are left out (slices.IndexFunc, slices.DeleteFunc), in the program. Conditions: lists of at most 2^20. -/
namespace Go.Proofs.YtodpgbmpfflkoaaGreatDoor
set_option maxRecDepth 2000
open Go.ChangeShapes Go.WideShapes Go.ChangeAt Go.RowKit

/-- The first place from k on, of n, that the test takes. -/
def ixF (p : Nat → Bool) : Nat → Nat → Option Nat
  | 0, _ => none
  | n + 1, k => if p k = true then some k else ixF p n (k + 1)
def ixX (p : Nat → Bool) (n : Nat) : Int := match ixF p n 0 with
  | some x => (x : Int)
  | none => -1
theorem ixF_some {p : Nat → Bool} : ∀ {n k x : Nat}, ixF p n k = some x → k ≤ x ∧ x < k + n ∧ p x = true ∧ ∀ i, k ≤ i → i < x → p i = false
  | 0, _, _, h => by cases h
  | n + 1, k, x, h => by
    unfold ixF at h
    by_cases e : p k = true
    · rw [if_pos e] at h
      cases h
      exact ⟨Nat.le_refl _, by omega, e, fun i h1 h2 => by omega⟩
    · rw [if_neg e] at h
      obtain ⟨h1, h2, h3, h4⟩ := ixF_some h
      refine ⟨by omega, by omega, h3, fun i hi hx => ?_⟩
      by_cases ei : i = k
      · rw [ei]; simpa using e
      · exact h4 i (by omega) hx
theorem ixF_none {p : Nat → Bool} : ∀ {n k : Nat}, ixF p n k = none → ∀ i, k ≤ i → i < k + n → p i = false
  | 0, _, _, i, h1, h2 => by omega
  | n + 1, k, h, i, h1, h2 => by
    unfold ixF at h
    by_cases e : p k = true
    · rw [if_pos e] at h; cases h
    · rw [if_neg e] at h
      by_cases ei : i = k
      · rw [ei]; simpa using e
      · exact ixF_none h i (by omega) (by omega)
/-- Those that are kept. -/
def kl (p : Nat → Bool) (n : Nat) : List Nat := (List.range n).filter fun i => !p i
theorem kl_succ (p : Nat → Bool) (n : Nat) : kl p (n + 1) = if p n = true then kl p n else kl p n ++ [n] := by
  unfold kl
  rw [List.range_succ, List.filter_append]
  by_cases h : p n = true <;> simp [h]
theorem kl_le (p : Nat → Bool) (n : Nat) : (kl p n).length ≤ n := by
  have := List.length_filter_le (fun i => !p i) (List.range n)
  simpa [kl] using this
theorem kl_all {p : Nat → Bool} {n : Nat} (h : ∀ i, i < n → p i = false) : kl p n = List.range n := by
  unfold kl
  rw [List.filter_eq_self]
  intro a ha
  simp [h a (List.mem_range.1 ha)]
theorem row_range {w : World} {B g n cap : Nat} {y : Nat → Nat → Value} (h : w.ownsRow B 101 5 (.slice (some ⟨g, 0, none⟩) n cap) n (cL 5 y n)) {k : Nat} (hk : k < n) : w.rangeAt g (k * 5) [y k 0, y k 1, y k 2, y k 3, y k 4] := by
  intro j v hv
  have hj : j < 5 := (List.getElem?_eq_some_iff.1 hv).1
  rw [World.ownsRow.cellAt h _ (mid_lt hk hj), cL_get _ _ _ _ _ hk hj, ← hv]
  match j, hj with
  | 0, _ | 1, _ | 2, _ | 3, _ | 4, _ => rfl
set_option maxHeartbeats 2000000 in
theorem ixS_any (B g n cap L : Nat) (y : Nat → Nat → Value) (p : Nat → Bool) (w : World) (hO : w.ownsRow B 101 5 (.slice (some ⟨g, 0, none⟩) n cap) n (cL 5 y n)) (hn : n ≤ 1048576)
    (hF : ∀ i, i < n → ∀ W, Below w.heap.size w W → Calls Tryz.prog 77 #[.agg #[y i 0, y i 1, y i 2, y i 3, y i 4], .pointer (some ⟨L, 0, none⟩)] W fun e w' => e = .returned (.bool (p i)) ∧ Below W.heap.size W w') :
    Calls Tryz.prog 113 #[.slice (some ⟨g, 0, none⟩) n cap, .func (.func 77) #[] #[.pointer (some ⟨L, 0, none⟩)]] w fun e w' => e = .returned (.int .i64 (ixX p n)) ∧ Below w.heap.size w w' := by
  have KO : Hid _ := hO
  have KF : Hid _ := hF
  clear hO hF
  go_enter Tryz.func113, Tryz.ntmps113
  go_wp2
  go_loopw [8] (fun vi wr => ∃ k : Nat, k ≤ n ∧ vi = .int .i64 (k : Int) ∧ Hid (ixF p (n - k) k = ixF p n 0) ∧ Below w.heap.size w wr) (fun vi _ => n - (intOf vi).toNat)
  case atStart => exact ⟨0, Nat.zero_le _, rfl, rfl, Below.refl _ _⟩
  case round =>
    obtain ⟨k, hk, rfl, HP, hbel⟩ := hrel
    by_cases hlt : k < n
    · have hki : (k : Int) < (n : Int) := by omega
      have R1 : Hid (wr.rangeAt g (k * 5) [y k 0, y k 1, y k 2, y k 3, y k 4]) := row_range (ownsRow_below KO.out hbel) hlt
      have KC : Hid _ := KF.out k hlt wr hbel
      have KB : Hid (Below w.heap.size w wr) := hbel
      have e2 : n - k = (n - (k + 1)) + 1 := by omega
      have HP' := HP.out
      rw [e2] at HP'
      rw [show ixF p (n - (k + 1) + 1) k = if p k = true then some k else ixF p (n - (k + 1)) (k + 1) from rfl] at HP'
      clear hbel HP e2
      cases hr : p k with
      | true =>
        rw [if_pos hr] at HP'
        have HI : Hid (ixX p n = (k : Int)) := by show _ = _; unfold ixX; rw [← HP']
        rw [hr] at KC
        clear HP' hr
        go_wp2_with (refine wpList_load_mid (by rfl) 101 _ (by rfl) g (k * 5) (by rfl) [y k 0, y k 1, y k 2, y k 3, y k 4] _ ?_ Tryz.underlying101 (by rfl) Tryz.infoSt ?_; exact R1.out)
        refine Calls.mono KC.out ?_
        rintro e w1 ⟨rfl, b1'⟩
        have KB1 : Hid (Below w.heap.size w w1) := below2 KB.out b1'
        clear b1'
        go_wp2
        go_ret
        exact ⟨ret_int HI.out.symm, KB1.out⟩
      | false =>
        rw [if_neg (by rw [hr]; decide)] at HP'
        have HP2 : Hid (ixF p (n - (k + 1)) (k + 1) = ixF p n 0) := HP'
        rw [hr] at KC
        clear HP' hr
        go_wp2_with (refine wpList_load_mid (by rfl) 101 _ (by rfl) g (k * 5) (by rfl) [y k 0, y k 1, y k 2, y k 3, y k 4] _ ?_ Tryz.underlying101 (by rfl) Tryz.infoSt ?_; exact R1.out)
        refine Calls.mono KC.out ?_
        rintro e w1 ⟨rfl, b1'⟩
        have KB1 : Hid (Below w.heap.size w w1) := below2 KB.out b1'
        clear b1' KC R1
        go_wp2
        go_roundw
        case rel => exact ⟨k + 1, by omega, by go_num, HP2, KB1.out⟩
        case measure => simp [intOf]; omega
    · obtain rfl : k = n := by omega
      have HI : Hid (ixX p k = -1) := by
        have := HP.out
        rw [Nat.sub_self] at this
        show _ = _
        unfold ixX
        rw [← this]
        rfl
      go_wp2
      go_ret
      exact ⟨ret_int HI.out.symm, hbel⟩
end Go.Proofs.YtodpgbmpfflkoaaGreatDoor
/- Seats of which some are left out (slices.DeleteFunc), in the program. Conditions: lists of at most 2^20. -/
namespace Go.Proofs.YtodpgbmpfflkoaaGreatDoor
set_option maxRecDepth 2000
open Go.ChangeShapes Go.WideShapes Go.ChangeAt Go.RowKit

/-- Cells of a row, from o on, written anew: those ahead stay. -/
theorem own_seg {B t sz g n cap : Nat} (hz : 0 < sz) : ∀ (vs : List Value) (o : Nat) (w : World) (z : Nat → Nat → Value), o + vs.length ≤ n * sz → w.ownsRow B t sz (.slice (some ⟨g, 0, none⟩) n cap) n (cL sz z n) →
    ∃ z', (w.setCells g o vs).ownsRow B t sz (.slice (some ⟨g, 0, none⟩) n cap) n (cL sz z' n) ∧ ∀ x q, x < n → q < sz → x * sz + q < o → z' x q = z x q
  | [], _, _, z, _, h => ⟨z, h, fun _ _ _ _ _ => rfl⟩
  | v :: r, o, w, z, hl, h => by
    have ho : o < n * sz := by simp at hl; omega
    have hd : o / sz < n := (Nat.div_lt_iff_lt_mul hz).2 ho
    have hm : o % sz < sz := Nat.mod_lt _ hz
    have h1 := (World.ownsRow.stored h o v).1
    have e : (cL sz z n).set o v = cL sz (fun i' q' => if i' = o / sz ∧ q' = o % sz then v else z i' q') n := by
      have := cL_set sz z n (o / sz) (o % sz) v hd hm
      rw [mid_eq] at this
      exact this
    rw [e] at h1
    obtain ⟨z', h2, h3⟩ := own_seg hz r (o + 1) (w.setCell ⟨g, o, none⟩ v) _ (by simp at hl; omega) h1
    refine ⟨z', h2, fun x q hx hq hlt => ?_⟩
    rw [h3 x q hx hq (by omega)]
    refine if_neg (fun he => ?_)
    have := @mid_eq sz o
    rw [← he.1, ← he.2] at this
    omega
theorem there_row {w : World} {B g n cap : Nat} {z : Nat → Nat → Value} (h : w.ownsRow B 101 5 (.slice (some ⟨g, 0, none⟩) n cap) n (cL 5 z n)) {j : Nat} (hj : j < n) : w.there g (j * 5) 5 := by
  intro q hq
  refine ⟨?_, World.ownsRow.frozenAt h _⟩
  rw [World.ownsRow.cellAt h _ (mid_lt hj hq), cL_get _ _ _ _ _ hj hq]
  rfl
/-- The end of a list of seats, cleared. -/
theorem clear_seats {w : World} {B g n j : Nat} {z : Nat → Nat → Value} (h : w.ownsRow B 101 5 (.slice (some ⟨g, 0, none⟩) n n) n (cL 5 z n)) (hj : j < n) :
    ∃ vs : List Value, j * 5 + vs.length = n * 5 ∧ ∀ ty, (Builtin.clear_ #[96] ty #[.slice (some ⟨g, j * 5, none⟩) (n - j) (n - j)]).run Tryz.prog w = .ok (.tuple #[]) (w.setCells g (j * 5) vs) := by
  have hzv : ∀ W : World, (zeroValue 101).run Tryz.prog W = .ok (.agg zcT.toArray) W := fun W => by rfl
  refine ⟨(Builtin.zeroCells zcT.toArray (n - j)).toList, ?_, fun ty => ?_⟩
  · simp [Builtin.zeroCells, zcT]; omega
  · have hlen : (Builtin.zeroCells zcT.toArray (n - j)).toList.length = (n - j) * 5 := by simp [Builtin.zeroCells, zcT]
    have hst := run_storeCells_cells (P := Tryz.prog) g (j * 5) (Builtin.zeroCells zcT.toArray (n - j)).toList 0 w (fun i hi => by
        rw [hlen] at hi
        rw [Nat.add_zero, World.ownsRow.cellAt h _ (by omega), List.getElem?_eq_getElem (by rw [cL_len]; omega)]
        rfl) (fun i _ => by rw [Nat.add_zero]; exact World.ownsRow.frozenAt h _) (fun v hv => by
        simp only [Builtin.zeroCells, Array.toList_map, List.mem_map] at hv
        obtain ⟨i, _, rfl⟩ := hv
        have hi : i % zcT.toArray.size < 5 := Nat.mod_lt _ (by simp [zcT])
        generalize i % zcT.toArray.size = q at hi
        match q, hi with
        | 0, _ | 1, _ | 2, _ | 3, _ | 4, _ => rfl)
    obtain ⟨r, hr⟩ : ∃ r, n - j = r + 1 := ⟨n - j - 1, by omega⟩
    rw [hr] at hst ⊢
    simp [Builtin.clear_, run_underlying Tryz.underlying96, hzv, Value.cells, hst, Result.andThen]
end Go.Proofs.YtodpgbmpfflkoaaGreatDoor
