/- A net's start in the program. Conditions: lists of at most 2^20. -/
import Derived.Test.YtjhbjfplgmcbpaaI35
import Derived.Test.YtjhbjfplgmcbpaaI19
import Derived.Test.YtjhbjfplgmcbpaaI22
import Derived.Test.YtjhbjfplgmcbpaaI37
import Derived.WideKeyEntry
import Derived.Laws.StructEq
import Derived.Laws.IdiomCopy
import Derived.Test.YtjhbjfplgmcbpaaI33
import Derived.Test.YtjhbjfplgmcbpaaI7
namespace Go.Proofs.Ytjhbjfplgmcbpaa
set_option maxRecDepth 2000
open Go.ChangeShapes Go.WideShapes Go.ChangeAt Go.RowKit

end Go.Proofs.Ytjhbjfplgmcbpaa
/- A net's start in the program: what stands in memory while its literal is built, in whatever order. Lemmas. -/
namespace Go.Proofs.Ytjhbjfplgmcbpaa
set_option maxRecDepth 2000
open Go.ChangeShapes Go.WideShapes Go.ChangeAt Go.RowKit

def syO : Sy := ⟨0, 0, 0, ByteArray.empty, ⟨ByteArray.empty, 0, 0, 0, ByteArray.empty, 0, fun _ => ByteArray.empty⟩⟩
/-- Nodes of zero value. -/
def ndsZ (m : Nat) : Dt := .lst 46 3 m (fun _ => ndD ndN)
abbrev ntZ : Array Value := #[.int .i64 0, .slice none 0 0, .slice none 0 0, .slice none 0 0]
/-- What stands when some of the five are done: the number, the nodes, the liars, the way, the net's own block. -/
structure N3 (W0 : World) (m : Nat) (zs : List Int) (p2 p3 p5 p6 p8 : Bool) (x20 x21 x23 x24 x6 : Value) (W : World) (F1 F2 F3 F4 : Nat → Prop) : Prop where
  bw : Below W0.heap.size W0 W
  c2 : p2 = true → x20 = .int .i64 (m : Int)
  bd : ∀ g, F1 g ∨ F2 g ∨ F3 g ∨ F4 g → W0.heap.size ≤ g ∧ g < W.heap.size
  d1 : ∀ g, F1 g → ¬ F2 g ∧ ¬ F3 g ∧ ¬ F4 g
  d2 : ∀ g, F2 g → ¬ F3 g ∧ ¬ F4 g
  d3 : ∀ g, F3 g → ¬ F4 g
  c3 : p3 = true → ∃ g1, x21 = .slice (some ⟨g1, 0, none⟩) m m ∧ Ow W W0.heap.size (ndsZ m) x21 F1
  c5 : p5 = true → ∃ a2 c2, x23 = .slice a2 zs.length c2 ∧ Ow W W0.heap.size (inD zs) x23 F2
  c6 : p6 = true → ∃ g3, x24 = .slice (some ⟨g3, 0, none⟩) 0 0 ∧ Ow W W0.heap.size (sysD 0 (fun _ => syO)) x24 F3
  c8 : p8 = true → ∃ G, x6 = .pointer (some ⟨G, 0, none⟩) ∧ Row W G 31 ntZ ∧ F4 G
def N3E (W0 : World) (m : Nat) (zs : List Int) (p2 p3 p5 p6 p8 : Bool) (x20 x21 x23 x24 x6 : Value) (W : World) : Prop := ∃ F1 F2 F3 F4, N3 W0 m zs p2 p3 p5 p6 p8 x20 x21 x23 x24 x6 W F1 F2 F3 F4
section
variable {W0 W W' : World} {m : Nat} {zs : List Int} {p2 p3 p5 p6 p8 : Bool} {x20 x21 x23 x24 x6 : Value}
theorem N3E.count (h : N3E W0 m zs false p3 p5 p6 p8 x20 x21 x23 x24 x6 W) : N3E W0 m zs true p3 p5 p6 p8 (.int .i64 (m : Int)) x21 x23 x24 x6 W := by
  obtain ⟨F1, F2, F3, F4, h⟩ := h
  exact ⟨F1, F2, F3, F4, h.bw, fun _ => rfl, h.bd, h.d1, h.d2, h.d3, h.c3, h.c5, h.c6, h.c8⟩
theorem N3E.nodes {g1 : Nat} (h : N3E W0 m zs p2 false p5 p6 p8 x20 x21 x23 x24 x6 W) (hb : Below W.heap.size W W') (ho : Ow W' W.heap.size (ndsZ m) (.slice (some ⟨g1, 0, none⟩) m m) (rng W.heap.size W'.heap.size)) : N3E W0 m zs p2 true p5 p6 p8 x20 (.slice (some ⟨g1, 0, none⟩) m m) x23 x24 x6 W' := by
  obtain ⟨F1, F2, F3, F4, h⟩ := h
  have hs := h.bw.size
  have hl : ∀ g, F2 g ∨ F3 g ∨ F4 g → ¬ rng W.heap.size W'.heap.size g := fun g hg k => by have := h.bd g (.inr hg); have := k.1; omega
  refine ⟨rng W.heap.size W'.heap.size, F2, F3, F4, below2 h.bw hb, h.c2, fun g hg => ?_, fun g hg => ⟨fun k => hl g (.inl k) hg, fun k => hl g (.inr (.inl k)) hg, fun k => hl g (.inr (.inr k)) hg⟩, h.d2, h.d3, fun _ => ⟨g1, rfl, ho.base hs⟩, fun e => ?_, fun e => ?_, fun e => ?_⟩
  · have hs' := hb.size
    rcases hg with hg | hg
    · exact ⟨by have := hg.1; omega, hg.2⟩
    · have := h.bd g (.inr hg); omega
  · obtain ⟨a2, c2, e1, o⟩ := h.c5 e; exact ⟨a2, c2, e1, o.below hb⟩
  · obtain ⟨g3, e1, o⟩ := h.c6 e; exact ⟨g3, e1, o.below hb⟩
  · obtain ⟨G, e1, r, f⟩ := h.c8 e; exact ⟨G, e1, r.below hb r.lt, f⟩
theorem N3E.liars {a2 : Option Addr} {c2 : Nat} (h : N3E W0 m zs p2 p3 false p6 p8 x20 x21 x23 x24 x6 W) (hb : Below W.heap.size W W') (ho : Ow W' W.heap.size (inD zs) (.slice a2 zs.length c2) (rng W.heap.size W'.heap.size)) : N3E W0 m zs p2 p3 true p6 p8 x20 x21 (.slice a2 zs.length c2) x24 x6 W' := by
  obtain ⟨F1, F2, F3, F4, h⟩ := h
  have hs := h.bw.size
  have hl : ∀ g, F1 g ∨ F3 g ∨ F4 g → ¬ rng W.heap.size W'.heap.size g := fun g hg k => by have := h.bd g (by rcases hg with a | a | a <;> simp [a]); have := k.1; omega
  refine ⟨F1, rng W.heap.size W'.heap.size, F3, F4, below2 h.bw hb, h.c2, fun g hg => ?_, fun g hg => ⟨hl g (.inl hg), (h.d1 g hg).2⟩, fun g hg => ⟨fun k => hl g (.inr (.inl k)) hg, fun k => hl g (.inr (.inr k)) hg⟩, h.d3, fun e => ?_, fun _ => ⟨a2, c2, rfl, ho.base hs⟩, fun e => ?_, fun e => ?_⟩
  · have hs' := hb.size
    rcases hg with hg | hg | hg
    · have := h.bd g (.inl hg); omega
    · exact ⟨by have := hg.1; omega, hg.2⟩
    · have := h.bd g (.inr (.inr hg)); omega
  · obtain ⟨g1, e1, o⟩ := h.c3 e; exact ⟨g1, e1, o.below hb⟩
  · obtain ⟨g3, e1, o⟩ := h.c6 e; exact ⟨g3, e1, o.below hb⟩
  · obtain ⟨G, e1, r, f⟩ := h.c8 e; exact ⟨G, e1, r.below hb r.lt, f⟩
theorem N3E.way {g3 : Nat} (h : N3E W0 m zs p2 p3 p5 false p8 x20 x21 x23 x24 x6 W) (hb : Below W.heap.size W W') (ho : Ow W' W.heap.size (sysD 0 (fun _ => syO)) (.slice (some ⟨g3, 0, none⟩) 0 0) (rng W.heap.size W'.heap.size)) : N3E W0 m zs p2 p3 p5 true p8 x20 x21 x23 (.slice (some ⟨g3, 0, none⟩) 0 0) x6 W' := by
  obtain ⟨F1, F2, F3, F4, h⟩ := h
  have hs := h.bw.size
  have hl : ∀ g, F1 g ∨ F2 g ∨ F4 g → ¬ rng W.heap.size W'.heap.size g := fun g hg k => by have := h.bd g (by rcases hg with a | a | a <;> simp [a]); have := k.1; omega
  refine ⟨F1, F2, rng W.heap.size W'.heap.size, F4, below2 h.bw hb, h.c2, fun g hg => ?_, fun g hg => ⟨(h.d1 g hg).1, hl g (.inl hg), (h.d1 g hg).2.2⟩, fun g hg => ⟨hl g (.inr (.inl hg)), (h.d2 g hg).2⟩, fun g hg k => hl g (.inr (.inr k)) hg, fun e => ?_, fun e => ?_, fun _ => ⟨g3, rfl, ho.base hs⟩, fun e => ?_⟩
  · have hs' := hb.size
    rcases hg with hg | hg | hg | hg
    · have := h.bd g (.inl hg); omega
    · have := h.bd g (.inr (.inl hg)); omega
    · exact ⟨by have := hg.1; omega, hg.2⟩
    · have := h.bd g (.inr (.inr (.inr hg))); omega
  · obtain ⟨g1, e1, o⟩ := h.c3 e; exact ⟨g1, e1, o.below hb⟩
  · obtain ⟨a2, c2, e1, o⟩ := h.c5 e; exact ⟨a2, c2, e1, o.below hb⟩
  · obtain ⟨G, e1, r, f⟩ := h.c8 e; exact ⟨G, e1, r.below hb r.lt, f⟩
theorem N3E.own (h : N3E W0 m zs p2 p3 p5 p6 false x20 x21 x23 x24 x6 W) : N3E W0 m zs p2 p3 p5 p6 true x20 x21 x23 x24 (.pointer (some ⟨W.heap.size, 0, none⟩)) (W.alloc (.cells ntZ 31)) := by
  obtain ⟨F1, F2, F3, F4, h⟩ := h
  have hs := h.bw.size
  have hb : Below W.heap.size W (W.alloc (.cells ntZ 31)) := (Below.refl _ _).alloc (Nat.le_refl _) _
  have hl : ∀ g, F1 g ∨ F2 g ∨ F3 g → g ≠ W.heap.size := fun g hg k => by have := h.bd g (by rcases hg with a | a | a <;> simp [a]); omega
  refine ⟨F1, F2, F3, fun g => g = W.heap.size, below2 h.bw hb, h.c2, fun g hg => ?_, fun g hg => ⟨(h.d1 g hg).1, (h.d1 g hg).2.1, hl g (.inl hg)⟩, fun g hg => ⟨(h.d2 g hg).1, hl g (.inr (.inl hg))⟩, fun g hg => hl g (.inr (.inr hg)), fun e => ?_, fun e => ?_, fun e => ?_, fun _ => ⟨_, rfl, Row.new W _ _, rfl⟩⟩
  · have e1 : (W.alloc (.cells ntZ 31)).heap.size = W.heap.size + 1 := by simp
    rw [e1]
    rcases hg with hg | hg | hg | hg
    · have := h.bd g (.inl hg); omega
    · have := h.bd g (.inr (.inl hg)); omega
    · have := h.bd g (.inr (.inr (.inl hg))); omega
    · have hg' : g = W.heap.size := hg; omega
  · obtain ⟨g1, e1, o⟩ := h.c3 e; exact ⟨g1, e1, o.below hb⟩
  · obtain ⟨a2, c2, e1, o⟩ := h.c5 e; exact ⟨a2, c2, e1, o.below hb⟩
  · obtain ⟨g3, e1, o⟩ := h.c6 e; exact ⟨g3, e1, o.below hb⟩
end
/-- What does not change while the nodes are put in. -/
structure N5X (w : World) (B S0 G g1 D : Nat) (F1 F2 F3 : Nat → Prop) : Prop where
  h1 : F1 g1
  hb : ∀ g, F1 g ∨ F2 g ∨ F3 g → B ≤ g ∧ g < S0
  d1 : ∀ g, F1 g → ¬ F2 g ∧ ¬ F3 g
  d2 : ∀ g, F2 g → ¬ F3 g
  nG : ¬ F1 G ∧ ¬ F2 G ∧ ¬ F3 G
  nD : D < B ∧ G ≠ D ∧ w.heap.size ≤ D ∧ w.heap.size ≤ B
/-- What stands when k nodes are put in. -/
structure N5 (w : World) (B S0 G g1 D : Nat) (f : Int) (m : Nat) (zs : List Int) (a2 : Option Addr) (n c2 g3 : Nat) (F1 F2 F3 : Nat → Prop) (k : Nat) (wr : World) : Prop where
  rg : Row wr G 31 #[.int .i64 f, .slice (some ⟨g1, 0, none⟩) m m, .slice a2 n c2, .slice (some ⟨g3, 0, none⟩) 0 0]
  rd : Row wr D 31 ntZ
  on : Ow wr B (.lst 46 3 m (fun i => if i < k then ndD (nd0 f i) else ndD ndN)) (.slice (some ⟨g1, 0, none⟩) m m) (fun g => F1 g ∨ rng S0 wr.heap.size g)
  ol : Ow wr B (inD zs) (.slice a2 zs.length c2) F2
  oy : Ow wr B (sysD 0 (fun _ => syO)) (.slice (some ⟨g3, 0, none⟩) 0 0) F3
  bw : Below w.heap.size w wr
  sz : S0 ≤ wr.heap.size
theorem ow_none {w : World} {B : Nat} {ay : Option Addr} (h : w.ownsRow B 60 13 (.slice ay 0 0) 0 []) : Ow w B (slsD 0 (fun _ => slZ)) (.slice ay 0 0) (rng B w.heap.size) := by
  refine ⟨ay, 0, fun _ _ => undef, fun _ _ _ => False, rfl, by simpa [cL] using h, ⟨fun x e => ?_, fun _ _ _ hi => absurd hi (Nat.not_lt_zero _), fun _ _ _ hi => absurd hi (Nat.not_lt_zero _), fun _ _ _ _ _ hi => absurd hi (Nat.not_lt_zero _)⟩, fun _ _ hi => absurd hi (Nat.not_lt_zero _)⟩
  subst e
  exact World.ownsRow.lt h x.block rfl
theorem N5.put {w wr w2 : World} {B S0 G g1 D : Nat} {f : Int} {m : Nat} {zs : List Int} {a2 ay : Option Addr} {n c2 g3 : Nat} {F1 F2 F3 : Nat → Prop} {k : Nat} (hx : N5X w B S0 G g1 D F1 F2 F3) (h : N5 w B S0 G g1 D f m zs a2 n c2 g3 F1 F2 F3 k wr) (hk : k < m) (b2 : Below wr.heap.size wr w2) (o2 : w2.ownsRow wr.heap.size 60 13 (.slice ay 0 0) 0 []) :
    N5 w B S0 G g1 D f m zs a2 n c2 g3 F1 F2 F3 (k + 1) (w2.setCells g1 (k * 3) [.int .i64 (k : Int), .int .i64 f, .slice ay 0 0]) := by
  have b1 := hx.hb g1 (.inl hx.h1)
  have hs := b2.size
  have hz := h.sz
  have hD := hx.nD
  have hGl := h.rg.lt
  have hDl := h.rd.lt
  have gG : G ≠ g1 := fun e => hx.nG.1 (e ▸ hx.h1)
  have ht := h.on.below b2
  have hsB : B ≤ wr.heap.size := by omega
  refine ⟨(heap_setCells_other g1 _ _ w2 G gG).trans (h.rg.below b2 hGl), (heap_setCells_other g1 _ _ w2 D (by omega)).trans (h.rd.below b2 hDl), ?_, (h.ol.below b2).frame (fun g hg _ => heap_setCells_other g1 _ _ w2 g (fun e => (hx.d1 g1 hx.h1).1 (e ▸ hg))), (h.oy.below b2).frame (fun g hg _ => heap_setCells_other g1 _ _ w2 g (fun e => (hx.d1 g1 hx.h1).2 (e ▸ hg))), below_setCells (below2 h.bw b2) (by omega) _ _, by rw [size_setCells]; omega⟩
  rw [size_setCells]
  refine Ow.congr (Ow.store (d := ndD (nd0 f k)) (H := fun q x => q = 2 ∧ rng wr.heap.size w2.heap.size x) ht hk rfl (fun q hq => ow_node (d := nd0 f k) ((ow_none o2).base hsB) q hq) ?_ ?_ ?_ ?_) ?_
  · intro q x _ hx' hf
    have h2 := hx'.2.1
    rcases hf with hf | hf
    · have := hx.hb x (.inl hf); omega
    · have := hf.2; omega
  · intro q q' x _ _ hx' hx''
    exact hx'.1.trans hx''.1.symm
  · intro x hx'
    rcases hx' with hx' | hx'
    · exact .inl hx'
    · exact .inr ⟨hx'.1, by have := hx'.2; omega⟩
  · intro q x _ hx'
    exact .inr ⟨by have := hx'.2.1; omega, hx'.2.2⟩
  · intro i q _ _
    by_cases e : i = k
    · subst e; simp
    · by_cases e2 : i < k
      · simp [e, e2, show i < k + 1 by omega]
      · simp [e, e2, show ¬ i < k + 1 by omega]
theorem N5.fin {w wr : World} {B S0 G g1 D : Nat} {f : Int} {m : Nat} {zs : List Int} {a2 : Option Addr} {n c2 g3 : Nat} {F1 F2 F3 : Nat → Prop} (hx : N5X w B S0 G g1 D F1 F2 F3) (h : N5 w B S0 G g1 D f m zs a2 n c2 g3 F1 F2 F3 m wr) (cs : Array Value) :
    NtO (wr.setRow D cs) w.heap.size m (nd0 f) zs 0 (fun _ => syO) (.slice (some ⟨g1, 0, none⟩) m m) (.slice a2 zs.length c2) (.slice (some ⟨g3, 0, none⟩) 0 0) (fun g => F1 g ∨ rng S0 wr.heap.size g) F2 F3 ∧ Below w.heap.size w (wr.setRow D cs) := by
  have hD := hx.nD
  have b1 := hx.hb g1 (.inl hx.h1)
  have nF : ∀ g, F1 g ∨ F2 g ∨ F3 g → g ≠ D := fun g hg e => by have := hx.hb g hg; omega
  have nR : ∀ g, rng S0 wr.heap.size g → g ≠ D := fun g hg e => by have := hg.1; omega
  refine ⟨⟨?_, ((h.ol.base hD.2.2.2).frame fun g hg _ => setRow_other _ _ _ _ (nF g (.inr (.inl hg)))), ((h.oy.base hD.2.2.2).frame fun g hg _ => setRow_other _ _ _ _ (nF g (.inr (.inr hg)))), ?_, ?_, hx.d2⟩, belowSetRow h.bw hD.2.2.1 _⟩
  · have h1 : Ow wr B (ndsD m (nd0 f)) (.slice (some ⟨g1, 0, none⟩) m m) (fun g => F1 g ∨ rng S0 wr.heap.size g) := h.on.congr (fun i q hi _ => by simp [hi])
    exact (h1.base hD.2.2.2).frame fun g hg _ => setRow_other _ _ _ _ (by rcases hg with hg | hg; exact nF g (.inl hg); exact nR g hg)
  · intro g hg k
    rcases hg with hg | hg
    · exact (hx.d1 g hg).1 k
    · have := hx.hb g (.inr (.inl k)); have := hg.1; omega
  · intro g hg k
    rcases hg with hg | hg
    · exact (hx.d1 g hg).2 k
    · have := hx.hb g (.inr (.inr k)); have := hg.1; omega
end Go.Proofs.Ytjhbjfplgmcbpaa
/- A net's start in the program, where it may start. Conditions: lists of at most 2^20. -/
namespace Go.Proofs.Ytjhbjfplgmcbpaa
set_option maxRecDepth 2000
open Go.ChangeShapes Go.WideShapes Go.ChangeAt Go.RowKit

end Go.Proofs.Ytjhbjfplgmcbpaa
/- A net's start, in the program and in the model, told in one way; what stands in memory while its law is gone through. Conditions: lists of at most 2^20. -/
namespace Go.Proofs.Ytjhbjfplgmcbpaa
set_option maxRecDepth 2000
open Go.ChangeShapes Go.WideShapes Go.ChangeAt Go.RowKit

/-- What stands while the law is gone through: the answer's block, and its lists. -/
structure NsF (w4 : World) (bg G : Nat) (fx : Int) (m : Nat) (N : Nat → Nd) (zs : List Int) (Y : Nat → Sy) (b1 b2 b3 : Option Addr) (d1 l2 d2 d3 : Nat) (W : World) : Prop where
  bw : Below w4.heap.size w4 W
  rg : Row W G 31 #[.int .i64 fx, .slice b1 m d1, .slice b2 l2 d2, .slice b3 0 d3]
  og : ∃ F1 F2 F3, NtO W bg m N zs 0 Y (.slice b1 m d1) (.slice b2 l2 d2) (.slice b3 0 d3) F1 F2 F3 ∧ ∀ g, F1 g ∨ F2 g ∨ F3 g → bg ≤ g ∧ g < G
theorem NtO.below {w w' : World} {B n m : Nat} {N : Nat → Nd} {zs : List Int} {Y : Nat → Sy} {v1 v2 v3 : Value} {F1 F2 F3 : Nat → Prop} (h : NtO w B n N zs m Y v1 v2 v3 F1 F2 F3) (hb : Below w.heap.size w w') : NtO w' B n N zs m Y v1 v2 v3 F1 F2 F3 := ⟨h.n.below hb, h.z.below hb, h.y.below hb, h.d1, h.d2, h.d3⟩
theorem NtO.cut {w : World} {B n m : Nat} {N : Nat → Nd} {zs : List Int} {Y : Nat → Sy} {v1 v2 v3 : Value} {F1 F2 F3 : Nat → Prop} (h : NtO w B n N zs m Y v1 v2 v3 F1 F2 F3) : ∃ G1 G2 G3, NtO w B n N zs m Y v1 v2 v3 G1 G2 G3 ∧ ∀ g, G1 g ∨ G2 g ∨ G3 g → B ≤ g ∧ g < w.heap.size :=
  ⟨_, _, _, ⟨h.n.cut, h.z.cut, h.y.cut, fun g a b => h.d1 g a.1 b.1, fun g a b => h.d2 g a.1 b.1, fun g a b => h.d3 g a.1 b.1⟩, fun g hg => by rcases hg with hg | hg | hg <;> exact hg.2⟩
section
variable {w4 W W' : World} {bg G : Nat} {fx : Int} {m : Nat} {N N' : Nat → Nd} {zs zs' : List Int} {Y Y' : Nat → Sy} {b1 b2 b3 : Option Addr} {d1 l2 d2 d3 : Nat}
theorem NsF.below (h : NsF w4 bg G fx m N zs Y b1 b2 b3 d1 l2 d2 d3 W) (hb : Below W.heap.size W W') : NsF w4 bg G fx m N zs Y b1 b2 b3 d1 l2 d2 d3 W' := by
  obtain ⟨F1, F2, F3, o, hd⟩ := h.og
  exact ⟨below2 h.bw hb, h.rg.below hb h.rg.lt, F1, F2, F3, o.below hb, hd⟩
theorem NsF.turnX {b e : Nat} (h : NsF w4 bg G fx m N zs Y b1 b2 b3 d1 l2 d2 d3 W) (ht : Turned W W' b e) (hb : w4.heap.size ≤ b) (he : e ≤ bg) (hG : bg ≤ G) : NsF w4 bg G fx m N zs Y b1 b2 b3 d1 l2 d2 d3 W' := by
  obtain ⟨F1, F2, F3, o, hd⟩ := h.og
  obtain ⟨r, hg, hr⟩ := ht
  have ht : Trn W W' (rng b e) := ⟨hg.os, hg.tape, hg.output, hg.size, fun j hj hn => hg.block j hj (fun e' => hn (hr j e'.symm))⟩
  have hn : ∀ g, F1 g ∨ F2 g ∨ F3 g → ¬ rng b e g := fun g hg' k => by have := hd g hg'; have := k.2; omega
  refine ⟨?_, (ht.block G h.rg.lt (fun k => by have := k.2; omega)).trans h.rg, F1, F2, F3, ⟨o.n.turned ht (fun g hg' => hn g (.inl hg')), o.z.turned ht (fun g hg' => hn g (.inr (.inl hg'))), o.y.turned ht (fun g hg' => hn g (.inr (.inr hg'))), o.d1, o.d2, o.d3⟩, hd⟩
  exact h.bw.trans (ht.below (fun g k => by have := k.1; omega) h.bw.size)
theorem NsF.turnG {F1 F2 F3 : Nat → Prop} (h : NsF w4 bg G fx m N zs Y b1 b2 b3 d1 l2 d2 d3 W) (ht : Trn W W' (fun x => F1 x ∨ F2 x ∨ F3 x)) (hF : ∀ g, F1 g ∨ F2 g ∨ F3 g → bg ≤ g ∧ g < G) (o : NtO W' bg m N' zs' 0 Y' (.slice b1 m d1) (.slice b2 l2 d2) (.slice b3 0 d3) F1 F2 F3) (hb : w4.heap.size ≤ bg) : NsF w4 bg G fx m N' zs' Y' b1 b2 b3 d1 l2 d2 d3 W' :=
  ⟨h.bw.trans (ht.below (fun g k => by have := hF g k; omega) h.bw.size), (ht.block G h.rg.lt (fun k => by have := hF G k; omega)).trans h.rg, F1, F2, F3, o, hF⟩
end
end Go.Proofs.Ytjhbjfplgmcbpaa
/- A map whose keys are badges (structs of two numbers): what its operations answer. No condition but what each says. -/
namespace Go.Proofs.Ytjhbjfplgmcbpaa
set_option maxRecDepth 2000
open Go.ChangeShapes Go.WideShapes Go.ChangeAt Go.RowKit

def bk (a f : Int) : Value := .agg #[.int .i64 a, .int .i64 f]
end Go.Proofs.Ytjhbjfplgmcbpaa
/- A map that counts badges: looked up, and one more counted. No condition but what each says. -/
namespace Go.Proofs.Ytjhbjfplgmcbpaa
set_option maxRecDepth 2000
open Go.ChangeShapes Go.WideShapes Go.ChangeAt Go.RowKit Go.ChangeMaps Go.MapKept Go.WideElems

/-- The entries count the numbers of a list. -/
structure LE (f : Int) (zs : List Int) (es : Array MapEntry) (clock : Nat) : Prop where
  ks : ∀ e ∈ es.toList, ∃ a c, e.key = bk a f ∧ e.val = .int .i64 c ∧ 1 ≤ c ∧ c ≤ (zs.length : Int) ∧ a ∈ zs
  all : ∀ a ∈ zs, ∃ e ∈ es.toList, e.key = bk a f
  st : ∀ e ∈ es.toList, e.born < clock
  nd : (es.toList.map (·.born)).Nodup
theorem LE.keys {f : Int} {zs : List Int} {es : Array MapEntry} {clock : Nat} (h : LE f zs es clock) : ∀ e ∈ es.toList, ∃ a, e.key = bk a f := fun e he => by
  obtain ⟨a, _, h1, _⟩ := h.ks e he
  exact ⟨a, h1⟩
def LM (w : World) (b : Nat) (f : Int) (zs : List Int) : Prop := ∃ es clock, w.heap[b]? = some (.map es clock) ∧ LE f zs es clock
end Go.Proofs.Ytjhbjfplgmcbpaa
/- The liars of a net, counted in a map, in the program. Conditions: lists of at most 2^20. -/
namespace Go.Proofs.Ytjhbjfplgmcbpaa
set_option maxRecDepth 2000
open Go.ChangeShapes Go.WideShapes Go.ChangeAt Go.RowKit Go.ChangeMaps

end Go.Proofs.Ytjhbjfplgmcbpaa
/- The seats of a net, as a list of ours; whether one's badge is counted. Conditions: lists of at most 2^20. -/
namespace Go.Proofs.Ytjhbjfplgmcbpaa
set_option maxRecDepth 2000
open Go.ChangeShapes Go.WideShapes Go.ChangeAt Go.RowKit

theorem LM.below {w w' : World} {b : Nat} {f : Int} {zs : List Int} (h : LM w b f zs) (hb : Below w.heap.size w w') : LM w' b f zs := by
  obtain ⟨es, clock, e, hl⟩ := h
  exact ⟨es, clock, (hb.block b (Array.getElem?_eq_some_iff.1 e).1).trans e, hl⟩
end Go.Proofs.Ytjhbjfplgmcbpaa
/- Seats of which some are left out (slices.IndexFunc, slices.DeleteFunc), in the program. Conditions: lists of at most 2^20. -/
namespace Go.Proofs.Ytjhbjfplgmcbpaa
set_option maxRecDepth 2000
open Go.ChangeShapes Go.WideShapes Go.ChangeAt Go.RowKit

/-- Those that are kept. -/
def kl (p : Nat → Bool) (n : Nat) : List Nat := (List.range n).filter fun i => !p i
theorem kl_succ (p : Nat → Bool) (n : Nat) : kl p (n + 1) = if p n = true then kl p n else kl p n ++ [n] := by
  unfold kl
  rw [List.range_succ, List.filter_append]
  by_cases h : p n = true <;> simp [h]
end Go.Proofs.Ytjhbjfplgmcbpaa
/- Seats of which some are left out (slices.DeleteFunc), in the program. Conditions: lists of at most 2^20. -/
namespace Go.Proofs.Ytjhbjfplgmcbpaa
set_option maxRecDepth 2000
open Go.ChangeShapes Go.WideShapes Go.ChangeAt Go.RowKit

end Go.Proofs.Ytjhbjfplgmcbpaa
/- Seats of which some are left out (slices.DeleteFunc), in the program. Conditions: lists of at most 2^20. -/
namespace Go.Proofs.Ytjhbjfplgmcbpaa
set_option maxRecDepth 2000
open Go.ChangeShapes Go.WideShapes Go.ChangeAt Go.RowKit

/-- What stands when k are looked at, of whom j are kept. -/
def DeI (w : World) (B g n : Nat) (y : Nat → Nat → Value) (p : Nat → Bool) (k j : Nat) (wr : World) : Prop := ∃ z, wr.ownsRow B 69 5 (.slice (some ⟨g, 0, none⟩) n n) n (cL 5 z n) ∧ (∀ t, t < j → ∀ q, q < 5 → z t q = y ((kl p k).getD t 0) q) ∧ (∀ t, k ≤ t → t < n → ∀ q, q < 5 → z t q = y t q) ∧ Trn w wr (fun x => x = g)
theorem DeI.keep {w wr w' : World} {B g n : Nat} {y : Nat → Nat → Value} {p : Nat → Bool} {k j : Nat} (h : DeI w B g n y p k j wr) (hp : p k = false) (hj : j = (kl p k).length) (hjk : j < k) (hk : k < n) (hb : Below wr.heap.size wr w') : DeI w B g n y p (k + 1) (j + 1) (w'.setCells g (j * 5) [y k 0, y k 1, y k 2, y k 3, y k 4]) := by
  obtain ⟨z, h1, h2, h3, h4⟩ := h
  have h5 := own_setCells (show j < n by omega) [y k 0, y k 1, y k 2, y k 3, y k 4] 0 w' z rfl (ownsRow_below h1 hb)
  rw [Nat.add_zero] at h5
  refine ⟨_, h5, fun t ht q hq => ?_, fun t ha hb' q hq => ?_, (h4.trans (Trn.ofBelow _ hb)).trans (trn_setCells (F := fun x => x = g) _ rfl _ _)⟩
  · have ek : kl p (k + 1) = kl p k ++ [k] := by rw [kl_succ, if_neg (by rw [hp]; decide)]
    rw [ek]
    by_cases e : t = j
    · subst e
      have e1 : (kl p k ++ [k]).getD t 0 = k := by rw [hj]; simp
      rw [if_pos ⟨rfl, Nat.zero_le _⟩, e1]
      match q, hq with
      | 0, _ | 1, _ | 2, _ | 3, _ | 4, _ => rfl
    · rw [if_neg (fun h => e h.1), h2 t (by omega) q hq]
      have e1 : (kl p k ++ [k]).getD t 0 = (kl p k).getD t 0 := by
        rw [List.getD_eq_getElem?_getD, List.getD_eq_getElem?_getD, List.getElem?_append_left (by omega)]
      rw [e1]
  · rw [if_neg (fun h => by have := h.1; omega)]
    exact h3 t (by omega) hb' q hq
end Go.Proofs.Ytjhbjfplgmcbpaa
/- The seats of those who are no liars, in the program. Conditions: lists of at most 2^20. -/
namespace Go.Proofs.Ytjhbjfplgmcbpaa
set_option maxRecDepth 2000
open Go.ChangeShapes Go.WideShapes Go.ChangeAt Go.RowKit

end Go.Proofs.Ytjhbjfplgmcbpaa
/- Which nodes that are no liars are done with a root (NetDone), in the program. Conditions: lists of at most 2^20. -/
namespace Go.Proofs.Ytjhbjfplgmcbpaa
set_option maxRecDepth 2000
open Go.ChangeShapes Go.WideShapes Go.ChangeAt Go.RowKit

/-- What the count tells of each node. -/
structure NdQ (d : Nd) : Prop where
  n : d.n ≤ 1048576
  k : ∀ i, i < d.n → SlK (d.S i)
  s : ∀ i, i < d.n → SlS (d.S i)
/-- What stands when t seats are looked at. -/
structure DnI (w : World) (B g n : Nat) (z : Nat → Nat → Value) (L : List Int) (gg len cc : Nat) (wr : World) : Prop where
  ro : wr.ownsRow B 3 1 (.slice (some ⟨gg, 0, none⟩) len cc) len (L.map (Value.int .i64))
  rs : wr.ownsRow B 69 5 (.slice (some ⟨g, 0, none⟩) n n) n (cL 5 z n)
  ln : L.length = len
  bw : Below w.heap.size w wr
  wB : w.heap.size ≤ B
theorem row_type {w : World} {B e s n cap g : Nat} {xs : List Value} (h : w.ownsRow B e s (.slice (some ⟨g, 0, none⟩) n cap) n xs) : ∃ cur fr, w.heap[g]? = some (.cells cur e fr) := by
  rcases h.2 with ⟨e', _⟩ | ⟨g', cap', cur, e', h1, h2, _⟩
  · cases e'
  · cases e'
    exact ⟨_, _, h2⟩
theorem DnI.ne {w wr : World} {B g n : Nat} {z : Nat → Nat → Value} {L : List Int} {gg len cc : Nat} (h : DnI w B g n z L gg len cc wr) : g ≠ gg := fun e => by
  obtain ⟨c1, f1, e1⟩ := row_type h.ro
  obtain ⟨c2, f2, e2⟩ := row_type h.rs
  rw [e, e1] at e2
  simp at e2
theorem DnI.below {w wr w' : World} {B g n : Nat} {z : Nat → Nat → Value} {L : List Int} {gg len cc : Nat} (h : DnI w B g n z L gg len cc wr) (hb : Below wr.heap.size wr w') : DnI w B g n z L gg len cc w' := ⟨ownsRow_below h.ro hb, ownsRow_below h.rs hb, h.ln, below2 h.bw hb, h.wB⟩
theorem DnI.grow {w wr w' : World} {B g n : Nat} {z : Nat → Nat → Value} {L : List Int} {gg len cc g3 c3 : Nat} {x : Int} (h : DnI w B g n z L gg len cc wr) (ho : w'.ownsRow B 3 1 (.slice (some ⟨g3, 0, none⟩) (len + 1) c3) (len + 1) (L.map (Value.int .i64) ++ [.int .i64 x])) (hg : wr.grownBy w' (some gg)) : DnI w B g n z (L ++ [x]) g3 (len + 1) c3 w' :=
  ⟨by rw [List.map_append]; exact ho, own_kept h.rs hg (fun y hy => by cases hy; exact h.ne), by rw [List.length_append, h.ln]; rfl, h.bw.grown hg h.bw.size (fun k e => by cases e; exact Nat.le_trans h.wB (World.ownsRow.lt h.ro gg rfl).1), h.wB⟩
end Go.Proofs.Ytjhbjfplgmcbpaa
