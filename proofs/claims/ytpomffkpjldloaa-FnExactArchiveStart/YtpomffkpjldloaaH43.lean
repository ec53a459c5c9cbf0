/- A net's start in the program: what stands in memory while its literal is built, in whatever order. Lemmas. -/
import Derived.Test.YtpomffkpjldloaaH41
namespace Go.Proofs.Ytpomffkpjldloaa
set_option maxRecDepth 2000
open Go.ChangeShapes Go.WideShapes Go.ChangeAt Go.RowKit

def syO : Sy := ⟨0, 0, 0, ByteArray.empty, ⟨ByteArray.empty, 0, 0, 0, ByteArray.empty, 0, fun _ => ByteArray.empty⟩⟩
/-- Nodes of zero value. -/
def ndsZ (m : Nat) : Dt := .lst 52 3 m (fun _ => ndD ndN)
abbrev ntZ : Array Value := #[.int .i64 0, .slice none 0 0, .slice none 0 0, .slice none 0 0]
/-- What stands when some of the five are done: the number, the nodes, the liars, the way, the net's own block. -/
structure N3 (W0 : World) (m : Nat) (zs : List Int) (p2 p3 p5 p6 p8 : Bool) (x20 x21 x23 x24 x6 : Value) (W : World) (F1 F2 F3 F4 : Nat → Prop) : Prop where
  bw : Below W0.heap.size W0 W
  c2 : p2 = true → x20 = .int .i64 (m : Int)
  bd : ∀ g, F1 g ∨ F2 g ∨ F3 g ∨ F4 g → W0.heap.size ≤ g ∧ g < W.heap.size
  d1 : ∀ g, F1 g → ¬ F2 g ∧ ¬ F3 g ∧ ¬ F4 g
  d2 : ∀ g, F2 g → ¬ F3 g ∧ ¬ F4 g
  d3 : ∀ g, F3 g → ¬ F4 g
  c3 : p3 = true → ∃ g1, x21 = .slice (some ⟨g1, 0, none⟩) m m ∧ Ow W W0.heap.size (ndsZ m) x21 F1
  c5 : p5 = true → ∃ a2 c2, x23 = .slice a2 zs.length c2 ∧ Ow W W0.heap.size (inD zs) x23 F2
  c6 : p6 = true → ∃ g3, x24 = .slice (some ⟨g3, 0, none⟩) 0 0 ∧ Ow W W0.heap.size (sysD 0 (fun _ => syO)) x24 F3
  c8 : p8 = true → ∃ G, x6 = .pointer (some ⟨G, 0, none⟩) ∧ Row W G 26 ntZ ∧ F4 G
def N3E (W0 : World) (m : Nat) (zs : List Int) (p2 p3 p5 p6 p8 : Bool) (x20 x21 x23 x24 x6 : Value) (W : World) : Prop := ∃ F1 F2 F3 F4, N3 W0 m zs p2 p3 p5 p6 p8 x20 x21 x23 x24 x6 W F1 F2 F3 F4
section
variable {W0 W W' : World} {m : Nat} {zs : List Int} {p2 p3 p5 p6 p8 : Bool} {x20 x21 x23 x24 x6 : Value}
theorem n3_start (W0 : World) (m : Nat) (zs : List Int) (x20 x21 x23 x24 x6 : Value) : N3E W0 m zs false false false false false x20 x21 x23 x24 x6 W0 :=
  ⟨fun _ => False, fun _ => False, fun _ => False, fun _ => False, Below.refl _ _, (fun h => Bool.noConfusion h), (fun g h => by simp at h), (fun g h => h.elim), (fun g h => h.elim), (fun g h => h.elim), (fun h => Bool.noConfusion h), (fun h => Bool.noConfusion h), (fun h => Bool.noConfusion h), (fun h => Bool.noConfusion h)⟩
theorem N3E.count (h : N3E W0 m zs false p3 p5 p6 p8 x20 x21 x23 x24 x6 W) : N3E W0 m zs true p3 p5 p6 p8 (.int .i64 (m : Int)) x21 x23 x24 x6 W := by
  obtain ⟨F1, F2, F3, F4, h⟩ := h
  exact ⟨F1, F2, F3, F4, h.bw, fun _ => rfl, h.bd, h.d1, h.d2, h.d3, h.c3, h.c5, h.c6, h.c8⟩
theorem N3E.nodes {g1 : Nat} (h : N3E W0 m zs p2 false p5 p6 p8 x20 x21 x23 x24 x6 W) (hb : Below W.heap.size W W') (ho : Ow W' W.heap.size (ndsZ m) (.slice (some ⟨g1, 0, none⟩) m m) (rng W.heap.size W'.heap.size)) : N3E W0 m zs p2 true p5 p6 p8 x20 (.slice (some ⟨g1, 0, none⟩) m m) x23 x24 x6 W' := by
  obtain ⟨F1, F2, F3, F4, h⟩ := h
  have hs := h.bw.size
  have hl : ∀ g, F2 g ∨ F3 g ∨ F4 g → ¬ rng W.heap.size W'.heap.size g := fun g hg k => by have := h.bd g (.inr hg); have := k.1; omega
  refine ⟨rng W.heap.size W'.heap.size, F2, F3, F4, below2 h.bw hb, h.c2, fun g hg => ?_, fun g hg => ⟨fun k => hl g (.inl k) hg, fun k => hl g (.inr (.inl k)) hg, fun k => hl g (.inr (.inr k)) hg⟩, h.d2, h.d3, fun _ => ⟨g1, rfl, ho.base hs⟩, fun e => ?_, fun e => ?_, fun e => ?_⟩
  · have hs' := hb.size
    rcases hg with hg | hg
    · exact ⟨by have := hg.1; omega, hg.2⟩
    · have := h.bd g (.inr hg); omega
  · obtain ⟨a2, c2, e1, o⟩ := h.c5 e; exact ⟨a2, c2, e1, o.below hb⟩
  · obtain ⟨g3, e1, o⟩ := h.c6 e; exact ⟨g3, e1, o.below hb⟩
  · obtain ⟨G, e1, r, f⟩ := h.c8 e; exact ⟨G, e1, r.below hb r.lt, f⟩
theorem N3E.liars {a2 : Option Addr} {c2 : Nat} (h : N3E W0 m zs p2 p3 false p6 p8 x20 x21 x23 x24 x6 W) (hb : Below W.heap.size W W') (ho : Ow W' W.heap.size (inD zs) (.slice a2 zs.length c2) (rng W.heap.size W'.heap.size)) : N3E W0 m zs p2 p3 true p6 p8 x20 x21 (.slice a2 zs.length c2) x24 x6 W' := by
  obtain ⟨F1, F2, F3, F4, h⟩ := h
  have hs := h.bw.size
  have hl : ∀ g, F1 g ∨ F3 g ∨ F4 g → ¬ rng W.heap.size W'.heap.size g := fun g hg k => by have := h.bd g (by rcases hg with a | a | a <;> simp [a]); have := k.1; omega
  refine ⟨F1, rng W.heap.size W'.heap.size, F3, F4, below2 h.bw hb, h.c2, fun g hg => ?_, fun g hg => ⟨hl g (.inl hg), (h.d1 g hg).2⟩, fun g hg => ⟨fun k => hl g (.inr (.inl k)) hg, fun k => hl g (.inr (.inr k)) hg⟩, h.d3, fun e => ?_, fun _ => ⟨a2, c2, rfl, ho.base hs⟩, fun e => ?_, fun e => ?_⟩
  · have hs' := hb.size
    rcases hg with hg | hg | hg
    · have := h.bd g (.inl hg); omega
    · exact ⟨by have := hg.1; omega, hg.2⟩
    · have := h.bd g (.inr (.inr hg)); omega
  · obtain ⟨g1, e1, o⟩ := h.c3 e; exact ⟨g1, e1, o.below hb⟩
  · obtain ⟨g3, e1, o⟩ := h.c6 e; exact ⟨g3, e1, o.below hb⟩
  · obtain ⟨G, e1, r, f⟩ := h.c8 e; exact ⟨G, e1, r.below hb r.lt, f⟩
theorem N3E.way {g3 : Nat} (h : N3E W0 m zs p2 p3 p5 false p8 x20 x21 x23 x24 x6 W) (hb : Below W.heap.size W W') (ho : Ow W' W.heap.size (sysD 0 (fun _ => syO)) (.slice (some ⟨g3, 0, none⟩) 0 0) (rng W.heap.size W'.heap.size)) : N3E W0 m zs p2 p3 p5 true p8 x20 x21 x23 (.slice (some ⟨g3, 0, none⟩) 0 0) x6 W' := by
  obtain ⟨F1, F2, F3, F4, h⟩ := h
  have hs := h.bw.size
  have hl : ∀ g, F1 g ∨ F2 g ∨ F4 g → ¬ rng W.heap.size W'.heap.size g := fun g hg k => by have := h.bd g (by rcases hg with a | a | a <;> simp [a]); have := k.1; omega
  refine ⟨F1, F2, rng W.heap.size W'.heap.size, F4, below2 h.bw hb, h.c2, fun g hg => ?_, fun g hg => ⟨(h.d1 g hg).1, hl g (.inl hg), (h.d1 g hg).2.2⟩, fun g hg => ⟨hl g (.inr (.inl hg)), (h.d2 g hg).2⟩, fun g hg k => hl g (.inr (.inr k)) hg, fun e => ?_, fun e => ?_, fun _ => ⟨g3, rfl, ho.base hs⟩, fun e => ?_⟩
  · have hs' := hb.size
    rcases hg with hg | hg | hg | hg
    · have := h.bd g (.inl hg); omega
    · have := h.bd g (.inr (.inl hg)); omega
    · exact ⟨by have := hg.1; omega, hg.2⟩
    · have := h.bd g (.inr (.inr (.inr hg))); omega
  · obtain ⟨g1, e1, o⟩ := h.c3 e; exact ⟨g1, e1, o.below hb⟩
  · obtain ⟨a2, c2, e1, o⟩ := h.c5 e; exact ⟨a2, c2, e1, o.below hb⟩
  · obtain ⟨G, e1, r, f⟩ := h.c8 e; exact ⟨G, e1, r.below hb r.lt, f⟩
theorem N3E.own (h : N3E W0 m zs p2 p3 p5 p6 false x20 x21 x23 x24 x6 W) : N3E W0 m zs p2 p3 p5 p6 true x20 x21 x23 x24 (.pointer (some ⟨W.heap.size, 0, none⟩)) (W.alloc (.cells ntZ 26)) := by
  obtain ⟨F1, F2, F3, F4, h⟩ := h
  have hs := h.bw.size
  have hb : Below W.heap.size W (W.alloc (.cells ntZ 26)) := (Below.refl _ _).alloc (Nat.le_refl _) _
  have hl : ∀ g, F1 g ∨ F2 g ∨ F3 g → g ≠ W.heap.size := fun g hg k => by have := h.bd g (by rcases hg with a | a | a <;> simp [a]); omega
  refine ⟨F1, F2, F3, fun g => g = W.heap.size, below2 h.bw hb, h.c2, fun g hg => ?_, fun g hg => ⟨(h.d1 g hg).1, (h.d1 g hg).2.1, hl g (.inl hg)⟩, fun g hg => ⟨(h.d2 g hg).1, hl g (.inr (.inl hg))⟩, fun g hg => hl g (.inr (.inr hg)), fun e => ?_, fun e => ?_, fun e => ?_, fun _ => ⟨_, rfl, Row.new W _ _, rfl⟩⟩
  · have e1 : (W.alloc (.cells ntZ 26)).heap.size = W.heap.size + 1 := by simp
    rw [e1]
    rcases hg with hg | hg | hg | hg
    · have := h.bd g (.inl hg); omega
    · have := h.bd g (.inr (.inl hg)); omega
    · have := h.bd g (.inr (.inr (.inl hg))); omega
    · have hg' : g = W.heap.size := hg; omega
  · obtain ⟨g1, e1, o⟩ := h.c3 e; exact ⟨g1, e1, o.below hb⟩
  · obtain ⟨a2, c2, e1, o⟩ := h.c5 e; exact ⟨a2, c2, e1, o.below hb⟩
  · obtain ⟨g3, e1, o⟩ := h.c6 e; exact ⟨g3, e1, o.below hb⟩
end
/-- The nodes that are made. -/
theorem make_nodes (c : Nat) (hc : c ≤ 10) (W : World) : (Instr.makeSlice 23 (.int .i64 (c : Int)) (.int .i64 (c : Int))).run Try.prog W = .ok (.slice (some ⟨W.heap.size, 0, none⟩) c c) (W.alloc (.cells (madeCells zcN.toArray (c * 3)) 52)) := by
  obtain ⟨i0, hi, hz0, hz1, hz2⟩ := info_parts Try.infoNdZ2
  have hr := run_make (P := Try.prog) W 23 52 i0 (.agg zcN.toArray) Try.underlying23 hi hz0 .i64 .i64 c c (by omega) (Int.le_refl _) (by rw [hz2]; omega) (by omega)
  simp only [Int.toNat_natCast, hz1] at hr
  exact hr
theorem ow_nodes (c : Nat) (hc : c ≤ 10) (W : World) : Ow (W.alloc (.cells (madeCells zcN.toArray (c * 3)) 52)) W.heap.size (ndsZ c) (.slice (some ⟨W.heap.size, 0, none⟩) c c) (rng W.heap.size (W.alloc (.cells (madeCells zcN.toArray (c * 3)) 52)).heap.size) := by
  have e : (madeCells zcN.toArray (c * 3)).toList = cL 3 (fun _ q => zcN.getD q undef) c := made_cL (zs := zcN) (by simp [zcN])
  have hown := World.ownsRow_lit (e := 52) (size := 3) (base := W.heap.size) W (madeCells zcN.toArray (c * 3)) c (Nat.le_refl _) (by unfold maxLen; omega) (by rw [← Array.length_toList, e, cL_len])
  rw [e] at hown
  exact ow_made (F := rng W.heap.size _) hown (fun q hq => ow_ndZ _ W.heap.size q hq) ⟨Nat.le_refl _, (World.ownsRow.lt hown _ rfl).2⟩
theorem ow_way (W : World) : Ow (W.alloc (.cells #[] 75)) W.heap.size (sysD 0 (fun _ => syO)) (.slice (some ⟨W.heap.size, 0, none⟩) 0 0) (rng W.heap.size (W.alloc (.cells #[] 75)).heap.size) := by
  have hown := World.ownsRow_lit (e := 75) (size := 10) (base := W.heap.size) W #[] 0 (Nat.le_refl _) (by unfold maxLen; omega) rfl
  refine ⟨_, _, fun _ _ => undef, fun _ _ _ => False, rfl, by simpa [cL] using hown, ⟨fun x e => ?_, fun _ _ _ hi => absurd hi (Nat.not_lt_zero _), fun _ _ _ hi => absurd hi (Nat.not_lt_zero _), fun _ _ _ _ _ hi => absurd hi (Nat.not_lt_zero _)⟩, fun _ _ hi => absurd hi (Nat.not_lt_zero _)⟩
  cases e
  exact ⟨Nat.le_refl _, (World.ownsRow.lt hown _ rfl).2⟩
/-- What does not change while the nodes are put in. -/
structure N5X (w : World) (B S0 G g1 D : Nat) (F1 F2 F3 : Nat → Prop) : Prop where
  h1 : F1 g1
  hb : ∀ g, F1 g ∨ F2 g ∨ F3 g → B ≤ g ∧ g < S0
  d1 : ∀ g, F1 g → ¬ F2 g ∧ ¬ F3 g
  d2 : ∀ g, F2 g → ¬ F3 g
  nG : ¬ F1 G ∧ ¬ F2 G ∧ ¬ F3 G
  nD : D < B ∧ G ≠ D ∧ w.heap.size ≤ D ∧ w.heap.size ≤ B
/-- What stands when k nodes are put in. -/
structure N5 (w : World) (B S0 G g1 D : Nat) (f : Int) (m : Nat) (zs : List Int) (a2 : Option Addr) (n c2 g3 : Nat) (F1 F2 F3 : Nat → Prop) (k : Nat) (wr : World) : Prop where
  rg : Row wr G 26 #[.int .i64 f, .slice (some ⟨g1, 0, none⟩) m m, .slice a2 n c2, .slice (some ⟨g3, 0, none⟩) 0 0]
  rd : Row wr D 26 ntZ
  on : Ow wr B (.lst 52 3 m (fun i => if i < k then ndD (nd0 f i) else ndD ndN)) (.slice (some ⟨g1, 0, none⟩) m m) (fun g => F1 g ∨ rng S0 wr.heap.size g)
  ol : Ow wr B (inD zs) (.slice a2 zs.length c2) F2
  oy : Ow wr B (sysD 0 (fun _ => syO)) (.slice (some ⟨g3, 0, none⟩) 0 0) F3
  bw : Below w.heap.size w wr
  sz : S0 ≤ wr.heap.size
theorem ow_none {w : World} {B : Nat} {ay : Option Addr} (h : w.ownsRow B 82 13 (.slice ay 0 0) 0 []) : Ow w B (slsD 0 (fun _ => slZ)) (.slice ay 0 0) (rng B w.heap.size) := by
  refine ⟨ay, 0, fun _ _ => undef, fun _ _ _ => False, rfl, by simpa [cL] using h, ⟨fun x e => ?_, fun _ _ _ hi => absurd hi (Nat.not_lt_zero _), fun _ _ _ hi => absurd hi (Nat.not_lt_zero _), fun _ _ _ _ _ hi => absurd hi (Nat.not_lt_zero _)⟩, fun _ _ hi => absurd hi (Nat.not_lt_zero _)⟩
  subst e
  exact World.ownsRow.lt h x.block rfl
theorem N5.put {w wr w2 : World} {B S0 G g1 D : Nat} {f : Int} {m : Nat} {zs : List Int} {a2 ay : Option Addr} {n c2 g3 : Nat} {F1 F2 F3 : Nat → Prop} {k : Nat} (hx : N5X w B S0 G g1 D F1 F2 F3) (h : N5 w B S0 G g1 D f m zs a2 n c2 g3 F1 F2 F3 k wr) (hk : k < m) (b2 : Below wr.heap.size wr w2) (o2 : w2.ownsRow wr.heap.size 82 13 (.slice ay 0 0) 0 []) :
    N5 w B S0 G g1 D f m zs a2 n c2 g3 F1 F2 F3 (k + 1) (w2.setCells g1 (k * 3) [.int .i64 (k : Int), .int .i64 f, .slice ay 0 0]) := by
  have b1 := hx.hb g1 (.inl hx.h1)
  have hs := b2.size
  have hz := h.sz
  have hD := hx.nD
  have hGl := h.rg.lt
  have hDl := h.rd.lt
  have gG : G ≠ g1 := fun e => hx.nG.1 (e ▸ hx.h1)
  have ht := h.on.below b2
  have hsB : B ≤ wr.heap.size := by omega
  refine ⟨(heap_setCells_other g1 _ _ w2 G gG).trans (h.rg.below b2 hGl), (heap_setCells_other g1 _ _ w2 D (by omega)).trans (h.rd.below b2 hDl), ?_, (h.ol.below b2).frame (fun g hg _ => heap_setCells_other g1 _ _ w2 g (fun e => (hx.d1 g1 hx.h1).1 (e ▸ hg))), (h.oy.below b2).frame (fun g hg _ => heap_setCells_other g1 _ _ w2 g (fun e => (hx.d1 g1 hx.h1).2 (e ▸ hg))), below_setCells (below2 h.bw b2) (by omega) _ _, by rw [size_setCells]; omega⟩
  rw [size_setCells]
  refine Ow.congr (Ow.store (d := ndD (nd0 f k)) (H := fun q x => q = 2 ∧ rng wr.heap.size w2.heap.size x) ht hk rfl (fun q hq => ow_node (d := nd0 f k) ((ow_none o2).base hsB) q hq) ?_ ?_ ?_ ?_) ?_
  · intro q x _ hx' hf
    have h2 := hx'.2.1
    rcases hf with hf | hf
    · have := hx.hb x (.inl hf); omega
    · have := hf.2; omega
  · intro q q' x _ _ hx' hx''
    exact hx'.1.trans hx''.1.symm
  · intro x hx'
    rcases hx' with hx' | hx'
    · exact .inl hx'
    · exact .inr ⟨hx'.1, by have := hx'.2; omega⟩
  · intro q x _ hx'
    exact .inr ⟨by have := hx'.2.1; omega, hx'.2.2⟩
  · intro i q _ _
    by_cases e : i = k
    · subst e; simp
    · by_cases e2 : i < k
      · simp [e, e2, show i < k + 1 by omega]
      · simp [e, e2, show ¬ i < k + 1 by omega]
theorem N5.fin {w wr : World} {B S0 G g1 D : Nat} {f : Int} {m : Nat} {zs : List Int} {a2 : Option Addr} {n c2 g3 : Nat} {F1 F2 F3 : Nat → Prop} (hx : N5X w B S0 G g1 D F1 F2 F3) (h : N5 w B S0 G g1 D f m zs a2 n c2 g3 F1 F2 F3 m wr) (cs : Array Value) :
    NtO (wr.setRow D cs) w.heap.size m (nd0 f) zs 0 (fun _ => syO) (.slice (some ⟨g1, 0, none⟩) m m) (.slice a2 zs.length c2) (.slice (some ⟨g3, 0, none⟩) 0 0) (fun g => F1 g ∨ rng S0 wr.heap.size g) F2 F3 ∧ Below w.heap.size w (wr.setRow D cs) := by
  have hD := hx.nD
  have b1 := hx.hb g1 (.inl hx.h1)
  have nF : ∀ g, F1 g ∨ F2 g ∨ F3 g → g ≠ D := fun g hg e => by have := hx.hb g hg; omega
  have nR : ∀ g, rng S0 wr.heap.size g → g ≠ D := fun g hg e => by have := hg.1; omega
  refine ⟨⟨?_, ((h.ol.base hD.2.2.2).frame fun g hg _ => setRow_other _ _ _ _ (nF g (.inr (.inl hg)))), ((h.oy.base hD.2.2.2).frame fun g hg _ => setRow_other _ _ _ _ (nF g (.inr (.inr hg)))), ?_, ?_, hx.d2⟩, belowSetRow h.bw hD.2.2.1 _⟩
  · have h1 : Ow wr B (ndsD m (nd0 f)) (.slice (some ⟨g1, 0, none⟩) m m) (fun g => F1 g ∨ rng S0 wr.heap.size g) := h.on.congr (fun i q hi _ => by simp [hi])
    exact (h1.base hD.2.2.2).frame fun g hg _ => setRow_other _ _ _ _ (by rcases hg with hg | hg; exact nF g (.inl hg); exact nR g hg)
  · intro g hg k
    rcases hg with hg | hg
    · exact (hx.d1 g hg).1 k
    · have := hx.hb g (.inr (.inl k)); have := hg.1; omega
  · intro g hg k
    rcases hg with hg | hg
    · exact (hx.d1 g hg).2 k
    · have := hx.hb g (.inr (.inr k)); have := hg.1; omega
end Go.Proofs.Ytpomffkpjldloaa
