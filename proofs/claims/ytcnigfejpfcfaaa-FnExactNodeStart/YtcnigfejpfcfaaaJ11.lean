/- The draws of chapter one's laws: what each gives, at any bytes. Condition: at most 2^20 bytes. -/
import Derived.Test.YtcnigfejpfcfaaaQDraw
import Derived.Test.YtcnigfejpfcfaaaJ1
import Derived.Deep.AppendLies
import Derived.Test.YtcnigfejpfcfaaaJ8
import Derived.Test.YtcnigfejpfcfaaaJ9
import Derived.Deep.RegionLaw
import Derived.Test.YtcnigfejpfcfaaaJ10
import Derived.Laws.IdiomStrings
namespace Go.Proofs.Ytcnigfejpfcfaaa
set_option maxRecDepth 2000
open Go.ChangeShapes Go.WideShapes Go.ChangeAt Go.RowKit

/-- The bytes of a draw's code. -/
def CodeAt (w : World) (a : Option Addr) (n : Nat) : Prop :=
  n ≤ 1048576 ∧ ∀ j, j < n → ∃ b off x, a = some ⟨b, off, none⟩ ∧ w.cell? ⟨b, off + j, none⟩ = some (.int .u8 x) ∧ 0 ≤ x ∧ x ≤ 255
theorem CodeAt.below {w w' : World} {a : Option Addr} {n : Nat} (h : CodeAt w a n) (hb : Below w.heap.size w w') : CodeAt w' a n :=
  ⟨h.1, fun j hj => by
    obtain ⟨b, off, x, e, hc, hx⟩ := h.2 j hj
    exact ⟨b, off, x, e, (hb.cell (p := ⟨b, off + j, none⟩) (block_lt_of_cell hc)).trans hc, hx⟩⟩
theorem CodeAt.bytes {w : World} {a : Option Addr} {n : Nat} (h : CodeAt w a n) (g : Nat) (hg : w.heap.size ≤ g) : BytesAt w a n g := by
  intro j hj
  obtain ⟨b, off, x, e, hc, hx⟩ := h.2 j hj
  have := block_lt_of_cell hc
  exact ⟨b, off, x, e, by simp at this; omega, hc, hx⟩
theorem IsRow.code {w : World} {a : Option Addr} {len cap : Nat} {zs : List Int} (h : IsRow .u8 w a len cap zs) (hn : len ≤ 1048576) : CodeAt w a len := by
  refine ⟨hn, ?_⟩
  rcases h with ⟨rfl, rfl, rfl, rfl⟩ | ⟨x, rfl, hl, hm, hz, hcell, hwz⟩
  · intro j hj; omega
  · intro i hi
    obtain ⟨b, off, spot⟩ := x
    have hc := hcell i (by omega)
    have hspot : spot = none := by simpa [Addr.add] using World.cell?_spot (hcell 0 (by omega))
    subst hspot
    have ea : (⟨b, off, none⟩ : Addr).add i = ⟨b, off + i, none⟩ := by unfold Addr.add; split <;> simp_all
    rw [ea] at hc
    have hmem : zs.getD i 0 ∈ zs := by
      have hi2 : i < zs.length := by omega
      simp [hi2]
    have hb := bounds_u8 (hwz _ hmem)
    exact ⟨b, off, _, rfl, hc, by omega, by omega⟩

end Go.Proofs.Ytcnigfejpfcfaaa

/- The draws of texts and lists: what each gives, at any bytes. Condition: at most 2^20 bytes of code, and a text or list of at most 16. -/
namespace Go.Proofs.Ytcnigfejpfcfaaa
set_option maxRecDepth 2000
open Go.ChangeShapes Go.WideShapes Go.ChangeAt Go.RowKit

/-- The code's bytes lie below the cursor. -/
def Under (a : Option Addr) (n g : Nat) : Prop := 0 < n → ∀ b off, a = some ⟨b, off, none⟩ → b < g
theorem CodeAt.under {w : World} {a : Option Addr} {n g : Nat} (h : CodeAt w a n) (hg : w.heap.size ≤ g) : Under a n g := by
  intro hn b off e
  obtain ⟨b', off', x, e', hc, _⟩ := h.2 0 hn
  rw [e] at e'
  simp at e'
  have := block_lt_of_cell hc
  simp at this
  omega
/-- Of what was there at the first, block 'g' alone may have turned. -/
theorem grown_new {w0 w w' : World} {g r : Nat} (h : w0.grownBy w (some g)) (k : w.grownBy w' (some r)) (hr : w0.heap.size ≤ r) : w0.grownBy w' (some g) :=
  ⟨k.os.trans h.os, k.tape.trans h.tape, k.output.trans h.output, Nat.le_trans h.size k.size, fun j hj hn => (k.block j (Nat.lt_of_lt_of_le hj h.size) (by simp; omega)).trans (h.block j hj hn)⟩

theorem below_g {w w1 w' : World} {g : Nat} (hb1 : Below w.heap.size w w1) (hg : w.heap.size ≤ g) (h : w1.grownBy w' (some g)) : Below w.heap.size w w' :=
  hb1.trans (below_of_grownBy h hg hb1.size)

end Go.Proofs.Ytcnigfejpfcfaaa

/- The field's functions called one behind the other: each answers as it does, and nothing that was there at the first turns. No condition. -/
namespace Go.Proofs.Ytcnigfejpfcfaaa
set_option maxRecDepth 2000
open Go.ChangeShapes Go.WideShapes Go.ChangeAt Go.RowKit

theorem from_w {P : Program} {fn : FuncId} {args : Array Value} {v : Ending} (w0 w : World) (h0 : Below w0.heap.size w0 w)
    (h : Calls P fn args w fun e w' => e = v ∧ Below w.heap.size w w') : Calls P fn args w fun e w' => e = v ∧ Below w0.heap.size w0 w' :=
  h.mono fun _ _ ⟨he, hb⟩ => ⟨he, h0.trans (hb.mono h0.size)⟩

end Go.Proofs.Ytcnigfejpfcfaaa

/- The draws of chapter two's laws: polynomials, pairs of them, places and values; and the laws' test of two lists. Condition: at most 2^20 bytes of code. -/
namespace Go.Proofs.Ytcnigfejpfcfaaa
set_option maxRecDepth 2000
open Go.ChangeShapes Go.WideShapes Go.ChangeAt Go.RowKit

theorem lit_at {w : World} {cs : List Int} {ty : TypeId} : ∀ i, i < cs.length → (w.alloc (.cells (cs.map (Value.int .i64)).toArray ty)).cell? ⟨w.heap.size, 0 + i, none⟩ = some (.int .i64 (cs.getD i 0)) := by
  intro i hi
  rw [Nat.zero_add, cell_of_row _ _ _ _ ty _ (heap_alloc_new w _)]
  simp [hi]
theorem ints_grown {w w' : World} {b n g : Nat} {zs : List Int} (h : IntsAt w (some ⟨b, 0, none⟩) n zs) (hg : w.grownBy w' (some g)) (hb : b ≠ g) : IntsAt w' (some ⟨b, 0, none⟩) n zs := by
  refine ⟨h.1, fun i hi => ?_⟩
  obtain ⟨b', off, e, hc⟩ := h.2 i hi
  refine ⟨b', off, e, hg.cell hc ?_⟩
  cases e
  simpa using hb
theorem drawn_of {w' : World} {B n : Nat} {v : Value} {zs : List Int} (h : OwnI w' B v zs) (hv : v ≠ .slice none 0 0) (hn : zs.length = n) : ∃ g cap, v = .slice (some ⟨g, 0, none⟩) n cap ∧ n ≤ cap ∧ B ≤ g ∧ g < w'.heap.size ∧ IntsAt w' (some ⟨g, 0, none⟩) n zs := by
  subst hn
  rcases h.2 with ⟨e, _⟩ | ⟨g, cap, cur, e, hB, hg, hcap, _⟩
  · exact absurd e hv
  · subst e
    exact ⟨g, cap, rfl, hcap, hB, (Array.getElem?_eq_some_iff.1 hg).1, ownsRow.ints h⟩
theorem owns_cap {w : World} {B E g n cap : Nat} {xs : List Value} (h : w.ownsRow B E 1 (.slice (some ⟨g, 0, none⟩) n cap) n xs) : n ≤ cap := by
  rcases h.2 with h' | ⟨g', cap', cur, e, _, _, hn, _⟩
  · cases h'.1
  · cases e; exact hn

end Go.Proofs.Ytcnigfejpfcfaaa

/- The draws of matrices: what each gives, at any bytes: some list of rows, at most 17 of them, each of 1 to 6 numbers. Condition: at most 2^20 bytes of code. -/
namespace Go.Proofs.Ytcnigfejpfcfaaa
set_option maxRecDepth 2000
open Go.ChangeShapes Go.WideShapes Go.ChangeAt Go.RowKit

theorem MatZ.base {k : IntKind} {T TT : Nat} {w : World} {B E : Nat} {a : Option Addr} {n cap : Nat} {A : Nat → Option Addr} {L C : Nat → Nat} {Z : Nat → Nat → Int} (h : MatZ k T TT w B E a n cap A L C Z) : (∀ x, a = some x → B ≤ x.block) ∧ ∀ i, i < n → ∀ x, A i = some x → B ≤ x.block := by
  refine ⟨fun x e => ?_, fun i hi x e => ?_⟩
  · rcases own_shape h.out with ⟨h', _⟩ | ⟨g, _, e', hb, _⟩
    · rw [h'] at e; cases e
    · rw [e'] at e; cases e; exact hb
  · rcases own_shape (h.row i hi) with ⟨h', _⟩ | ⟨g, _, e', hb, _⟩
    · rw [h'] at e; cases e
    · rw [e'] at e; cases e; exact hb
/-- The cursor's block turned, which lies ahead of the matrix. -/
theorem MatZ.cur {k : IntKind} {T TT : Nat} {w w' : World} {B E g : Nat} {a : Option Addr} {n cap : Nat} {A : Nat → Option Addr} {L C : Nat → Nat} {Z : Nat → Nat → Int} (h : MatZ k T TT w B E a n cap A L C Z) (hg : w.grownBy w' (some g)) (hB : g < B) : MatZ k T TT w' B E a n cap A L C Z :=
  h.kept hg (fun x e => by have := h.base.1 x e; omega) (fun i hi x e => by have := h.base.2 i hi x e; omega)
/-- Some list of rows of ours, each of 1 to 6 numbers. -/
def DM (u : Nat) (w : World) (B E G n cap : Nat) : Prop := ∃ A L C Z, MatI w B E (some ⟨G, 0, none⟩) n cap A L C Z ∧ ∀ i, i < n → 1 ≤ L i ∧ L i ≤ u
theorem DM.cur {u : Nat} {w w' : World} {B E G n cap g : Nat} (h : DM u w B E G n cap) (hg : w.grownBy w' (some g)) (hB : g < B) : DM u w' B E G n cap := by
  obtain ⟨A, L, C, Z, hM, hL⟩ := h
  exact ⟨A, L, C, Z, hM.cur hg hB, hL⟩
theorem DM.below {u : Nat} {w w' : World} {B E G n cap : Nat} (h : DM u w B E G n cap) (hb : Below w.heap.size w w') : DM u w' B E G n cap := by
  obtain ⟨A, L, C, Z, hM, hL⟩ := h
  exact ⟨A, L, C, Z, hM.below hb, hL⟩
theorem DM.wide {u : Nat} {w : World} {B E E' G n cap : Nat} (h : DM u w B E G n cap) (hE : E ≤ E') : DM u w B E' G n cap := by
  obtain ⟨A, L, C, Z, hM, hL⟩ := h
  exact ⟨A, L, C, Z, hM.wide hE, hL⟩
theorem DM.tight {u : Nat} {w : World} {B E G n cap : Nat} (h : DM u w B E G n cap) : DM u w B w.heap.size G n cap := by
  obtain ⟨A, L, C, Z, hM, hL⟩ := h
  exact ⟨A, L, C, Z, hM.tight, hL⟩
theorem DM.at {u : Nat} {w : World} {B E G n cap : Nat} (h : DM u w B E G n cap) : ∃ L Z, MatAt w (some ⟨G, 0, none⟩) n L Z ∧ ∀ i, i < n → 1 ≤ L i ∧ L i ≤ u := by
  obtain ⟨A, L, C, Z, hM, hL⟩ := h
  exact ⟨L, Z, hM.at, hL⟩
theorem DM.pushed {u : Nat} {wr w2 : World} {B b0 G k cap g2 cap3 gr W capr : Nat} {A : Nat → Option Addr} {L C : Nat → Nat} {Z : Nat → Nat → Int} {xs : List Int} (o : Obj) (hM : MatI wr B b0 (some ⟨G, 0, none⟩) k cap A L C Z) (hL : ∀ i, i < k → 1 ≤ L i ∧ L i ≤ u) (hW : 1 ≤ W ∧ W ≤ u)
    (hb : B ≤ b0) (hr : wr.ownsRow b0 3 1 (.slice (some ⟨gr, 0, none⟩) W capr) W (xs.map (Value.int .i64))) (hgrow : (wr.alloc o).grownBy w2 (some G))
    (hout : w2.ownsRow B 40 1 (.slice (some ⟨g2, 0, none⟩) (k + 1) cap3) (k + 1) (hds A L C k ++ [.slice (some ⟨gr, 0, none⟩) W capr])) :
    DM u w2 B w2.heap.size g2 (k + 1) cap3 := by
  have hbo : Below wr.heap.size wr (wr.alloc o) := (Below.refl _ _).alloc (Nat.le_refl _) _
  have hM1 := hM.below hbo
  have hlen : xs.length = W := by simpa using hr.1
  have hr1 : (wr.alloc o).ownsRow B 3 1 (.slice (some ⟨gr, 0, none⟩) W capr) W ((zI (fun j => xs.getD j 0) W).map (Value.int .i64)) := by
    have e : zI (fun j => xs.getD j 0) W = xs := by rw [← hlen]; exact zI_of xs
    rw [e]
    exact own_base (ownsRow_below hr hbo) hb
  have hgr := (hr.lt gr rfl).1
  refine ⟨_, _, _, _, MatZ.push tiNe hM1 hgrow hout (Nat.le_refl _) ?_ hr1 (fun j hj y u ey eu => ?_), fun i hi => ?_⟩
  · exact Nat.le_trans (Nat.le_of_lt (Nat.lt_of_le_of_lt hgr (hr.lt gr rfl).2)) (Nat.le_trans hbo.size hgrow.size)
  · cases eu
    have := hM.rE j hj y ey
    exact Nat.ne_of_lt (Nat.lt_of_lt_of_le this hgr)
  · by_cases e : i = k
    · simp only [if_pos e]; exact hW
    · simp only [if_neg e]; exact hL i (by omega)
theorem drawRow {w : World} {B E : Nat} {a : Option Addr} {n cap : Nat} {A : Nat → Option Addr} {L C : Nat → Nat} {Z : Nat → Nat → Int} (h : MatI w B E a n cap A L C Z) {i : Nat} (hi : i < n) (hL : 1 ≤ L i) : ∃ g, A i = some ⟨g, 0, none⟩ ∧ B ≤ g ∧ g < w.heap.size ∧ ∀ j u, ((zI (Z i) (L i)).map (Value.int .i64))[j]? = some u → w.cell? ((⟨g, 0, none⟩ : Addr).add j) = some u := by
  rcases own_shape (h.row i hi) with ⟨_, h0, _⟩ | ⟨g, _, e, hb, _⟩
  · omega
  · refine ⟨g, e, hb, (h.glt hi e).2, fun j u hu => ?_⟩
    have hj : j < L i := by
      by_cases hh : j < L i
      · exact hh
      · rw [List.getElem?_eq_none (by simp [zI_len]; omega)] at hu; cases hu
    have ea : (⟨g, 0, none⟩ : Addr).add j = ⟨g, j, none⟩ := by unfold Addr.add; split <;> simp_all
    rw [ea, h.elt hi e hj]
    simpa [zI, hj] using hu
theorem one_ints (xs : List Int) : ∀ u ∈ xs.map (Value.int .i64), u.oneCell' = true := by
  intro u hu
  simp at hu
  obtain ⟨y, _, rfl⟩ := hu
  rfl

def lenV : Value → Nat
  | .slice _ n _ => n
  | _ => 0
theorem DM.le {u u' : Nat} {w : World} {B E G n cap : Nat} (h : DM u w B E G n cap) (hu : u ≤ u') : DM u' w B E G n cap := by
  obtain ⟨A, L, C, Z, hM, hL⟩ := h
  exact ⟨A, L, C, Z, hM, fun i hi => ⟨(hL i hi).1, Nat.le_trans (hL i hi).2 hu⟩⟩
theorem DM.grew {u : Nat} {w w' : World} {B E G n cap g0 g i l c : Nat} {A : Nat → Option Addr} {L C : Nat → Nat} {Z : Nat → Nat → Int} {xs : List Int} (hM : MatI w B E (some ⟨G, 0, none⟩) n cap A L C Z) (hL : ∀ i, i < n → 1 ≤ L i ∧ L i ≤ u) (hi : i < n) (hA : A i = some ⟨g0, 0, none⟩) (hg : w.grownBy w' (some g0))
    (hrow : w'.ownsRow B 3 1 (.slice (some ⟨g, 0, none⟩) l c) l (xs.map (Value.int .i64))) (hl : 1 ≤ l ∧ l ≤ u + 1) (hat : g = g0 ∨ w.heap.size ≤ g) (hE : E ≤ w'.heap.size) :
    (∃ v, w'.cell? ⟨G, i, none⟩ = some v) ∧ w'.frozen? ⟨G, i, none⟩ = false ∧ DM (u + 1) (w'.setCell ⟨G, i, none⟩ (.slice (some ⟨g, 0, none⟩) l c)) B (w'.setCell ⟨G, i, none⟩ (.slice (some ⟨g, 0, none⟩) l c)).heap.size G n cap ∧ w'.grownBy (w'.setCell ⟨G, i, none⟩ (.slice (some ⟨g, 0, none⟩) l c)) (some G) := by
  obtain ⟨h1, h2, h3, h4⟩ := MatZ.grew tiNe hM hi hA hg (own_zI hrow) hat hE (hrow.lt g rfl).2
  refine ⟨⟨_, h1⟩, h2, ⟨_, _, _, _, h3.wide h4.size, fun j hj => ?_⟩, h4⟩
  by_cases e : j = i
  · simp only [if_pos e]; exact hl
  · simp only [if_neg e]; exact ⟨(hL j hj).1, Nat.le_succ_of_le (hL j hj).2⟩
theorem matBase {w : World} {B B' E : Nat} {a : Option Addr} {n cap : Nat} {A : Nat → Option Addr} {L C : Nat → Nat} {Z : Nat → Nat → Int} (h : MatI w B E a n cap A L C Z) (hB : B' ≤ B) : MatI w B' E a n cap A L C Z :=
  ⟨own_base h.out hB, h.oE, fun i hi => own_base (h.row i hi) hB, h.rE, h.apart⟩
theorem DM.hdr {u : Nat} {w : World} {B E G n cap i : Nat} (h : DM u w B E G n cap) (hi : i < n) : (∃ v, w.cell? ⟨G, i, none⟩ = some v) ∧ w.frozen? ⟨G, i, none⟩ = false := by
  obtain ⟨A, L, C, Z, hM, _⟩ := h
  exact ⟨⟨_, hM.hdr hi⟩, hM.ofree i⟩
theorem DM.olt {u : Nat} {w : World} {B E G n cap : Nat} (h : DM u w B E G n cap) : B ≤ G ∧ G < w.heap.size := by
  obtain ⟨A, L, C, Z, hM, _⟩ := h
  exact hM.olt
/-- A new row for an old one. -/
theorem DM.setRow {u : Nat} {w : World} {B E G n cap g l c i : Nat} {xs : List Int} (h : DM u w B E G n cap) (hi : i < n) (hrow : w.ownsRow B 3 1 (.slice (some ⟨g, 0, none⟩) l c) l (xs.map (Value.int .i64))) (hl : 1 ≤ l ∧ l ≤ u) (hE : E ≤ w.heap.size) (hg : E ≤ g) :
    DM u (w.setCell ⟨G, i, none⟩ (.slice (some ⟨g, 0, none⟩) l c)) B (w.setCell ⟨G, i, none⟩ (.slice (some ⟨g, 0, none⟩) l c)).heap.size G n cap ∧ w.grownBy (w.setCell ⟨G, i, none⟩ (.slice (some ⟨g, 0, none⟩) l c)) (some G) := by
  obtain ⟨A, L, C, Z, hM, hL⟩ := h
  have h1 := (hM.wide hE).setRow tiNe hi (own_zI hrow) (hrow.lt g rfl).2 (fun j hj _ x ex => by have := hM.rE j hj x ex; omega)
  refine ⟨⟨_, _, _, _, h1.1.wide h1.2.size, fun j hj => ?_⟩, h1.2⟩
  by_cases e : j = i
  · simp only [if_pos e]; exact hl
  · simp only [if_neg e]; exact hL j hj
theorem DM.setElt {u : Nat} {w : World} {B G n cap g0 i j : Nat} {A : Nat → Option Addr} {L C : Nat → Nat} {Z : Nat → Nat → Int} (hM : MatI w B w.heap.size (some ⟨G, 0, none⟩) n cap A L C Z) (hL : ∀ i, i < n → 1 ≤ L i ∧ L i ≤ u) (hi : i < n) (hA : A i = some ⟨g0, 0, none⟩) (hj : j < L i) (v : Int) :
    DM u (w.setCell ⟨g0, j, none⟩ (.int .i64 v)) B (w.setCell ⟨g0, j, none⟩ (.int .i64 v)).heap.size G n cap ∧ w.grownBy (w.setCell ⟨g0, j, none⟩ (.int .i64 v)) (some g0) := by
  have h1 := hM.setElt tiNe hi hA hj v
  exact ⟨⟨_, _, _, _, h1.1.wide h1.2.size, hL⟩, h1.2⟩

end Go.Proofs.Ytcnigfejpfcfaaa

/- The draws of chapter three's laws: matrices, and places that differ. Condition: at most 2^20 bytes of code. -/
namespace Go.Proofs.Ytcnigfejpfcfaaa
set_option maxRecDepth 2000
open Go.ChangeShapes Go.WideShapes Go.ChangeAt Go.RowKit

/-- A list of rows that was drawn, in new memory. -/
def Drawn (w' : World) (v : Value) : Prop := ∃ G m cap L Z, v = .slice (some ⟨G, 0, none⟩) m cap ∧ m ≤ 17 ∧ MatAt w' (some ⟨G, 0, none⟩) m L Z ∧ ∀ i, i < m → L i ≤ 6
theorem DM.drawn {w : World} {B E G n cap : Nat} (h : DM 6 w B E G n cap) (hn : n ≤ 17) : Drawn w (.slice (some ⟨G, 0, none⟩) n cap) := by
  obtain ⟨L, Z, h1, h2⟩ := h.at
  exact ⟨G, n, cap, L, Z, rfl, hn, h1, fun i hi => (h2 i hi).2⟩
theorem DM.far {u : Nat} {w w' : World} {B E G n cap g : Nat} (h : DM u w B E G n cap) (hg : w.grownBy w' (some g)) (hB : g < B) : DM u w' B E G n cap := h.cur hg hB
end Go.Proofs.Ytcnigfejpfcfaaa

/- The draw of places that differ. Condition: at most 2^20 bytes of code, at most 256 places. -/
namespace Go.Proofs.Ytcnigfejpfcfaaa
set_option maxRecDepth 2000
open Go.ChangeShapes Go.WideShapes Go.ChangeAt Go.RowKit

/-- append onto a row of ours as one step of a region that draws its order; nothing may be appended, too. -/
theorem step_append_all {P : Program} (w : World) {ops : Array Oper} {o : Oper} {a : Act} {K : Act → World → Prop} {Q : Exit → Act → World → Prop} {E : Prop} (hgd : o.guard = none) (s x : Operand) (t : TypeId)
    (ho : o.op = .call { callee := .builtin .append, args := #[s, x], argTypes := #[t, t] })
    (base : Nat) (e : TypeId) (i : TypeInfo) (z : Value) (size bytes : Nat) (ht : P.underlying t = some (.slice e)) (hi : P.info? e = some i) (hz : i.zero = some z)
    (hsize : i.size = size) (hby : i.bytes = bytes) (hzs : z.cells.size = size) (hsz : 0 < size)
    (g0 n cap0 : Nat) (xs : List Value) (hs : a.eval s = .slice (some ⟨g0, 0, none⟩) n cap0) (hown : w.ownsRow base e size (.slice (some ⟨g0, 0, none⟩) n cap0) n xs)
    (ad : Addr) (m c : Nat) (news : List Value) (hx : a.eval x = .slice (some ad) m c) (hl : news.length = m * size) (hnews : ∀ j u, news[j]? = some u → w.cell? (ad.add j) = some u) (h1 : ∀ u ∈ news, u.oneCell' = true)
    (h63 : n + m ≤ maxLen) (hbytes : (n + m) * bytes ≤ 140737488355328) (hbase : base ≤ w.heap.size)
    (h : ∀ g cap w', w'.ownsRow base e size (.slice (some ⟨g, 0, none⟩) (n + m) cap) (n + m) (xs ++ news) → w.grownBy w' (some g0) → K (a.put o.dst (.slice (some ⟨g, 0, none⟩) (n + m) cap)) w') :
    if Region.wanted o (yielded ops a.tmps) = true then Oper.wp P o a w K Q else E := by
  have hw : Region.wanted o (yielded ops a.tmps) = true := by simp [Region.wanted, hgd]
  rw [if_pos hw]
  refine wp_append_own w s x t ho base e i z size bytes ht hi hz hsize hby hzs hsz _ n xs hs hown ad m c news hx hl hnews h1 h63 hbytes hbase fun v' w' h2 h3 h4 => ?_
  have hne : v' ≠ .slice none 0 0 := fun e => by have := h4.1 e; cases this.1
  rcases h2.2 with ⟨e, _⟩ | ⟨g, cap, cur, e, _⟩
  · exact absurd e hne
  · subst e
    exact h g cap w' h2 h3
theorem nodup_erase {os rs : List Int} {at' : Nat} (h : at' < rs.length) (hn : (os ++ rs).Nodup) : ((os ++ [rs.getD at' 0]) ++ (rs.take at' ++ rs.drop (at' + 1))).Nodup := by
  rw [List.append_assoc]
  refine (List.Perm.nodup_iff ?_).1 hn
  refine List.Perm.append_left os ?_
  have e : rs.getD at' 0 = rs[at'] := by simp [List.getD, h]
  have e2 : rs = rs.take at' ++ rs[at'] :: rs.drop (at' + 1) := by rw [← List.drop_eq_getElem_cons h, List.take_append_drop]
  rw [e]
  refine List.Perm.trans (List.Perm.of_eq e2) ?_
  exact List.perm_middle
theorem mem_erase {os rs : List Int} {at' : Nat} (h : at' < rs.length) {p : Int → Prop} (hp : ∀ x ∈ os ++ rs, p x) : ∀ x ∈ (os ++ [rs.getD at' 0]) ++ (rs.take at' ++ rs.drop (at' + 1)), p x := by
  intro x hx
  refine hp x ?_
  have e : rs.getD at' 0 = rs[at'] := by simp [List.getD, h]
  simp only [List.mem_append, List.mem_singleton, e] at hx ⊢
  rcases hx with (hx | rfl) | (hx | hx)
  · exact .inl hx
  · exact .inr (List.getElem_mem h)
  · exact .inr (List.mem_of_mem_take hx)
  · exact .inr (List.mem_of_mem_drop hx)
theorem own_cell {w : World} {B g m c j : Nat} {rs : List Int} (h : w.ownsRow B 3 1 (.slice (some ⟨g, 0, none⟩) m c) m (rs.map (Value.int .i64))) (hj : j < m) : w.cell? ⟨g, j, none⟩ = some (.int .i64 (rs.getD j 0)) := by
  have hl : rs.length = m := by simpa using h.1
  rw [h.cellAt j (by omega)]
  have hj' : j < rs.length := by omega
  simp [List.getD, hj']
theorem news_own {w : World} {B g m c off len : Nat} {rs : List Int} (h : w.ownsRow B 3 1 (.slice (some ⟨g, 0, none⟩) m c) m (rs.map (Value.int .i64))) (hm : off + len ≤ m) : ∀ j u, (((rs.drop off).take len).map (Value.int .i64))[j]? = some u → w.cell? ((⟨g, off, none⟩ : Addr).add j) = some u := fun j u hu => by
  have hl : rs.length = m := by simpa using h.1
  have hj : j < len := by
    by_cases hh : j < len
    · exact hh
    · rw [List.getElem?_eq_none (by simp; omega)] at hu; cases hu
  have ea : (⟨g, off, none⟩ : Addr).add j = ⟨g, off + j, none⟩ := by unfold Addr.add; split <;> simp_all
  rw [ea, own_cell h (by omega)]
  have hj' : off + j < rs.length := by omega
  simp [hj, List.getElem?_drop, hj'] at hu
  simp [List.getD, hj', hu]
theorem grownBy_below' {a b : World} {g : Nat} (h : Below a.heap.size a b) : a.grownBy b (some g) := grownBy_below h
end Go.Proofs.Ytcnigfejpfcfaaa

/- The model's unit, of any number of rows up to 2^10; the unit; a spread. -/
namespace Go.Proofs.Ytcnigfejpfcfaaa
set_option maxRecDepth 2000
open Go.ChangeShapes Go.WideShapes Go.ChangeAt Go.RowKit

set_option maxHeartbeats 2000000 in
theorem sUnit0_any (n : Nat) (w : World) (hn : n ≤ 1000) :
    Calls Try.prog 103 #[.int .i64 (n : Int)] w fun e w' => ∃ G cap A C, e = .returned (.slice (some ⟨G, 0, none⟩) n cap) ∧ MatI w' w.heap.size w'.heap.size (some ⟨G, 0, none⟩) n cap A (fun _ => n) C (fun i j => ((Gm.dl i j : Nat) : Int)) ∧ Below w.heap.size w w' := by
  obtain ⟨i0, hi, hz0, hz1, hz2⟩ := info_parts Try.infoInt
  obtain ⟨i1, hj, hy0, hy1, hy2⟩ := info_parts Try.infoInts
  have H0 : Hid (MatI (w.alloc (.cells #[] 40)) w.heap.size (w.alloc (.cells #[] 40)).heap.size (some ⟨w.heap.size, 0, none⟩) 0 0 (fun _ => none) (fun _ => n) (fun _ => 0) (fun i j => ((Gm.dl i j : Nat) : Int))) := litM w _ _ _ _
  go_enter Try.func103, Try.ntmps103
  go_wp2
  go_loopw [3, 4] (fun v i wr => ∃ k G cap A C, k ≤ n ∧ i = .int .i64 ((k : Nat) : Int) ∧ v = .slice (some ⟨G, 0, none⟩) k cap ∧ MatI wr w.heap.size wr.heap.size (some ⟨G, 0, none⟩) k cap A (fun _ => n) C (fun i j => ((Gm.dl i j : Nat) : Int)) ∧ Below w.heap.size w wr) (fun _ i _ => n - (intOf i).toNat)
  case atStart => exact ⟨0, _, _, _, _, Nat.zero_le _, rfl, rfl, H0.out, (Below.refl _ _).alloc (Nat.le_refl _) _⟩
  case round =>
    obtain ⟨k, G, cap, A, C, hk, rfl, rfl, hM, hbel⟩ := hrel
    clear H0
    by_cases hlt : k < n
    · have hki : (k : Int) < (n : Int) := by omega
      have hsz0 := hbel.size
      have KR : Hid (OwnR (wr.alloc (.cells #[] 3)) wr.heap.size wr.heap.size 0 0 (Gm.dl k)) := lit0 wr (Gm.dl k)
      have KM : Hid (MatI (wr.alloc (.cells #[] 3)) w.heap.size wr.heap.size (some ⟨G, 0, none⟩) k cap A (fun _ => n) C (fun i j => ((Gm.dl i j : Nat) : Int))) := hM.below ((Below.refl _ _).alloc (Nat.le_refl _) _)
      have KB : Hid (Below w.heap.size w (wr.alloc (.cells #[] 3))) := hbel.alloc hsz0 _
      have hGl := hM.olt.1
      clear hM hbel
      obtain ⟨b0, hb0⟩ : ∃ b0, wr.heap.size = b0 := ⟨_, rfl⟩
      rw [hb0] at KR KM hsz0
      go_wp2
      clear hb0
      go_loopw [5, 6] (fun v i wr => ∃ q gr capr, q ≤ n ∧ i = .int .i64 ((q : Nat) : Int) ∧ v = .slice (some ⟨gr, 0, none⟩) q capr ∧ OwnR wr b0 gr q capr (Gm.dl k) ∧ MatI wr w.heap.size b0 (some ⟨G, 0, none⟩) k cap A (fun _ => n) C (fun i j => ((Gm.dl i j : Nat) : Int)) ∧ Below w.heap.size w wr) (fun _ i _ => n - (intOf i).toNat)
      case atStart => exact ⟨0, _, _, Nat.zero_le _, rfl, rfl, KR.out, KM.out, KB.out⟩
      case round =>
        obtain ⟨q, gr, capr, hq, rfl, rfl, hown, hM, hbel⟩ := hrel
        clear KR KM KB
        have hgr := hown.lt.1
        have hsz := hbel.size
        have hglt := hown.lt.2
        by_cases hqn : q < n
        · have hqi : (q : Int) < (n : Int) := by omega
          obtain ⟨x, hx⟩ : ∃ x, Gm.dl k q = x := ⟨_, rfl⟩
          by_cases e : k = q
          · subst e
            have hxe : Gm.dl k k = 1 := Gm.dl_self k
            clear hx
            go_wp2_with (at_builtin; refine wpList_append_lies _ (by rfl) _ _ 40 (by rfl) b0 3 i0 (.int .i64 0) 1 8 Try.underlying40 hi hz0 hz1 hz2 rfl (by decide) (.slice (some ⟨gr, 0, none⟩) k capr) k _ (by rfl) (World.ownsRow.alloc hown _) ⟨wr.heap.size, 0, none⟩ 1 1 [.int .i64 1] (by rfl) (by rfl) (World.news_of_block (cs := #[.int .i64 1]) (t := 3) (fr := (0, 0)) (heap_alloc_new wr _)) (by simp [Value.oneCell']) (by omega) (by unfold maxLen; omega) (by omega) (by simp; omega) (wr.heap.size + 1) (by simp) ?_; intro g2 cap3 w2 hown2 hgrow hat hltg)
            have HO : Hid (OwnR w2 b0 g2 (k + 1) cap3 (Gm.dl k)) := OwnR.snoc (by rw [hxe]; exact hown2)
            have HM : Hid (MatI w2 w.heap.size b0 (some ⟨G, 0, none⟩) k cap A (fun _ => n) C (fun i j => ((Gm.dl i j : Nat) : Int))) := MatI.rowed _ hM hgr hgrow
            have hb' : Below w.heap.size w w2 := (hbel.alloc hsz _).grown (show World.grownBy _ w2 (some gr) from hgrow) (by simp; omega) (fun j hj => by cases hj; omega)
            clear hown2 hgrow hat hltg hown hM
            go_roundw
            case rel => exact ⟨k + 1, g2, cap3, by omega, by go_num, rfl, HO.out, HM.out, hb'⟩
            case measure => simp [intOf] <;> omega
          · have hxe : Gm.dl k q = 0 := Gm.dl_ne e
            have hee : ((k : Int) == (q : Int)) = false := by simp; omega
            clear hx
            go_wp2_with (at_builtin; refine wpList_append_lies _ (by rfl) _ _ 40 (by rfl) b0 3 i0 (.int .i64 0) 1 8 Try.underlying40 hi hz0 hz1 hz2 rfl (by decide) (.slice (some ⟨gr, 0, none⟩) q capr) q _ (by rfl) (World.ownsRow.alloc hown _) ⟨wr.heap.size, 0, none⟩ 1 1 [.int .i64 0] (by rfl) (by rfl) (World.news_of_block (cs := #[.int .i64 0]) (t := 3) (fr := (0, 0)) (heap_alloc_new wr _)) (by simp [Value.oneCell']) (by omega) (by unfold maxLen; omega) (by omega) (by simp; omega) (wr.heap.size + 1) (by simp) ?_; intro g2 cap3 w2 hown2 hgrow hat hltg)
            have HO : Hid (OwnR w2 b0 g2 (q + 1) cap3 (Gm.dl k)) := OwnR.snoc (by rw [hxe]; exact hown2)
            have HM : Hid (MatI w2 w.heap.size b0 (some ⟨G, 0, none⟩) k cap A (fun _ => n) C (fun i j => ((Gm.dl i j : Nat) : Int))) := MatI.rowed _ hM hgr hgrow
            have hb' : Below w.heap.size w w2 := (hbel.alloc hsz _).grown (show World.grownBy _ w2 (some gr) from hgrow) (by simp; omega) (fun j hj => by cases hj; omega)
            clear hown2 hgrow hat hltg hown hM
            go_roundw
            case rel => exact ⟨q + 1, g2, cap3, by omega, by go_num, rfl, HO.out, HM.out, hb'⟩
            case measure => simp [intOf] <;> omega
        · obtain rfl : q = n := by omega
          have hqi : ¬ (q : Int) < (q : Int) := by omega
          go_wp2_with (at_builtin; refine wpList_append_lies _ (by rfl) _ _ 109 (by rfl) w.heap.size 40 i1 (.slice none 0 0) 1 24 Try.underlying109 hj hy0 hy1 hy2 rfl (by decide) (.slice (some ⟨G, 0, none⟩) k cap) k _ (by rfl) (World.ownsRow.alloc hM.out _) ⟨wr.heap.size, 0, none⟩ 1 1 [.slice (some ⟨gr, 0, none⟩) q capr] (by rfl) (by rfl) (World.news_of_block (cs := #[.slice (some ⟨gr, 0, none⟩) q capr]) (t := 40) (fr := (0, 0)) (heap_alloc_new wr _)) (by simp [Value.oneCell']) (by omega) (by unfold maxLen; omega) (by omega) (by simp; omega) (wr.heap.size + 1) (by simp) ?_; intro g2 cap3 w2 hown2 hgrow hat hltg)
          obtain ⟨A', C', hP⟩ := MatI.pushed _ hM hsz0 hown hgrow hown2
          have HP : Hid (MatI w2 w.heap.size w2.heap.size (some ⟨g2, 0, none⟩) (k + 1) cap3 A' (fun _ => q) C' (fun i j => ((Gm.dl i j : Nat) : Int))) := hP
          have hb' : Below w.heap.size w w2 := (hbel.alloc hsz _).grown (show World.grownBy _ w2 (some G) from hgrow) (by simp; omega) (fun j hj => by cases hj; exact hGl)
          clear hown2 hgrow hat hltg hown hM hP
          go_roundw
          case rel => exact ⟨k + 1, g2, cap3, A', C', by omega, by go_num, rfl, HP.out, hb'⟩
          case measure => simp [intOf] <;> omega
    · obtain rfl : k = n := by omega
      have KM : Hid _ := hM
      clear hM
      go_wp2
      go_ret
      exact ⟨G, cap, A, C, rfl, KM.out, hbel⟩
end Go.Proofs.Ytcnigfejpfcfaaa

/- The program's product of matrices. Conditions: at most 2^20 rows, at most 2^20 numbers a row. -/
namespace Go.Proofs.Ytcnigfejpfcfaaa
set_option maxRecDepth 2000
open Go.ChangeShapes Go.WideShapes Go.ChangeAt Go.RowKit

/-- The two go together. -/
def MulOk (n : Nat) (L : Nat → Nat) (Z : Nat → Nat → Int) (n' : Nat) (L' : Nat → Nat) (Z' : Nat → Nat → Int) : Prop := OkM n L Z ∧ OkM n' L' Z' ∧ L 0 = n'
noncomputable def muOk (n : Nat) (L : Nat → Nat) (Z : Nat → Nat → Int) (n' : Nat) (L' : Nat → Nat) (Z' : Nat → Nat → Int) : Bool := @decide (MulOk n L Z n' L' Z') (Classical.propDecidable _)
theorem muOk_yes {n : Nat} {L : Nat → Nat} {Z : Nat → Nat → Int} {n' : Nat} {L' : Nat → Nat} {Z' : Nat → Nat → Int} (h : MulOk n L Z n' L' Z') : muOk n L Z n' L' Z' = true := by unfold muOk; exact @decide_eq_true _ (Classical.propDecidable _) h
theorem muOk_no {n : Nat} {L : Nat → Nat} {Z : Nat → Nat → Int} {n' : Nat} {L' : Nat → Nat} {Z' : Nat → Nat → Int} (h : ¬ MulOk n L Z n' L' Z') : muOk n L Z n' L' Z' = false := by unfold muOk; exact @decide_eq_false _ (Classical.propDecidable _) h
noncomputable def muR (n : Nat) (L : Nat → Nat) (Z : Nat → Nat → Int) (n' : Nat) (L' : Nat → Nat) (Z' : Nat → Nat → Int) : Nat := if muOk n L Z n' L' Z' = true then n else 0
end Go.Proofs.Ytcnigfejpfcfaaa

/- The model's functions that build a matrix row by row: the unit, a spread, turned, a product. Conditions: at most 2^20 rows, at most 2^20 numbers a row. Written by mkspec.py. -/
namespace Go.Proofs.Ytcnigfejpfcfaaa
set_option maxRecDepth 2000
open Go.ChangeShapes Go.WideShapes Go.ChangeAt Go.RowKit

theorem side_inB (n : Int) : inB n 1 16 = side n := rfl
theorem invM {x : Nat} (h : x < 256) (h0 : x ≠ 0) : invI (x : Int) = ((Gf.inv x : Nat) : Int) := by
  unfold invI
  rw [if_pos (by omega)]
  simp

set_option maxHeartbeats 2000000 in
theorem sSpread_any (k n : Int) (w : World) : Calls Try.prog 85 #[.int .i64 k, .int .i64 n] w fun e w' => ∃ v, e = .returned (.tuple #[v, .bool (sprOk k n)]) ∧ ResM w w' v (sprR k n) k.toNat (Gm.sprd k.toNat) ∧ Below w.heap.size w w' := by
  obtain ⟨i0, hi, hz0, hz1, hz2⟩ := info_parts Try.infoInt
  obtain ⟨i1, hj, hy0, hy1, hy2⟩ := info_parts Try.infoInts
  have hin := side_inB n
  by_cases h1 : side n = true
  case neg =>
    have h1' : side n = false := by simpa using h1
    have hok : sprOk k n = false := by unfold sprOk; simp [h1']
    have hN : sprR k n = 0 := by unfold sprR; rw [if_neg (by rw [hok]; simp)]
    rw [hN, hok]
    rw [h1'] at hin
    clear hok hN hi hz0 hz1 hz2 hj hy0 hy1 hy2
    go_enter Try.func85, Try.ntmps85
    go_wp2_with (go_at_call 26; refine (sIn_any _ _ _ _).mono ?_; rintro e w' ⟨rfl, hw⟩; obtain rfl := hw.symm)
    go_ret2
    exact ⟨_, rfl, resLit0 _ _ (Nat.le_refl _) _ _, (Below.refl _ _).alloc (Nat.le_refl _) _⟩
  rw [h1] at hin
  by_cases h2 : 1 ≤ k ∧ k ≤ n
  case neg =>
    have hok : sprOk k n = false := by unfold sprOk; simp [h2]
    have hN : sprR k n = 0 := by unfold sprR; rw [if_neg (by rw [hok]; simp)]
    have hin2 : inB k 1 n = false := by unfold inB; simpa using h2
    rw [hN, hok]
    clear hok hN h2 hi hz0 hz1 hz2 hj hy0 hy1 hy2
    go_enter Try.func85, Try.ntmps85
    go_wp2_with (go_at_call 26; refine (sIn_any _ _ _ _).mono ?_; rintro e w' ⟨rfl, hw⟩; obtain rfl := hw.symm)
    go_ret2
    exact ⟨_, rfl, resLit0 _ _ (Nat.le_refl _) _ _, (Below.refl _ _).alloc (Nat.le_refl _) _⟩
  have hr : 1 ≤ n ∧ n ≤ 16 := by simpa [side] using h1
  have hin2 : inB k 1 n = true := by unfold inB; simpa using h2
  have hok : sprOk k n = true := by unfold sprOk; rw [h1]; simp; omega
  obtain ⟨N, rfl⟩ : ∃ N : Nat, n = (N : Int) := ⟨n.toNat, by omega⟩
  obtain ⟨K, rfl⟩ : ∃ K : Nat, k = (K : Int) := ⟨k.toNat, by omega⟩
  have hN : sprR (K : Int) (N : Int) = N := by unfold sprR; rw [if_pos hok]; simp
  rw [hN, hok, Int.toNat_natCast]
  have hK1 : 1 ≤ K := by omega
  have hKN : K ≤ N := by omega
  have hN16 : N ≤ 16 := by omega
  clear hN hok hr h1 h2
  have KU : Hid _ := sUnit0_any K w (by omega)
  go_enter Try.func85, Try.ntmps85
  go_wp2_with (go_at_call 26; refine (sIn_any _ _ _ _).mono ?_; rintro e w' ⟨rfl, hw⟩; obtain rfl := hw.symm)
  refine Calls.mono KU.out ?_
  rintro e w1 ⟨G1, cap1, A1, C1, rfl, hM1, hb1⟩
  have H0 : Hid (MatI w1 w.heap.size w1.heap.size (some ⟨G1, 0, none⟩) K cap1 A1 (fun _ => K) C1 (fun i j => ((Gm.sprd K i j : Nat) : Int))) := hM1.congr (fun i hi => ⟨rfl, rfl, rfl, fun j _ => by unfold Gm.sprd; rw [if_pos hi]⟩)
  clear hM1 KU hin hin2
  go_wp2
  go_loopw [6, 7] (fun v i wr => ∃ k G cap A C, K ≤ k ∧ k ≤ N ∧ i = .int .i64 ((k : Nat) : Int) ∧ v = .slice (some ⟨G, 0, none⟩) k cap ∧ MatI wr w.heap.size wr.heap.size (some ⟨G, 0, none⟩) k cap A (fun _ => K) C (fun i j => ((Gm.sprd K i j : Nat) : Int)) ∧ Below w.heap.size w wr) (fun _ i _ => N - (intOf i).toNat)
  case atStart => exact ⟨K, G1, cap1, A1, C1, Nat.le_refl _, hKN, rfl, rfl, H0.out, hb1⟩
  case round =>
    obtain ⟨k, G, cap, A, C, hk0, hk, rfl, rfl, hM, hbel⟩ := hrel
    clear H0
    by_cases hlt : k < N
    · have hki : (k : Int) < (N : Int) := by omega
      have hsz0 := hbel.size
      have KR : Hid (OwnR (wr.alloc (.cells #[] 3)) wr.heap.size wr.heap.size 0 0 (Gm.sprd K k)) := lit0 wr (Gm.sprd K k)
      have KM : Hid (MatI (wr.alloc (.cells #[] 3)) w.heap.size wr.heap.size (some ⟨G, 0, none⟩) k cap A (fun _ => K) C (fun i j => ((Gm.sprd K i j : Nat) : Int))) := hM.below ((Below.refl _ _).alloc (Nat.le_refl _) _)
      have KB : Hid (Below w.heap.size w (wr.alloc (.cells #[] 3))) := hbel.alloc hsz0 _
      have hGl := hM.olt.1

      clear hM hbel
      obtain ⟨b0, hb0⟩ : ∃ b0, wr.heap.size = b0 := ⟨_, rfl⟩
      rw [hb0] at KR KM hsz0
      go_wp2
      clear hb0
      go_loopw [8, 9] (fun v i wr => ∃ q gr capr, q ≤ K ∧ i = .int .i64 ((q : Nat) : Int) ∧ v = .slice (some ⟨gr, 0, none⟩) q capr ∧ OwnR wr b0 gr q capr (Gm.sprd K k) ∧ MatI wr w.heap.size b0 (some ⟨G, 0, none⟩) k cap A (fun _ => K) C (fun i j => ((Gm.sprd K i j : Nat) : Int)) ∧ Below w.heap.size w wr) (fun _ i _ => K - (intOf i).toNat)
      case atStart => exact ⟨0, _, _, Nat.zero_le _, rfl, rfl, KR.out, KM.out, KB.out⟩
      case round =>
        obtain ⟨q, gr, capr, hq, rfl, rfl, hown, hM, hbel⟩ := hrel
        clear KR KM KB
        have hgr := hown.lt.1
        have hsz := hbel.size
        have hglt := hown.lt.2
        by_cases hqn : q < K
        · have hqi : (q : Int) < (K : Int) := by omega
          have hxr := xor_i64 k q (by omega) (by omega)
          have hx0 : k ^^^ q ≠ 0 := fun e => by have := Gp.xor_eq e; omega
          have hxl : k ^^^ q < 256 := Gf.xor_lt (by omega) (by omega)
          have HV : Hid (Gm.sprd K k q = Gf.inv (k ^^^ q)) := by show _ = _; unfold Gm.sprd; rw [if_neg (by omega)]
          have hiv := invM hxl hx0
          have hS := fun w => sInv_any ((k ^^^ q : Nat) : Int) w
          rw [hiv] at hS
          generalize Gf.inv (k ^^^ q) = V at HV hS
          clear hiv hx0
          go_wp2_with (first | (go_at_call 104; refine (hS _).mono ?_; rintro e w' ⟨rfl, hw⟩; obtain rfl := hw.symm) | (at_builtin; refine wpList_append_lies _ (by rfl) _ _ 40 (by rfl) b0 3 i0 (.int .i64 0) 1 8 Try.underlying40 hi hz0 hz1 hz2 rfl (by decide) (.slice (some ⟨gr, 0, none⟩) q capr) q _ (by rfl) (World.ownsRow.alloc hown _) ⟨wr.heap.size, 0, none⟩ 1 1 [.int .i64 (V : Int)] (by rfl) (by rfl) (World.news_of_block (cs := #[.int .i64 (V : Int)]) (t := 3) (fr := (0, 0)) (heap_alloc_new wr _)) (by simp [Value.oneCell']) (by omega) (by unfold maxLen; omega) (by omega) (by simp; omega) (wr.heap.size + 1) (by simp) ?_; intro g2 cap3 w2 hown2 hgrow hat hltg))
          have HO : Hid (OwnR w2 b0 g2 (q + 1) cap3 (Gm.sprd K k)) := OwnR.snoc (by rw [HV.out]; exact hown2)
          have HM : Hid (MatI w2 w.heap.size b0 (some ⟨G, 0, none⟩) k cap A (fun _ => K) C (fun i j => ((Gm.sprd K i j : Nat) : Int))) := MatI.rowed _ hM hgr hgrow
          have hb' : Below w.heap.size w w2 := (hbel.alloc hsz _).grown (show World.grownBy _ w2 (some gr) from hgrow) (by simp; omega) (fun j hj => by cases hj; omega)
          clear hown2 hgrow hat hltg hown hM
          go_roundw
          case rel => exact ⟨q + 1, g2, cap3, by omega, by go_num, rfl, HO.out, HM.out, hb'⟩
          case measure => simp [intOf] <;> omega
        · obtain rfl : K = q := by omega
          have hqi : ¬ (K : Int) < (K : Int) := by omega

          go_wp2_with (at_builtin; refine wpList_append_lies _ (by rfl) _ _ 109 (by rfl) w.heap.size 40 i1 (.slice none 0 0) 1 24 Try.underlying109 hj hy0 hy1 hy2 rfl (by decide) (.slice (some ⟨G, 0, none⟩) k cap) k _ (by rfl) (World.ownsRow.alloc hM.out _) ⟨wr.heap.size, 0, none⟩ 1 1 [.slice (some ⟨gr, 0, none⟩) K capr] (by rfl) (by rfl) (World.news_of_block (cs := #[.slice (some ⟨gr, 0, none⟩) K capr]) (t := 40) (fr := (0, 0)) (heap_alloc_new wr _)) (by simp [Value.oneCell']) (by omega) (by unfold maxLen; omega) (by omega) (by simp; omega) (wr.heap.size + 1) (by simp) ?_; intro g2 cap3 w2 hown2 hgrow hat hltg)
          obtain ⟨A', C', hP⟩ := MatI.pushed _ hM hsz0 hown hgrow hown2
          have HP : Hid (MatI w2 w.heap.size w2.heap.size (some ⟨g2, 0, none⟩) (k + 1) cap3 A' (fun _ => K) C' (fun i j => ((Gm.sprd K i j : Nat) : Int))) := hP
          have hb' : Below w.heap.size w w2 := (hbel.alloc hsz _).grown (show World.grownBy _ w2 (some G) from hgrow) (by simp; omega) (fun j hj => by cases hj; exact hGl)
          clear hown2 hgrow hat hltg hown hM hP
          go_roundw
          case rel => exact ⟨k + 1, g2, cap3, A', C', by omega, by omega, by go_num, rfl, HP.out, hb'⟩
          case measure => simp [intOf] <;> omega
    · obtain rfl : k = N := by omega
      have KM : Hid _ := hM
      clear hM

      go_wp2
      go_ret2
      exact ⟨_, rfl, ResM.mk KM.out (Nat.le_refl _), hbel⟩

end Go.Proofs.Ytcnigfejpfcfaaa

/- What the model makes of a text. Condition: a text of at most 2^20 bytes. -/
namespace Go.Proofs.Ytcnigfejpfcfaaa
set_option maxRecDepth 2000
open Go.ChangeShapes Go.WideShapes Go.ChangeAt Go.RowKit

theorem eI_snocB (f : Nat → Nat) (k : Nat) : (eI f (k + 1)).map (Value.int .u8) = (eI f k).map (Value.int .u8) ++ [.int .u8 ((f k : Nat) : Int)] := by
  rw [eI_snoc, List.map_append]
  rfl
theorem frm_head (s : ByteArray) (n x y : Nat) (hn : s.size = n) (hx : n / 256 = x) (hy : n % 256 = y) : [Value.int .u8 (x : Int), Value.int .u8 (y : Int)] ++ (eI (tat s) n).map (Value.int .u8) = (eI (frm s) (2 + n)).map (Value.int .u8) := by
  apply List.ext_getElem?
  intro i
  by_cases h : i < 2 + n
  · rw [List.getElem?_map, eI_get _ _ _ h]
    match i, h with
    | 0, _ => simp [frm, hn, hx]
    | 1, _ => simp [frm, hn, hy]
    | j + 2, h =>
      have hj : j < n := by omega
      rw [List.getElem?_append_right (by simp)]
      simp [eI, hj, frm]
  · rw [List.getElem?_eq_none (by simp [eI_len]; omega), List.getElem?_eq_none (by simp [eI_len]; omega)]
theorem news_bytes {w : World} (s : ByteArray) (cap : Nat) (fr : Nat × Nat) : ∀ j u, ((eI (tat s) s.size).map (Value.int .u8))[j]? = some u → (w.alloc (.cells (bytesRow s cap) 5 fr)).cell? ((⟨w.heap.size, 0, none⟩ : Addr).add j) = some u := fun j u hu => by
  have hj : j < s.size := by
    by_cases hh : j < s.size
    · exact hh
    · rw [List.getElem?_eq_none (by simp [eI_len]; omega)] at hu; cases hu
  have ea : (⟨w.heap.size, 0, none⟩ : Addr).add j = ⟨w.heap.size, j, none⟩ := by unfold Addr.add; split <;> simp_all
  rw [ea, World.cell?_alloc_mark, bytesRow_at s cap j hj, ← hu]
  rw [List.getElem?_map, eI_get _ _ _ hj]
  have : tat s j = s.data[j].toNat := tat_in s j hj
  simp [this]
theorem one_u8 (f : Nat → Nat) (n : Nat) : ∀ u ∈ (eI f n).map (Value.int .u8), u.oneCell' = true := by
  intro u hu
  simp at hu
  obtain ⟨y, _, rfl⟩ := hu
  rfl
set_option maxRecDepth 100000 in
set_option maxHeartbeats 4000000 in
theorem sEncode_any (s : ByteArray) (k n : Int) (w : World) (hs : s.size ≤ 1048576) :
    Calls Try.prog 70 #[.string s, .int .i64 k, .int .i64 n] w fun e w' => ∃ v, e = .returned (.tuple #[v, .bool (encOk s k n)]) ∧ ResT w w' v (encR s k n) (encS s k.toNat) ∧ Below w.heap.size w w' := by
  obtain ⟨i0, hi, hz0, hz1, hz2⟩ := info_parts Try.infoByte
  obtain ⟨i1, hj, hy0, hy1, hy2⟩ := info_parts Try.infoStr
  obtain ⟨sz, hsz⟩ : ∃ sz, s.size = sz := ⟨_, rfl⟩
  by_cases hs2 : sz ≤ 2000
  case neg =>
    have he : encOk s k n = false := by unfold encOk; simp; omega
    have hr : encR s k n = 0 := by unfold encR; rw [if_neg (by rw [he]; simp)]
    rw [he, hr]
    have h1 : (sz : Int) > 2000 := by omega
    clear he hr
    go_enter Try.func70, Try.ntmps70
    go_wp2
    go_ret2
    exact ⟨_, rfl, ⟨_, _, rfl, litT _ _⟩, (Below.refl _ _).alloc (Nat.le_refl _) _⟩
  have hs2i : ¬ (sz : Int) > 2000 := by omega
  by_cases hok : sprOk k n = true
  case neg =>
    have hok' : sprOk k n = false := by simpa using hok
    have he : encOk s k n = false := by unfold encOk; rw [hok']; simp
    have hr : encR s k n = 0 := by unfold encR; rw [if_neg (by rw [he]; simp)]
    rw [he, hr]
    clear he hr hok
    go_enter Try.func70, Try.ntmps70
    go_wp2_with (go_at_call 78; refine (s4Ok_any _ _ _).mono ?_; rintro e w' ⟨rfl, hw⟩; obtain rfl := hw.symm)
    go_ret2
    exact ⟨_, rfl, ⟨_, _, rfl, litT _ _⟩, (Below.refl _ _).alloc (Nat.le_refl _) _⟩
  obtain ⟨h1, h2, h3⟩ := sprOk_parts hok
  obtain ⟨K, rfl⟩ := Int.eq_ofNat_of_zero_le (show 0 ≤ k by omega)
  obtain ⟨M, rfl⟩ := Int.eq_ofNat_of_zero_le (show 0 ≤ n by omega)
  have hR : sprR (K : Int) (M : Int) = M := by unfold sprR; rw [if_pos hok]; simp
  have KSP : Hid (∀ w, Calls Try.prog 85 #[.int .i64 (K : Int), .int .i64 (M : Int)] w fun e w' => ∃ v, e = .returned (.tuple #[v, .bool true]) ∧ ResM w w' v M K (Gm.sprd K) ∧ Below w.heap.size w w') := fun w => by
    have := sSpread_any (K : Int) (M : Int) w
    rw [hok, hR, Int.toNat_natCast] at this
    exact this
  have he : encOk s (K : Int) (M : Int) = true := by unfold encOk; rw [hok]; simp; omega
  have hr : encR s (K : Int) (M : Int) = M := by unfold encR; rw [if_pos he]; simp
  rw [he, hr, Int.toNat_natCast]
  have hK1 : 1 ≤ K := by omega
  have hK16 : K ≤ 16 := by omega
  have hB := fun w => sBodyLen_any (sz : Int) (K : Int) w
  rw [blI_yes hs2 hK1 hK16] at hB
  have hbg := blen_ge (s := sz) hK1
  have hbp := blen_pos (s := sz) hK1
  have hble := blen_le (s := sz) hK1
  have KEN : Hid (encS s K = bod K (Gm.sprd K) (pcs (frm s) (blen sz K)) (blen sz K)) := by show _ = _; unfold encS; rw [hsz]; unfold enc; rw [hsz]
  obtain ⟨l, hl⟩ : ∃ l, blen sz K = l := ⟨_, rfl⟩
  rw [hl] at hB hbg hbp hble KEN
  obtain ⟨NN, hNN⟩ : ∃ NN, K * l = NN := ⟨_, rfl⟩
  have hNb : NN ≤ 100000 := by rw [← hNN]; exact Nat.le_trans (Nat.mul_le_mul hK16 hble) (by omega)
  rw [hNN] at hbg
  have hm : (K : Int) * (l : Int) = (NN : Int) := by rw [← hNN, Int.natCast_mul]
  have hwm : IntKind.i64.wrap ((K : Int) * (l : Int)) = (NN : Int) := by rw [hm, IntKind.wrap_i64]; omega
  have KNN : Hid (NN = K * l) := hNN.symm
  have hFl : ∀ q, frm s q < 256 := fun q => frm_lt (by omega) _
  obtain ⟨x, hx⟩ : ∃ x, sz / 256 = x := ⟨_, rfl⟩
  obtain ⟨y, hy⟩ : ∃ y, sz % 256 = y := ⟨_, rfl⟩
  have KHD : Hid ([Value.int .u8 (x : Int), Value.int .u8 (y : Int)] ++ (eI (tat s) sz).map (Value.int .u8) = (eI (frm s) (2 + sz)).map (Value.int .u8)) := frm_head s sz x y hsz hx hy
  have e1 : IntKind.u8.wrap ((sz : Int) / 256) = (x : Int) := by rw [IntKind.wrap_u8]; omega
  have e2 : IntKind.u8.wrap ((sz : Int) % 256) = (y : Int) := by rw [IntKind.wrap_u8]; omega
  have e3 : Int.tdiv (sz : Int) 256 = (sz : Int) / 256 := by rw [Int.tdiv_eq_ediv_of_nonneg (by omega)]
  have e4 : Int.tmod (sz : Int) 256 = (sz : Int) % 256 := by rw [Int.tmod_eq_emod_of_nonneg (by omega)]
  have hcvt := fun w s => run_bytes_of_string (P := Try.prog) w 9 103 5 s Try.underlying9 Try.underlying103 Try.underlying5
  have KNB : Hid (∀ (cap : Nat) (fr : Nat × Nat) (j : Nat) (u : Value), ((eI (tat s) sz).map (Value.int .u8))[j]? = some u → (((w.alloc (.cells #[.int .u8 (x : Int), .int .u8 (y : Int)] 5)).alloc (.cells (bytesRow s cap) 5 fr)).drew).cell? ((⟨w.heap.size + 1, 0, none⟩ : Addr).add j) = some u) := fun cap fr j u hu => by
    have h1 := news_bytes (w := w.alloc (.cells #[.int .u8 (x : Int), .int .u8 (y : Int)] 5)) s cap fr j u (by rw [hsz]; exact hu)
    have e : (w.alloc (.cells #[.int .u8 (x : Int), .int .u8 (y : Int)] 5)).heap.size = w.heap.size + 1 := by simp
    rw [e] at h1
    exact h1
  have KO1 : Hid ((w.alloc (.cells #[.int .u8 (x : Int), .int .u8 (y : Int)] 5)).ownsRow w.heap.size 5 1 (.slice (some ⟨w.heap.size, 0, none⟩) 2 2) 2 [Value.int .u8 (x : Int), Value.int .u8 (y : Int)]) := World.ownsRow_lit w #[.int .u8 (x : Int), .int .u8 (y : Int)] 2 (Nat.le_refl _) (by unfold maxLen; omega) rfl
  have hlen : ((eI (tat s) sz).map (Value.int .u8)).length = sz * 1 := by simp [eI_len]
  have KONE : Hid _ := one_u8 (tat s) sz
  clear he hr hl hNN hR hm hx hy
  go_enter Try.func70, Try.ntmps70
  go_wp2_with (first | (go_at_call 78; refine (s4Ok_any _ _ _).mono ?_; rintro e w' ⟨rfl, hw⟩; obtain rfl := hw.symm; clear hw) | (go_at_call 84; refine (hB _).mono ?_; rintro e w' ⟨rfl, hw⟩; obtain rfl := hw.symm; clear hw) | (at_builtin; (refine wpList_append_all _ (by rfl) _ _ 103 (by rfl) w.heap.size 5 i0 (.int .u8 0) 1 1 Try.underlying103 hi hz0 hz1 hz2 rfl (by decide) w.heap.size 2 2 _ (by rfl) ((World.ownsRow.alloc KO1.out _).drew) ⟨w.heap.size + 1, 0, none⟩ sz _ ((eI (tat s) sz).map (Value.int .u8)) (by rfl) hlen (KNB.out _ _) KONE.out (by unfold maxLen; omega) (by omega) (by simp; omega) ?_); intro g3 cap3 w3 hown3 hgrow3))
  have hb3 : Below w.heap.size w w3 := ((((Below.refl w.heap.size w).alloc (Nat.le_refl _) (.cells #[.int .u8 (x : Int), .int .u8 (y : Int)] 5)).alloc (by simp) _).drew).grown hgrow3 (by simp; omega) (fun j hj => by cases hj; exact Nat.le_refl _)
  have K3 : Hid (OwnB w3 w.heap.size g3 (2 + sz) cap3 (frm s)) := by
    show OwnB _ _ _ _ _ _
    unfold OwnB
    rw [← KHD.out]
    exact hown3
  have KB3 : Hid (Below w.heap.size w w3) := hb3
  clear hown3 hgrow3 hb3 KNB KO1 KONE hlen e1 e2 e3 e4 KHD hcvt hB
  go_loopw [9] (fun v wr => ∃ m g c : Nat, 2 + sz ≤ m ∧ m ≤ NN ∧ v = .slice (some ⟨g, 0, none⟩) m c ∧ OwnB wr w.heap.size g m c (frm s) ∧ Below w.heap.size w wr) (fun v _ => NN - lenV v)
  case atStart => exact ⟨2 + sz, g3, cap3, Nat.le_refl _, by omega, rfl, K3.out, KB3.out⟩
  case round =>
    obtain ⟨m, g, c, hm1, hm2, rfl, hown, hbel⟩ := hrel
    clear K3 KB3
    by_cases hlt : m < NN
    · have hmi : (m : Int) < (NN : Int) := by omega
      have hsz1 := hbel.size
      have hgl := hown.lt.1
      have KF0 : Hid (frm s m = 0) := frm_out (by omega)
      go_wp2_with (at_builtin; refine wpList_append_lies _ (by rfl) _ _ 103 (by rfl) w.heap.size 5 i0 (.int .u8 0) 1 1 Try.underlying103 hi hz0 hz1 hz2 rfl (by decide) (.slice (some ⟨g, 0, none⟩) m c) m _ (by rfl) (World.ownsRow.alloc hown _) ⟨wr.heap.size, 0, none⟩ 1 1 [.int .u8 0] (by rfl) (by rfl) (World.news_of_block (cs := #[.int .u8 0]) (t := 5) (fr := (0, 0)) (heap_alloc_new wr _)) (by simp [Value.oneCell']) (by omega) (by unfold maxLen; omega) (by omega) (by simp; omega) (wr.heap.size + 1) (by simp) ?_; intro g4 cap4 w4 hown4 hgrow4 hat4 hltg4)
      have HO : Hid (OwnB w4 w.heap.size g4 (m + 1) cap4 (frm s)) := by
        show OwnB _ _ _ _ _ _
        unfold OwnB
        rw [eI_snocB, KF0.out]
        exact hown4
      have hb' : Below w.heap.size w w4 := (hbel.alloc hsz1 _).grown (show World.grownBy _ w4 (some g) from hgrow4) (by simp; omega) (fun j hj => by cases hj; exact hgl)
      clear hown4 hgrow4 hat4 hltg4 hown
      go_roundw
      case rel => exact ⟨m + 1, g4, cap4, by omega, by omega, rfl, HO.out, hb'⟩
      case measure => simp [lenV] <;> omega
    · obtain rfl : NN = m := by omega
      have hmi : ¬ (NN : Int) < (NN : Int) := by omega
      have KA : Hid (∀ q, q < NN → wr.cell? ⟨g, q, none⟩ = some (.int .u8 ((frm s q : Nat) : Int))) := fun q hq => hown.cell hq
      have hcap : NN ≤ c := owns_cap hown
      have hszr := hbel.size
      have KBr : Hid (Below w.heap.size w wr) := hbel
      obtain ⟨wA, hwA⟩ : ∃ wA, wr = wA := ⟨_, rfl⟩
      rw [hwA] at KA KBr hszr
      have K0 : Hid (OwnT (wA.alloc (.cells #[] 9)) wA.heap.size (some ⟨wA.heap.size, 0, none⟩) 0 0 (fun j => txt (pcs (frm s) l j) l)) := litT wA _
      clear hown hbel
      go_wp2
      clear hwA
      go_loopw [10, 11] (fun v i wr => ∃ j a G c2 : Nat, j ≤ K ∧ Hid (a = j * l) ∧ i = .int .i64 (j : Int) ∧ v = .slice (some ⟨G, 0, none⟩) j c2 ∧ OwnT wr wA.heap.size (some ⟨G, 0, none⟩) j c2 (fun j => txt (pcs (frm s) l j) l) ∧ Below wA.heap.size wA wr) (fun _ i _ => K - (intOf i).toNat)
      case atStart => exact ⟨0, 0, _, _, Nat.zero_le _, by show 0 = 0 * l; omega, rfl, rfl, K0.out, (Below.refl _ _).alloc (Nat.le_refl _) _⟩
      case round =>
        obtain ⟨j, a, G, c2, hjK, HA, rfl, rfl, hown, hbel⟩ := hrel
        clear K0
        by_cases hjl : j < K
        · have hji : (j : Int) < (K : Int) := by omega
          have hsz1 := hbel.size
          have hgl := (World.ownsRow.lt hown _ rfl).1
          have hal : a + l ≤ NN := by
            rw [HA.out, KNN.out]
            have : (j + 1) * l ≤ K * l := Nat.mul_le_mul_right _ hjl
            rw [Nat.succ_mul] at this
            omega
          have hj1 : (j : Int) * (l : Int) = (a : Int) := by rw [HA.out, Int.natCast_mul]
          have hj2 : ((j : Int) + 1) * (l : Int) = (a : Int) + (l : Int) := by rw [Int.add_mul, hj1, Int.one_mul]
          have hw1 : IntKind.i64.wrap ((j : Int) * (l : Int)) = (a : Int) := by rw [hj1, IntKind.wrap_i64]; omega
          have hw2 : IntKind.i64.wrap (((j : Int) + 1) * (l : Int)) = (a : Int) + (l : Int) := by rw [hj2, IntKind.wrap_i64]; omega
          have h1' : (0 : Int) ≤ (a : Int) := by omega
          have h2' : (a : Int) ≤ (a : Int) + (l : Int) := by omega
          have h3' : (a : Int) + (l : Int) ≤ (c : Int) := by omega
          have h4' : a + l - a = l := by omega
          have h5' : ¬ (c = a) := by omega
          have hcell : ∀ p, p < l → wr.cell? ⟨g, a + p, none⟩ = some (.int .u8 ((eI (pcs (frm s) l j) l).getD p 0)) := fun p hp => by
            have h0 := KA.out (a + p) (by omega)
            rw [(hbel.cell (p := ⟨g, a + p, none⟩) (block_lt_of_cell h0)).trans h0, eI_getD _ _ _ hp]
            unfold pcs
            rw [HA.out]
          have hcv := run_convert_bytes_arg (P := Try.prog) wr 103 5 Try.underlying103 Try.underlying5 g a l (c - a) (eI (pcs (frm s) l j) l) (eI_len _ _) hcell 9 Try.underlying9
          rw [show strOfNums (eI (pcs (frm s) l j) l) = txt (pcs (frm s) l j) l from rfl] at hcv
          obtain ⟨sv, hsv⟩ : ∃ sv, txt (pcs (frm s) l j) l = sv := ⟨_, rfl⟩
          rw [hsv] at hcv
          have KSV : Hid (txt (pcs (frm s) l j) l = sv) := hsv
          have HA2 : Hid (a + l = (j + 1) * l) := by show _ = _; rw [HA.out, Nat.succ_mul]
          clear hcell hsv hj1 hj2
          go_wp2_with (at_builtin; refine wpList_append_lies _ (by rfl) _ _ 37 (by rfl) wA.heap.size 9 i1 (.string ByteArray.empty) 1 16 Try.underlying37 hj hy0 hy1 hy2 rfl (by decide) (.slice (some ⟨G, 0, none⟩) j c2) j _ (by rfl) (World.ownsRow.alloc hown _) ⟨wr.heap.size, 0, none⟩ 1 1 [.string sv] (by rfl) (by rfl) (World.news_of_block (cs := #[.string sv]) (t := 9) (fr := (0, 0)) (heap_alloc_new wr _)) (by simp [Value.oneCell']) (by omega) (by unfold maxLen; omega) (by omega) (by simp; omega) (wr.heap.size + 1) (by simp) ?_; intro g2 cap2 w2 hown2 hgrow hat hltg)
          have HO : Hid (OwnT w2 wA.heap.size (some ⟨g2, 0, none⟩) (j + 1) cap2 (fun j => txt (pcs (frm s) l j) l)) := by
            show OwnT _ _ _ _ _ _
            unfold OwnT
            rw [sL_snoc, KSV.out]
            exact hown2
          have hb' : Below wA.heap.size wA w2 := (hbel.alloc hsz1 _).grown (show World.grownBy _ w2 (some G) from hgrow) (by simp; omega) (fun j hj => by cases hj; exact hgl)
          clear hown2 hgrow hat hltg hown
          go_roundw
          case rel => exact ⟨j + 1, a + l, g2, cap2, by omega, HA2, by go_num, rfl, HO.out, hb'⟩
          case measure => simp [intOf] <;> omega
        · obtain rfl : K = j := by omega
          have hji : ¬ (K : Int) < (K : Int) := by omega
          have KT : Hid (TxtAt wr (some ⟨G, 0, none⟩) K (fun j => txt (pcs (frm s) l j) l)) := OwnT.at hown
          have hsz1 := hbel.size
          clear hown
          go_wp2_with fail
          refine Calls.mono (KSP.out _) ?_
          rintro e w5 ⟨v, rfl, hRM, hb5⟩
          obtain ⟨am, cm, Am, Cm, rfl, hMM⟩ := hRM
          have KMA : Hid (MatAt w5 am M (fun _ => K) (fun i j => ((Gm.sprd K i j : Nat) : Int))) := hMM.at
          have KT5 : Hid (TxtAt w5 (some ⟨G, 0, none⟩) K (fun j => txt (pcs (frm s) l j) l)) := KT.out.below hb5
          have hs5 := hb5.size
          clear hMM KT
          go_wp2_with fail
          refine Calls.mono (sRows_any am cm M (Gm.sprd K) (some ⟨G, 0, none⟩) c2 K l (fun j => txt (pcs (frm s) l j) l) w5 KMA.out KT5.out (fun _ _ => txt_size _ _) (by omega) ⟨hK1, hK16⟩ (by omega) (Gm.sprd_byt K)) ?_
          rintro e w6 ⟨G6, c6, rfl, hO6, hb6⟩
          have HO : Hid (ResT w w6 (.slice (some ⟨G6, 0, none⟩) M c6) M (encS s K)) := ⟨_, _, rfl, by
            rw [KEN.out]
            exact OwnT.congr (OwnT.base hO6 (by omega)) (fun i _ => bod_congr (fun _ _ => rfl) (fun t p _ hp => tat_txt hp (hFl _)))⟩
          clear hO6 KMA KT5
          go_wp2
          go_ret2
          exact ⟨_, rfl, HO.out, below2 (below2 (below2 KBr.out hbel) hb5) hb6⟩
end Go.Proofs.Ytcnigfejpfcfaaa
