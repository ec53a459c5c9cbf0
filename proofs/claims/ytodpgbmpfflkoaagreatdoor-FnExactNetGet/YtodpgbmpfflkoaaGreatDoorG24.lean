/- Matrices in memory, the second part: a row that has grown is put in its place again. Lemmas alone; conditions stand at each. -/
import Derived.Test.YtodpgbmpfflkoaaGreatDoorG18
import Derived.Test.YtodpgbmpfflkoaaGreatDoorG17
import Derived.Test.YtodpgbmpfflkoaaGreatDoorG13
import Derived.Test.YtodpgbmpfflkoaaGreatDoorG15
import Derived.Deep.RegionLaw
namespace Go.Proofs.YtodpgbmpfflkoaaGreatDoor
set_option maxRecDepth 2000
open Go.ChangeShapes Go.WideShapes Go.ChangeAt Go.RowKit
section
variable {k : IntKind} {T TT : Nat} {w w' : World} {B E : Nat} {n cap : Nat} {A : Nat → Option Addr} {L C : Nat → Nat} {Z : Nat → Nat → Int}
theorem MatZ.grew (hT : T ≠ TT) {G g0 g i l c E' : Nat} {z : Nat → Int} (h : MatZ k T TT w B E (some ⟨G, 0, none⟩) n cap A L C Z) (hi : i < n) (hA : A i = some ⟨g0, 0, none⟩) (hg : w.grownBy w' (some g0))
    (hrow : w'.ownsRow B T 1 (.slice (some ⟨g, 0, none⟩) l c) l ((zI z l).map (Value.int k))) (hat : g = g0 ∨ w.heap.size ≤ g) (hE : E ≤ E') (hE' : g < E') :
    w'.cell? ⟨G, i, none⟩ = some (.slice (A i) (L i) (C i)) ∧ w'.frozen? ⟨G, i, none⟩ = false ∧
    MatZ k T TT (w'.setCell ⟨G, i, none⟩ (.slice (some ⟨g, 0, none⟩) l c)) B E' (some ⟨G, 0, none⟩) n cap (fun j => if j = i then some ⟨g, 0, none⟩ else A j) (fun j => if j = i then l else L j) (fun j => if j = i then c else C j) (fun j => if j = i then z else Z j) ∧ w'.grownBy (w'.setCell ⟨G, i, none⟩ (.slice (some ⟨g, 0, none⟩) l c)) (some G) := by
  have hgs := grown_set w' G i (.slice (some ⟨g, 0, none⟩) l c)
  have ho := own_kept h.out hg (fun x e => by cases e; exact (h.off hT hi hA).symm)
  have hgG : g ≠ G := by
    intro e
    subst e
    rcases own_shape hrow with ⟨h', _⟩ | ⟨g1, c1, e1, _, hg1, _⟩
    · cases h'
    · rcases own_shape ho with ⟨h', _⟩ | ⟨g2, c2, e2, _, hg2, _⟩
      · cases h'
      · cases e1
        cases e2
        rw [hg1] at hg2
        cases hg2
        exact hT rfl
  refine ⟨?_, ho.frozenAt i, ⟨?_, fun x e => ?_, fun p hp => ?_, fun p hp x ex => ?_, fun p q hp hq hpq x y ex ey => ?_⟩, hgs⟩
  · rw [ho.cellAt i (by omega), hds_get _ _ _ _ _ hi]
  · have h1 := (ho.stored i (.slice (some ⟨g, 0, none⟩) l c)).1
    rw [hds_set] at h1
    exact h1
  · have := h.oE x e; omega
  · by_cases e : p = i
    · subst e
      simp only [if_pos]
      exact own_kept hrow hgs (fun x ex => by cases ex; exact hgG)
    · simp only [if_neg e]
      have h1 := own_kept (h.row p hp) hg (fun x ex => h.apart p i hp hi e x _ ex hA)
      refine own_kept h1 hgs (fun x ex => ?_)
      have hr := h.row p hp
      rw [ex] at hr
      rcases own_shape hr with ⟨h', _⟩ | ⟨g1, c1, e1, _⟩
      · cases h'
      · cases e1
        exact h.off hT hp ex
  · by_cases e : p = i
    · simp only [if_pos e] at ex; cases ex; exact hE'
    · simp only [if_neg e] at ex
      have := h.rE p hp x ex
      omega
  · have key : ∀ q, q < n → q ≠ i → ∀ y, A q = some y → y.block ≠ g := fun q hq hqi y ey => by
      rcases hat with rfl | hat
      · exact h.apart q i hq hi hqi y _ ey hA
      · have hr := h.row q hq
        rw [ey] at hr
        have := (hr.lt y.block rfl).2
        omega
    by_cases e : p = i
    · simp only [if_pos e] at ex
      cases ex
      simp only [if_neg (show q ≠ i by omega)] at ey
      exact (key q hq (by omega) y ey).symm
    · simp only [if_neg e] at ex
      by_cases e2 : q = i
      · simp only [if_pos e2] at ey
        cases ey
        exact key p hp e x ex
      · simp only [if_neg e2] at ey
        exact h.apart p q hp hq hpq x y ex ey
end
theorem news_below {w w' : World} {ad : Addr} {news : List Value} (h : ∀ j u, news[j]? = some u → w.cell? (ad.add j) = some u) (hb : Below w.heap.size w w') : ∀ j u, news[j]? = some u → w'.cell? (ad.add j) = some u := fun j u hu =>
  (hb.cell (p := ad.add j) (block_lt_of_cell (h j u hu))).trans (h j u hu)
theorem own_zI {w : World} {B T l : Nat} {v : Value} {xs : List Int} (h : w.ownsRow B T 1 v l (xs.map (Value.int .i64))) : w.ownsRow B T 1 v l ((zI (fun j => xs.getD j 0) l).map (Value.int .i64)) := by
  have hlen : xs.length = l := by simpa using h.1
  have e : zI (fun j => xs.getD j 0) l = xs := by rw [← hlen]; exact zI_of xs
  rw [e]
  exact h
end Go.Proofs.YtodpgbmpfflkoaaGreatDoor
/- The program's sums of a row: pieces, or texts, each times its number. Conditions: at most 16 parts, at most 2^20 bytes each. -/
namespace Go.Proofs.YtodpgbmpfflkoaaGreatDoor
set_option maxRecDepth 2000
open Go.ChangeShapes Go.WideShapes Go.ChangeAt Go.RowKit

/-- A row of bytes of ours. -/
def OwnB (w : World) (B g n cap : Nat) (f : Nat → Nat) : Prop := w.ownsRow B 5 1 (.slice (some ⟨g, 0, none⟩) n cap) n ((eI f n).map (Value.int .u8))
theorem OwnB.lt {w : World} {B g n cap : Nat} {f : Nat → Nat} (h : OwnB w B g n cap f) : B ≤ g ∧ g < w.heap.size := World.ownsRow.lt h g rfl
theorem OwnB.cell {w : World} {B g n cap i : Nat} {f : Nat → Nat} (h : OwnB w B g n cap f) (hi : i < n) : w.cell? ⟨g, i, none⟩ = some (.int .u8 ((f i : Nat) : Int)) := by
  rw [World.ownsRow.cellAt h i (by omega)]
  simp [eI, hi]
theorem OwnB.below {w w' : World} {B g n cap : Nat} {f : Nat → Nat} (h : OwnB w B g n cap f) (hb : Below w.heap.size w w') : OwnB w' B g n cap f := ownsRow_below h hb
theorem OwnB.congr {w : World} {B g n cap : Nat} {f h : Nat → Nat} (ho : OwnB w B g n cap f) (e : ∀ i, i < n → f i = h i) : OwnB w B g n cap h := by
  unfold OwnB at *
  rw [← eI_congr e]
  exact ho
theorem OwnB.set {w : World} {B g n cap k v : Nat} {f : Nat → Nat} (h : OwnB w B g n cap f) (hk : k < n) :
    OwnB (w.setCell ⟨g, k, none⟩ (.int .u8 (v : Int))) B g n cap (fun i => if i = k then v else f i) ∧ w.grownBy (w.setCell ⟨g, k, none⟩ (.int .u8 (v : Int))) (some g) := by
  have h1 := (World.ownsRow.stored h k (.int .u8 (v : Int))).1
  rw [eI_set f n k v .u8 hk] at h1
  exact ⟨h1, grown_set w g k _⟩
/-- What is summed of the first 'i' parts. -/
def rs (R : Nat → Nat) (T : Nat → Nat → Nat) (i p : Nat) : Nat := Gm.sm (fun t => Gp.m (R t) (T t p)) i
theorem rs_lt (R : Nat → Nat) (T : Nat → Nat → Nat) (i p : Nat) : rs R T i p < 256 := Gm.sm_lt (fun _ => Gp.m_lt _ _) _
theorem rs_step {R : Nat → Nat} {T : Nat → Nat → Nat} {i q : Nat} (hR : R i < 256) (hT : T i q < 256) (p : Nat) : (if p = q then rs R T i q ^^^ Gf.mul (T i q) (R i) else if p < q then rs R T (i + 1) p else rs R T i p) = if p < q + 1 then rs R T (i + 1) p else rs R T i p := by
  by_cases e : p = q
  · subst e
    rw [if_pos rfl, if_pos (by omega), Gp.m_nat hT hR, Gp.m_comm]
    rfl
  · rw [if_neg e]
    by_cases e2 : p < q
    · rw [if_pos e2, if_pos (by omega)]
    · rw [if_neg e2, if_neg (by omega)]
/-- Pieces that are read. -/
def PcsAt (w : World) (a : Option Addr) (n l : Nat) (T : Nat → Nat → Nat) : Prop :=
  ∀ i, i < n → ∃ b off g o c, a = some ⟨b, off, none⟩ ∧ w.cell? ⟨b, off + i, none⟩ = some (.slice (some ⟨g, o, none⟩) l c) ∧ ∀ p, p < l → w.cell? ⟨g, o + p, none⟩ = some (.int .u8 ((T i p : Nat) : Int))
theorem PcsAt.below {w w' : World} {a : Option Addr} {n l : Nat} {T : Nat → Nat → Nat} (h : PcsAt w a n l T) (hb : Below w.heap.size w w') : PcsAt w' a n l T := fun i hi => by
  obtain ⟨b, off, g, o, c, e, hc, hp⟩ := h i hi
  exact ⟨b, off, g, o, c, e, (hb.cell (p := ⟨b, off + i, none⟩) (block_lt_of_cell hc)).trans hc, fun p hpl => (hb.cell (p := ⟨g, o + p, none⟩) (block_lt_of_cell (hp p hpl))).trans (hp p hpl)⟩

end Go.Proofs.YtodpgbmpfflkoaaGreatDoor
/- The draws of matrices: what each gives, at any bytes: some list of rows, at most 17 of them, each of 1 to 6 numbers. Condition: at most 2^20 bytes of code. -/
namespace Go.Proofs.YtodpgbmpfflkoaaGreatDoor
set_option maxRecDepth 2000
open Go.ChangeShapes Go.WideShapes Go.ChangeAt Go.RowKit

theorem MatZ.base {k : IntKind} {T TT : Nat} {w : World} {B E : Nat} {a : Option Addr} {n cap : Nat} {A : Nat → Option Addr} {L C : Nat → Nat} {Z : Nat → Nat → Int} (h : MatZ k T TT w B E a n cap A L C Z) : (∀ x, a = some x → B ≤ x.block) ∧ ∀ i, i < n → ∀ x, A i = some x → B ≤ x.block := by
  refine ⟨fun x e => ?_, fun i hi x e => ?_⟩
  · rcases own_shape h.out with ⟨h', _⟩ | ⟨g, _, e', hb, _⟩
    · rw [h'] at e; cases e
    · rw [e'] at e; cases e; exact hb
  · rcases own_shape (h.row i hi) with ⟨h', _⟩ | ⟨g, _, e', hb, _⟩
    · rw [h'] at e; cases e
    · rw [e'] at e; cases e; exact hb
/-- The cursor's block turned, which lies ahead of the matrix. -/
theorem MatZ.cur {k : IntKind} {T TT : Nat} {w w' : World} {B E g : Nat} {a : Option Addr} {n cap : Nat} {A : Nat → Option Addr} {L C : Nat → Nat} {Z : Nat → Nat → Int} (h : MatZ k T TT w B E a n cap A L C Z) (hg : w.grownBy w' (some g)) (hB : g < B) : MatZ k T TT w' B E a n cap A L C Z :=
  h.kept hg (fun x e => by have := h.base.1 x e; omega) (fun i hi x e => by have := h.base.2 i hi x e; omega)
/-- Some list of rows of ours, each of 1 to 6 numbers. -/
def DM (u : Nat) (w : World) (B E G n cap : Nat) : Prop := ∃ A L C Z, MatI w B E (some ⟨G, 0, none⟩) n cap A L C Z ∧ ∀ i, i < n → 1 ≤ L i ∧ L i ≤ u
theorem DM.cur {u : Nat} {w w' : World} {B E G n cap g : Nat} (h : DM u w B E G n cap) (hg : w.grownBy w' (some g)) (hB : g < B) : DM u w' B E G n cap := by
  obtain ⟨A, L, C, Z, hM, hL⟩ := h
  exact ⟨A, L, C, Z, hM.cur hg hB, hL⟩
theorem DM.below {u : Nat} {w w' : World} {B E G n cap : Nat} (h : DM u w B E G n cap) (hb : Below w.heap.size w w') : DM u w' B E G n cap := by
  obtain ⟨A, L, C, Z, hM, hL⟩ := h
  exact ⟨A, L, C, Z, hM.below hb, hL⟩
theorem DM.wide {u : Nat} {w : World} {B E E' G n cap : Nat} (h : DM u w B E G n cap) (hE : E ≤ E') : DM u w B E' G n cap := by
  obtain ⟨A, L, C, Z, hM, hL⟩ := h
  exact ⟨A, L, C, Z, hM.wide hE, hL⟩
theorem DM.tight {u : Nat} {w : World} {B E G n cap : Nat} (h : DM u w B E G n cap) : DM u w B w.heap.size G n cap := by
  obtain ⟨A, L, C, Z, hM, hL⟩ := h
  exact ⟨A, L, C, Z, hM.tight, hL⟩
theorem DM.at {u : Nat} {w : World} {B E G n cap : Nat} (h : DM u w B E G n cap) : ∃ L Z, MatAt w (some ⟨G, 0, none⟩) n L Z ∧ ∀ i, i < n → 1 ≤ L i ∧ L i ≤ u := by
  obtain ⟨A, L, C, Z, hM, hL⟩ := h
  exact ⟨L, Z, hM.at, hL⟩
theorem DM.pushed {u : Nat} {wr w2 : World} {B b0 G k cap g2 cap3 gr W capr : Nat} {A : Nat → Option Addr} {L C : Nat → Nat} {Z : Nat → Nat → Int} {xs : List Int} (o : Obj) (hM : MatI wr B b0 (some ⟨G, 0, none⟩) k cap A L C Z) (hL : ∀ i, i < k → 1 ≤ L i ∧ L i ≤ u) (hW : 1 ≤ W ∧ W ≤ u)
    (hb : B ≤ b0) (hr : wr.ownsRow b0 3 1 (.slice (some ⟨gr, 0, none⟩) W capr) W (xs.map (Value.int .i64))) (hgrow : (wr.alloc o).grownBy w2 (some G))
    (hout : w2.ownsRow B 23 1 (.slice (some ⟨g2, 0, none⟩) (k + 1) cap3) (k + 1) (hds A L C k ++ [.slice (some ⟨gr, 0, none⟩) W capr])) :
    DM u w2 B w2.heap.size g2 (k + 1) cap3 := by
  have hbo : Below wr.heap.size wr (wr.alloc o) := (Below.refl _ _).alloc (Nat.le_refl _) _
  have hM1 := hM.below hbo
  have hlen : xs.length = W := by simpa using hr.1
  have hr1 : (wr.alloc o).ownsRow B 3 1 (.slice (some ⟨gr, 0, none⟩) W capr) W ((zI (fun j => xs.getD j 0) W).map (Value.int .i64)) := by
    have e : zI (fun j => xs.getD j 0) W = xs := by rw [← hlen]; exact zI_of xs
    rw [e]
    exact own_base (ownsRow_below hr hbo) hb
  have hgr := (hr.lt gr rfl).1
  refine ⟨_, _, _, _, MatZ.push tiNe hM1 hgrow hout (Nat.le_refl _) ?_ hr1 (fun j hj y u ey eu => ?_), fun i hi => ?_⟩
  · exact Nat.le_trans (Nat.le_of_lt (Nat.lt_of_le_of_lt hgr (hr.lt gr rfl).2)) (Nat.le_trans hbo.size hgrow.size)
  · cases eu
    have := hM.rE j hj y ey
    exact Nat.ne_of_lt (Nat.lt_of_lt_of_le this hgr)
  · by_cases e : i = k
    · simp only [if_pos e]; exact hW
    · simp only [if_neg e]; exact hL i (by omega)
def lenV : Value → Nat
  | .slice _ n _ => n
  | _ => 0
theorem DM.le {u u' : Nat} {w : World} {B E G n cap : Nat} (h : DM u w B E G n cap) (hu : u ≤ u') : DM u' w B E G n cap := by
  obtain ⟨A, L, C, Z, hM, hL⟩ := h
  exact ⟨A, L, C, Z, hM, fun i hi => ⟨(hL i hi).1, Nat.le_trans (hL i hi).2 hu⟩⟩
theorem DM.grew {u : Nat} {w w' : World} {B E G n cap g0 g i l c : Nat} {A : Nat → Option Addr} {L C : Nat → Nat} {Z : Nat → Nat → Int} {xs : List Int} (hM : MatI w B E (some ⟨G, 0, none⟩) n cap A L C Z) (hL : ∀ i, i < n → 1 ≤ L i ∧ L i ≤ u) (hi : i < n) (hA : A i = some ⟨g0, 0, none⟩) (hg : w.grownBy w' (some g0))
    (hrow : w'.ownsRow B 3 1 (.slice (some ⟨g, 0, none⟩) l c) l (xs.map (Value.int .i64))) (hl : 1 ≤ l ∧ l ≤ u + 1) (hat : g = g0 ∨ w.heap.size ≤ g) (hE : E ≤ w'.heap.size) :
    (∃ v, w'.cell? ⟨G, i, none⟩ = some v) ∧ w'.frozen? ⟨G, i, none⟩ = false ∧ DM (u + 1) (w'.setCell ⟨G, i, none⟩ (.slice (some ⟨g, 0, none⟩) l c)) B (w'.setCell ⟨G, i, none⟩ (.slice (some ⟨g, 0, none⟩) l c)).heap.size G n cap ∧ w'.grownBy (w'.setCell ⟨G, i, none⟩ (.slice (some ⟨g, 0, none⟩) l c)) (some G) := by
  obtain ⟨h1, h2, h3, h4⟩ := MatZ.grew tiNe hM hi hA hg (own_zI hrow) hat hE (hrow.lt g rfl).2
  refine ⟨⟨_, h1⟩, h2, ⟨_, _, _, _, h3.wide h4.size, fun j hj => ?_⟩, h4⟩
  by_cases e : j = i
  · simp only [if_pos e]; exact hl
  · simp only [if_neg e]; exact ⟨(hL j hj).1, Nat.le_succ_of_le (hL j hj).2⟩
theorem DM.hdr {u : Nat} {w : World} {B E G n cap i : Nat} (h : DM u w B E G n cap) (hi : i < n) : (∃ v, w.cell? ⟨G, i, none⟩ = some v) ∧ w.frozen? ⟨G, i, none⟩ = false := by
  obtain ⟨A, L, C, Z, hM, _⟩ := h
  exact ⟨⟨_, hM.hdr hi⟩, hM.ofree i⟩
theorem DM.olt {u : Nat} {w : World} {B E G n cap : Nat} (h : DM u w B E G n cap) : B ≤ G ∧ G < w.heap.size := by
  obtain ⟨A, L, C, Z, hM, _⟩ := h
  exact hM.olt
/-- A new row for an old one. -/
theorem DM.setRow {u : Nat} {w : World} {B E G n cap g l c i : Nat} {xs : List Int} (h : DM u w B E G n cap) (hi : i < n) (hrow : w.ownsRow B 3 1 (.slice (some ⟨g, 0, none⟩) l c) l (xs.map (Value.int .i64))) (hl : 1 ≤ l ∧ l ≤ u) (hE : E ≤ w.heap.size) (hg : E ≤ g) :
    DM u (w.setCell ⟨G, i, none⟩ (.slice (some ⟨g, 0, none⟩) l c)) B (w.setCell ⟨G, i, none⟩ (.slice (some ⟨g, 0, none⟩) l c)).heap.size G n cap ∧ w.grownBy (w.setCell ⟨G, i, none⟩ (.slice (some ⟨g, 0, none⟩) l c)) (some G) := by
  obtain ⟨A, L, C, Z, hM, hL⟩ := h
  have h1 := (hM.wide hE).setRow tiNe hi (own_zI hrow) (hrow.lt g rfl).2 (fun j hj _ x ex => by have := hM.rE j hj x ex; omega)
  refine ⟨⟨_, _, _, _, h1.1.wide h1.2.size, fun j hj => ?_⟩, h1.2⟩
  by_cases e : j = i
  · simp only [if_pos e]; exact hl
  · simp only [if_neg e]; exact hL j hj
theorem DM.setElt {u : Nat} {w : World} {B G n cap g0 i j : Nat} {A : Nat → Option Addr} {L C : Nat → Nat} {Z : Nat → Nat → Int} (hM : MatI w B w.heap.size (some ⟨G, 0, none⟩) n cap A L C Z) (hL : ∀ i, i < n → 1 ≤ L i ∧ L i ≤ u) (hi : i < n) (hA : A i = some ⟨g0, 0, none⟩) (hj : j < L i) (v : Int) :
    DM u (w.setCell ⟨g0, j, none⟩ (.int .i64 v)) B (w.setCell ⟨g0, j, none⟩ (.int .i64 v)).heap.size G n cap ∧ w.grownBy (w.setCell ⟨g0, j, none⟩ (.int .i64 v)) (some g0) := by
  have h1 := hM.setElt tiNe hi hA hj v
  exact ⟨⟨_, _, _, _, h1.1.wide h1.2.size, hL⟩, h1.2⟩

end Go.Proofs.YtodpgbmpfflkoaaGreatDoor
/- The program's sums of a row over texts. Conditions: at most 16 texts, at most 2^20 bytes each. -/
namespace Go.Proofs.YtodpgbmpfflkoaaGreatDoor
set_option maxRecDepth 2000
open Go.ChangeShapes Go.WideShapes Go.ChangeAt Go.RowKit

set_option maxRecDepth 100000 in
set_option maxHeartbeats 4000000 in
theorem rowSumS_any (ra : Option Addr) (rc : Nat) (R : Nat → Nat) (a : Option Addr) (cp n l : Nat) (S : Nat → ByteArray) (w : World) (hr : IntsAt w ra n (eI R n)) (h : TxtAt w a n S) (hS : ∀ i, i < n → (S i).size = l) (hn : 1 ≤ n ∧ n ≤ 16) (hl : 1 ≤ l ∧ l ≤ 1048576) (hR : ∀ i, R i < 256) :
    Calls Tryz.prog 72 #[.slice ra n rc, .slice a n cp] w fun e w' => e = .returned (.slice (some ⟨w.heap.size, 0, none⟩) l l) ∧ OwnB w' w.heap.size w.heap.size l l (rs R (fun i p => tat (S i) p) n) ∧ Below w.heap.size w w' := by
  obtain ⟨i0, hi, hz0, hz1, hz2⟩ := info_parts Tryz.infoByte
  obtain ⟨hn1, hn16⟩ := hn
  obtain ⟨hl1, hl20⟩ := hl
  have KH : Hid (TxtAt w a n S) := h
  have KR : Hid (IntsAt w ra n (eI R n)) := hr
  have hn0' : 0 < n := by omega
  obtain ⟨b0, off0, rfl, hc0⟩ := h 0 hn0'
  rw [Nat.add_zero] at hc0
  have hsz0 := hS 0 hn0'
  obtain ⟨s0, hs0⟩ : ∃ s0, S 0 = s0 := ⟨_, rfl⟩
  rw [hs0] at hc0 hsz0
  clear hs0
  clear h hr
  go_enter Tryz.func72, Tryz.ntmps72
  go_wp2_with (at_make; refine wpList_make_full _ rfl _ _ 129 rfl w.heap.size 5 i0 (.int .u8 0) 1 Tryz.underlying129 hi hz0 hz1 .i64 .i64 _ _ l rfl rfl rfl rfl (by rw [hz2]; omega) (by unfold maxLen; omega) (Nat.le_refl _) ?_; intro w1 hown hgrow)
  have hb1 : Below w.heap.size w w1 := (Below.refl _ _).grown hgrow (Nat.le_refl _) (by simp)
  have ho1 : OwnB w1 w.heap.size w.heap.size l l (rs R (fun i p => tat (S i) p) 0) := by
    unfold OwnB
    rw [eI_const (f := rs R (fun i p => tat (S i) p) 0) l 0 (fun _ _ => rfl)]
    simpa [Value.cells, toList_madeCells_one] using hown
  have K1 : Hid (OwnB w1 w.heap.size w.heap.size l l (rs R (fun i p => tat (S i) p) 0)) := ho1
  have KB1 : Hid (Below w.heap.size w w1) := hb1
  clear hown hgrow ho1 hb1 hi hz0 hz1 hz2 hc0
  go_loopw [17] (fun i wr => ∃ k : Nat, k ≤ n ∧ i = .int .i64 k ∧ OwnB wr w.heap.size w.heap.size l l (rs R (fun i p => tat (S i) p) k) ∧ Below w.heap.size w wr) (fun i _ => n - (intOf i).toNat)
  case atStart => exact ⟨0, Nat.zero_le _, rfl, K1.out, KB1.out⟩
  case round =>
    obtain ⟨k, hk, rfl, hown, hbel⟩ := hrel
    clear K1 KB1
    by_cases hlt : k < n
    · have hki : (k : Int) < (n : Int) := by omega
      obtain ⟨b1, off1, eb, hc1w⟩ := KH.out k hlt
      cases eb
      have hc1 := (hbel.cell (p := ⟨b0, off0 + k, none⟩) (block_lt_of_cell hc1w)).trans hc1w
      have hszk := hS k hlt
      obtain ⟨s, hs⟩ : ∃ s, S k = s := ⟨_, rfl⟩
      have KSK : Hid (S k = s) := hs
      rw [hs] at hc1 hszk
      clear hc1w hs
      obtain ⟨br, offr, rfl, hcr⟩ := (KR.out.below hbel).2 k hlt
      rw [eI_getD _ _ _ hlt] at hcr
      have hRk := hR k
      obtain ⟨X, hX⟩ : ∃ X, R k = X := ⟨_, rfl⟩
      have KX : Hid (R k = X) := hX
      rw [hX] at hcr hRk
      clear hX
      have hwx : IntKind.u8.wrap (X : Int) = (X : Int) := by rw [IntKind.wrap_u8]; omega
      have hszw := hbel.size
      by_cases hx0 : X = 0
      · subst hx0
        have HO : Hid (OwnB wr w.heap.size w.heap.size l l (rs R (fun i p => tat (S i) p) (k + 1))) := hown.congr (fun p _ => by unfold rs; rw [Gm.sm_s, KX.out, Gp.zero_m, Nat.xor_zero])
        clear hown
        go_wp2
        go_roundw
        case rel => exact ⟨k + 1, by omega, by go_num, HO.out, hbel⟩
        case measure => simp [intOf] <;> omega
      · have hx0' : ((X : Int) == 0) = false := by simp; omega
        have K2 : Hid (OwnB wr w.heap.size w.heap.size l l (fun p => if p < 0 then rs R (fun i p => tat (S i) p) (k + 1) p else rs R (fun i p => tat (S i) p) k p)) := hown.congr (fun p _ => by simp)
        have KB2 : Hid (Below w.heap.size w wr) := hbel
        have hbel0 := hbel
        clear hown hbel
        go_wp2
        go_loopw [31] (fun i wr => ∃ q : Nat, q ≤ l ∧ i = .int .i64 q ∧ OwnB wr w.heap.size w.heap.size l l (fun p => if p < q then rs R (fun i p => tat (S i) p) (k + 1) p else rs R (fun i p => tat (S i) p) k p) ∧ Below w.heap.size w wr) (fun i _ => l - (intOf i).toNat)
        case atStart => exact ⟨0, Nat.zero_le _, rfl, K2.out, KB2.out⟩
        case round =>
          obtain ⟨q, hq, rfl, hown, hbel⟩ := hrel
          clear K2 KB2
          by_cases hql : q < l
          · have hqi : (q : Int) < (l : Int) := by omega
            have hks : q < s.size := by omega
            have hcs := hown.cell hql
            simp only [Nat.lt_irrefl, if_false] at hcs
            have hfs := World.ownsRow.frozenAt hown q
            have hsl := rs_lt R (fun i p => tat (S i) p) k q
            have KS : Hid (∀ p, (if p = q then rs R (fun i p => tat (S i) p) k q ^^^ Gf.mul ((fun i p => tat (S i) p) k q) (R k) else if p < q then rs R (fun i p => tat (S i) p) (k + 1) p else rs R (fun i p => tat (S i) p) k p) = if p < q + 1 then rs R (fun i p => tat (S i) p) (k + 1) p else rs R (fun i p => tat (S i) p) k p) := fun p => rs_step (hR k) (tat_lt _ _) p
            rw [KX.out] at KS
            have KO : Hid (OwnB wr w.heap.size w.heap.size l l (fun p => if p < q then rs R (fun i p => tat (S i) p) (k + 1) p else rs R (fun i p => tat (S i) p) k p)) := hown
            obtain ⟨Y, hY⟩ : ∃ Y, rs R (fun i p => tat (S i) p) k q = Y := ⟨_, rfl⟩
            rw [hY] at hcs hsl KS
            have hVl := u8_lt s[q]
            have hTV : tat (S k) q = s[q].toNat := by rw [KSK.out]; exact tat_in s q hks
            simp only [hTV] at KS
            clear hTV
            have hml := Gf.mul_lt hVl hRk
            have hgl := hown.lt.2
            have KB : Hid (Below w.heap.size w wr) := hbel
            clear hown hY hbel
            go_wp2_with fail
            go_region_with ((first | (go_at_call 111; refine (times_any s[q].toNat X _ hVl hRk).mono ?_; rintro e w5 ⟨rfl, hb5'⟩; have hb5 := below_of_drew hb5'; clear hb5'; have hcs5 := (hb5.cell (p := ⟨w.heap.size, q, none⟩) hgl).trans hcs; have hfs5 := (World.frozen?_of_block (a := ⟨w.heap.size, q, none⟩) (hb5.block _ hgl)).trans hfs) | (go_at_call 110; refine (plus_any Y (Gf.mul s[q].toNat X) _ hsl hml).mono ?_; rintro e w6 ⟨rfl, hw6⟩; obtain rfl := hw6.symm)))
            all_goals
              have hS := OwnB.set (k := q) (v := Y ^^^ Gf.mul s[q].toNat X) (KO.out.below hb5) hql
              have HO : Hid (OwnB (w5.setCell ⟨w.heap.size, q, none⟩ (.int .u8 ((Y ^^^ Gf.mul s[q].toNat X : Nat) : Int))) w.heap.size w.heap.size l l (fun p => if p < q + 1 then rs R (fun i p => tat (S i) p) (k + 1) p else rs R (fun i p => tat (S i) p) k p)) := hS.1.congr (fun p _ => KS.out p)
              have HB : Hid (Below w.heap.size w (w5.setCell ⟨w.heap.size, q, none⟩ (.int .u8 ((Y ^^^ Gf.mul s[q].toNat X : Nat) : Int)))) := (below2 KB.out hb5).setCell (Nat.le_refl _) _
              clear hS hcs hfs hcs5 hfs5 KO KS KB
              go_wp2
              go_roundw
              case rel => exact ⟨q + 1, by omega, by go_num, HO.out, HB.out⟩
              case measure => simp [intOf] <;> omega
          · obtain rfl : q = l := by omega
            have HO : Hid (OwnB wr w.heap.size w.heap.size q q (rs R (fun i p => tat (S i) p) (k + 1))) := hown.congr (fun p hp => if_pos hp)
            clear hown
            go_wp2
            go_roundw
            case rel => exact ⟨k + 1, by omega, by go_num, HO.out, hbel⟩
            case measure => simp [intOf] <;> omega
    · obtain rfl : k = n := by omega
      have HO : Hid _ := hown
      clear hown
      go_wp2
      go_ret
      exact ⟨rfl, HO.out, hbel⟩
end Go.Proofs.YtodpgbmpfflkoaaGreatDoor
/- The draws of chapter three's laws: matrices, and places that differ. Condition: at most 2^20 bytes of code. -/
namespace Go.Proofs.YtodpgbmpfflkoaaGreatDoor
set_option maxRecDepth 2000
open Go.ChangeShapes Go.WideShapes Go.ChangeAt Go.RowKit

/-- A list of rows that was drawn, in new memory. -/
def Drawn (w' : World) (v : Value) : Prop := ∃ G m cap L Z, v = .slice (some ⟨G, 0, none⟩) m cap ∧ m ≤ 17 ∧ MatAt w' (some ⟨G, 0, none⟩) m L Z ∧ ∀ i, i < m → L i ≤ 6
theorem DM.drawn {w : World} {B E G n cap : Nat} (h : DM 6 w B E G n cap) (hn : n ≤ 17) : Drawn w (.slice (some ⟨G, 0, none⟩) n cap) := by
  obtain ⟨L, Z, h1, h2⟩ := h.at
  exact ⟨G, n, cap, L, Z, rfl, hn, h1, fun i hi => (h2 i hi).2⟩
theorem DM.far {u : Nat} {w w' : World} {B E G n cap g : Nat} (h : DM u w B E G n cap) (hg : w.grownBy w' (some g)) (hB : g < B) : DM u w' B E G n cap := h.cur hg hB
end Go.Proofs.YtodpgbmpfflkoaaGreatDoor
/- The draw of places that differ. Condition: at most 2^20 bytes of code, at most 256 places. -/
namespace Go.Proofs.YtodpgbmpfflkoaaGreatDoor
set_option maxRecDepth 2000
open Go.ChangeShapes Go.WideShapes Go.ChangeAt Go.RowKit

end Go.Proofs.YtodpgbmpfflkoaaGreatDoor
/- The draw of a spread's sides and of places of it that differ. Condition: at most 2^20 bytes of code. -/
namespace Go.Proofs.YtodpgbmpfflkoaaGreatDoor
set_option maxRecDepth 2000
open Go.ChangeShapes Go.WideShapes Go.ChangeAt Go.RowKit

theorem nodup_ne {zs : List Int} (h : zs.Nodup) {i j : Nat} (hi : i < zs.length) (hj : j < zs.length) (hne : i ≠ j) : zs.getD i 0 ≠ zs.getD j 0 := by
  have hp := List.pairwise_iff_getElem.1 (List.nodup_iff_pairwise_ne.1 h)
  have e1 : zs.getD i 0 = zs[i] := by simp [List.getD, hi]
  have e2 : zs.getD j 0 = zs[j] := by simp [List.getD, hj]
  rw [e1, e2]
  rcases Nat.lt_or_gt_of_ne hne with h' | h'
  · exact hp i j hi hj h'
  · exact (hp j i hj hi h').symm
/-- Places that differ, within 'n'. -/
def Diff (n : Nat) (zs : List Int) : Prop := zs.Nodup ∧ ∀ x ∈ zs, 0 ≤ x ∧ x < (n : Int)
theorem Diff.at {n : Nat} {zs : List Int} (h : Diff n zs) {i : Nat} (hi : i < zs.length) : 0 ≤ zs.getD i 0 ∧ zs.getD i 0 < (n : Int) := by
  have e1 : zs.getD i 0 = zs[i] := by simp [List.getD, hi]
  rw [e1]
  exact h.2 _ (List.getElem_mem hi)
theorem Diff.ne {n : Nat} {zs : List Int} (h : Diff n zs) {i j : Nat} (hi : i < zs.length) (hj : j < zs.length) (hne : i ≠ j) : (zs.getD i 0).toNat ≠ (zs.getD j 0).toNat := by
  have h1 := nodup_ne h.1 hi hj hne
  have h2 := h.at hi
  have h3 := h.at hj
  omega
/-- Rows of a spread at places that differ have full rank. -/
theorem pick_rk {n k : Nat} {zs : List Int} (h : Diff n zs) (hl : zs.length = k) (hn : n ≤ 256) (hkn : k ≤ n) : Gm.rk (fun t j => Gm.sprd k ((zs.getD t 0).toNat) j) k k = k := by
  refine Gm.spread_rk (p := fun t => (zs.getD t 0).toNat) (by omega) (fun t => ?_) (fun i j hi hj hne => h.ne (by omega) (by omega) hne)
  by_cases ht : t < zs.length
  · have := h.at ht
    show (zs.getD t 0).toNat < 256
    omega
  · show (zs.getD t 0).toNat < 256
    rw [show zs.getD t 0 = 0 by simp [List.getD, ht]]
    decide
end Go.Proofs.YtodpgbmpfflkoaaGreatDoor
