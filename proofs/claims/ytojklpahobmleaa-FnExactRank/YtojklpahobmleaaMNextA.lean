/- The program's search for the next step of a matrix of its own. Conditions: byte numbers, at most 2^20 places a row, at most 2^20 rows. -/
import Derived.Test.YtojklpahobmleaaMClear
import Derived.Deep.LoopGhost
import Derived.BigRegion
namespace Go.Proofs.Ytojklpahobmleaa
open Go.ChangeShapes Go.WideShapes Go.ChangeAt Go.RowKit

/-- What the program's steps stand on: the matrix as it is behind 'k' places, and the variables that say where it is. -/
structure BS (w : World) (B E G r cap W n Pb Wb Sb Mb : Nat) (A : Nat → Nat → Nat) (k : Nat) (g C : Nat → Nat) : Prop where
  mat : MatF w B E G r cap g C W (Gm.rd A r k).1
  pl : w.heap[Pb]? = some (.cells #[.int .i64 (k : Int)] 3 (0, 0))
  wd : w.heap[Wb]? = some (.cells #[.int .i64 (n : Int)] 3 (0, 0))
  st : w.heap[Sb]? = some (.cells #[.int .i64 ((Gm.rd A r k).2 : Int)] 3 (0, 0))
  mm : w.heap[Mb]? = some (.cells #[.slice (some ⟨G, 0, none⟩) r cap] 55 (0, 0))
/-- Behind a place where there is no step nothing has turned. -/
theorem rd_none {A : Nat → Nat → Nat} {r k : Nat} {F : Nat → Nat → Nat} {s : Nat} (h : Gm.rd A r k = (F, s)) (hs : s ≤ r) (hz : ∀ t, s ≤ t → t < r → F t k = 0) : Gm.rd A r (k + 1) = (F, s) := by
  rw [Gm.rd_s, h, Gm.stp_eq, if_neg]
  intro hlt
  have h1 := Gm.fnd_le F k (r - s) s
  exact Gm.fnd_ne F k (r - s) s (by omega) (hz _ h1.1 hlt)
theorem rd_step {A : Nat → Nat → Nat} {r k : Nat} {F : Nat → Nat → Nat} {s p : Nat} (h : Gm.rd A r k = (F, s)) (hp : s ≤ p) (hpr : p < r) (hz : ∀ t, s ≤ t → t < p → F t k = 0) (hne : F p k ≠ 0) : Gm.rd A r (k + 1) = (Gm.one F s p k, s + 1) := by
  have h1 : Gm.fnd F k (r - s) s = p := Gm.fnd_is hp (by omega) hz (fun _ => hne)
  rw [Gm.rd_s, h, Gm.stp_eq, h1, if_pos hpr]
theorem MatF.swap {w : World} {B E G r cap : Nat} {g C : Nat → Nat} {W : Nat} {F : Nat → Nat → Nat} {s p : Nat} (h : MatF w B E G r cap g C W F) (hs : s < r) (hp : p < r) :
    MatF ((w.setCell ⟨G, s, none⟩ (.slice (some ⟨g p, 0, none⟩) W (C p))).setCell ⟨G, p, none⟩ (.slice (some ⟨g s, 0, none⟩) W (C s))) B E G r cap (fun i => g (Gm.sg s p i)) (fun i => C (Gm.sg s p i)) W (Gm.swp s p F) := by
  have o1 := (h.out.stored s (.slice (some ⟨g p, 0, none⟩) W (C p))).1
  have o2 := (o1.stored p (.slice (some ⟨g s, 0, none⟩) W (C s))).1
  rw [hds_set, hds_set] at o2
  refine ⟨?_, h.oE, fun i hi => ?_, fun i hi x ex => ?_, fun i j hi hj hij x y ex ey => ?_⟩
  · rw [hds_congr (A' := fun i => if i = p then some ⟨g s, 0, none⟩ else if i = s then some ⟨g p, 0, none⟩ else some ⟨g i, 0, none⟩) (L' := fun i => if i = p then W else if i = s then W else W) (C' := fun i => if i = p then C s else if i = s then C p else C i) (fun i _ => by
      unfold Gm.sg
      by_cases e1 : i = p
      · by_cases e2 : i = s
        · simp [e1, show p = s by omega]
        · simp [e1, show p ≠ s by omega]
      · by_cases e2 : i = s
        · simp [e2, show s ≠ p by omega]
        · simp [e1, e2])]
    exact o2
  · have hr := h.row (Gm.sg s p i) (Gm.sg_lt hs hp hi)
    have hne : ∀ x : Addr, some (⟨g (Gm.sg s p i), 0, none⟩ : Addr) = some x → x.block ≠ G := fun x ex => by
      cases ex
      exact h.off teNe (Gm.sg_lt hs hp hi) rfl
    exact own_kept (own_kept hr (grown_set w G s _) hne) (grown_set _ G p _) hne
  · exact h.rE (Gm.sg s p i) (Gm.sg_lt hs hp hi) x ex
  · refine h.apart (Gm.sg s p i) (Gm.sg s p j) (Gm.sg_lt hs hp hi) (Gm.sg_lt hs hp hj) (fun e => hij ?_) x y ex ey
    have := congrArg (Gm.sg s p) e
    rw [Gm.sg_sg, Gm.sg_sg] at this
    exact this
/-- The state in the midst of a step. -/
structure Mid (w0 w : World) (B E G r cap W n Pb Wb Sb Mb : Nat) (c s : Nat) (g C : Nat → Nat) (F : Nat → Nat → Nat) : Prop where
  mat : MatF w B E G r cap g C W F
  pl : w.heap[Pb]? = some (.cells #[.int .i64 (c : Int)] 3 (0, 0))
  wd : w.heap[Wb]? = some (.cells #[.int .i64 (n : Int)] 3 (0, 0))
  st : w.heap[Sb]? = some (.cells #[.int .i64 (s : Int)] 3 (0, 0))
  mm : w.heap[Mb]? = some (.cells #[.slice (some ⟨G, 0, none⟩) r cap] 55 (0, 0))
  chg : Chg (fun b => B ≤ b) w0 w
/-- How the blocks lie. -/
structure Dst (B E Pb Wb Sb Mb : Nat) : Prop where
  be : B ≤ E
  d1 : E ≤ Pb
  d2 : E ≤ Wb
  d3 : E ≤ Sb
  d4 : E ≤ Mb
  d5 : Pb ≠ Wb
  d6 : Pb ≠ Sb
  d7 : Pb ≠ Mb
  d8 : Wb ≠ Sb
  d9 : Wb ≠ Mb
  d10 : Sb ≠ Mb
section
variable {w0 w : World} {B E G r cap W n Pb Wb Sb Mb : Nat} {c s : Nat} {g C : Nat → Nat} {F : Nat → Nat → Nat}
theorem Mid.below {w' : World} (h : Mid w0 w B E G r cap W n Pb Wb Sb Mb c s g C F) (hb : Below w.heap.size w w') : Mid w0 w' B E G r cap W n Pb Wb Sb Mb c s g C F := by
  have hc : Chg (fun _ => False) w w' := Chg.of_below _ hb
  exact ⟨h.mat.below hb, hc.at h.pl id, hc.at h.wd id, hc.at h.st id, hc.at h.mm id, h.chg.trans (Chg.of_below _ hb)⟩
theorem Mid.exchanged (D : Dst B E Pb Wb Sb Mb) (h : Mid w0 w B E G r cap W n Pb Wb Sb Mb c s g C F) {p : Nat} (hs : s < r) (hp : p < r) {gp Cp gs Cs : Nat} (e1 : g p = gp) (e2 : C p = Cp) (e3 : g s = gs) (e4 : C s = Cs) :
    Mid w0 ((w.setCell ⟨G, s, none⟩ (.slice (some ⟨gp, 0, none⟩) W Cp)).setCell ⟨G, p, none⟩ (.slice (some ⟨gs, 0, none⟩) W Cs)).drew B E G r cap W n Pb Wb Sb Mb c s (fun i => g (Gm.sg s p i)) (fun i => C (Gm.sg s p i)) (Gm.swp s p F) := by
  obtain ⟨D1, D2, D3, D4, D5, D6, D7, D8, D9, D10, D11⟩ := D
  subst e1
  subst e2
  subst e3
  subst e4
  have hGE : G < E := by have h1 := h.mat.oE _ rfl; simpa using h1
  have hch : Chg (fun b => b = G) w ((w.setCell ⟨G, s, none⟩ (.slice (some ⟨g p, 0, none⟩) W (C p))).setCell ⟨G, p, none⟩ (.slice (some ⟨g s, 0, none⟩) W (C s))).drew := by
    obtain ⟨h1, h2, h3, h4, h5⟩ := (Chg.grown (S := fun b => b = G) (grown_set w G s (.slice (some ⟨g p, 0, none⟩) W (C p))) rfl).trans (Chg.grown (S := fun b => b = G) (grown_set _ G p (.slice (some ⟨g s, 0, none⟩) W (C s))) rfl)
    exact ⟨h1, h2, h3, h4, h5⟩
  refine ⟨?_, hch.at h.pl (fun e => by omega), hch.at h.wd (fun e => by omega), hch.at h.st (fun e => by omega), hch.at h.mm (fun e => by omega), h.chg.trans (hch.imp (fun j e => by subst e; exact h.mat.olt.1))⟩
  obtain ⟨h1, h2, h3, h4, h5⟩ := MatF.swap h.mat hs hp
  exact ⟨h1, h2, h3, h4, h5⟩
theorem Mid.cleared (D : Dst B E Pb Wb Sb Mb) {w' : World} {F' : Nat → Nat → Nat} (h : Mid w0 w B E G r cap W n Pb Wb Sb Mb c s g C F) (hM : MatF w' B E G r cap g C W F') (hC : Chg (fun b => ∃ i, i < r ∧ b = g i) w w') : Mid w0 w' B E G r cap W n Pb Wb Sb Mb c s g C F' := by
  obtain ⟨D1, D2, D3, D4, D5, D6, D7, D8, D9, D10, D11⟩ := D
  have hgE : ∀ i, i < r → g i < E := fun i hi => by have h1 := h.mat.rE i hi _ rfl; simpa using h1
  exact ⟨hM, hC.at h.pl (fun ⟨i, hi, e⟩ => by have := hgE i hi; omega), hC.at h.wd (fun ⟨i, hi, e⟩ => by have := hgE i hi; omega), hC.at h.st (fun ⟨i, hi, e⟩ => by have := hgE i hi; omega), hC.at h.mm (fun ⟨i, hi, e⟩ => by have := hgE i hi; omega), h.chg.trans (hC.imp (fun j ⟨i, hi, e⟩ => by subst e; exact (h.mat.glt hi rfl).1))⟩
theorem Mid.done (D : Dst B E Pb Wb Sb Mb) {A : Nat → Nat → Nat} {s1 c1 : Nat} (h : Mid w0 w B E G r cap W n Pb Wb Sb Mb c s g C F) (hrd : Gm.rd A r c1 = (F, s1)) (hB : B ≤ w0.heap.size) :
    (w.setCell ⟨Sb, 0, none⟩ (.int .i64 (s1 : Int))).cell? ⟨Pb, 0, none⟩ = some (.int .i64 (c : Int)) ∧ (w.setCell ⟨Sb, 0, none⟩ (.int .i64 (s1 : Int))).frozen? ⟨Pb, 0, none⟩ = false ∧
    BS ((w.setCell ⟨Sb, 0, none⟩ (.int .i64 (s1 : Int))).setCell ⟨Pb, 0, none⟩ (.int .i64 (c1 : Int))) B E G r cap W n Pb Wb Sb Mb A c1 g C ∧ Below B w0 ((w.setCell ⟨Sb, 0, none⟩ (.int .i64 (s1 : Int))).setCell ⟨Pb, 0, none⟩ (.int .i64 (c1 : Int))) := by
  obtain ⟨D1, D2, D3, D4, D5, D6, D7, D8, D9, D10, D11⟩ := D
  have c6 : Chg (fun b => b = Sb) w (w.setCell ⟨Sb, 0, none⟩ (.int .i64 (s1 : Int))) := Chg.grown (grown_set w Sb 0 _) rfl
  have bp6 := c6.at h.pl D7
  have bs6 := one_setCell (u := .int .i64 (s1 : Int)) h.st
  have bw6 := c6.at h.wd D9
  have bm6 := c6.at h.mm (fun e => D11 e.symm)
  have c7 : Chg (fun b => b = Pb) (w.setCell ⟨Sb, 0, none⟩ (.int .i64 (s1 : Int))) ((w.setCell ⟨Sb, 0, none⟩ (.int .i64 (s1 : Int))).setCell ⟨Pb, 0, none⟩ (.int .i64 (c1 : Int))) := Chg.grown (grown_set _ Pb 0 _) rfl
  refine ⟨cell_of_one bp6, free_of_one bp6, ⟨?_, one_setCell bp6, c7.at bw6 (fun e => D6 e.symm), ?_, c7.at bm6 (fun e => D8 e.symm)⟩, ?_⟩
  · rw [hrd]; exact (h.mat.keptE (grown_set w Sb 0 _) D4).keptE (grown_set _ Pb 0 _) D2
  · rw [hrd]; exact c7.at bs6 (fun e => D7 e.symm)
  · exact Chg.below ((h.chg.trans (c6.imp (fun j e => by subst e; omega))).trans (c7.imp (fun j e => by subst e; omega))) hB (fun j hj => by omega)
theorem oneIs (F : Nat → Nat → Nat) (s p c : Nat) : Gm.clr s (fun i => Gm.scl s (Gf.inv (Gm.swp s p F s c)) (Gm.swp s p F) i c) (Gm.scl s (Gf.inv (Gm.swp s p F s c)) (Gm.swp s p F)) = Gm.one F s p c := by
  unfold Gm.one
  rw [show Gm.swp s p F s c = F p c from by unfold Gm.swp Gm.sg; rw [if_pos rfl]]
end
end Go.Proofs.Ytojklpahobmleaa
