/- A new node's block that is laid at any time in a region that draws its order. -/
import Derived.Test.YtgiegoamcfjfmaaGreatH43
namespace Go.Proofs.YtgiegoamcfjfmaaGreat
set_option maxRecDepth 2000
open Go.ChangeShapes Go.WideShapes Go.ChangeAt Go.RowKit

theorem alN_below (W : World) : Below W.heap.size W (W.alloc (.cells #[.int .i64 0, .int .i64 0, .slice none 0 0] 34)) := (Below.refl _ _).alloc (Nat.le_refl _) _
theorem alN_lt (W : World) : W.heap.size < (W.alloc (.cells #[.int .i64 0, .int .i64 0, .slice none 0 0] 34)).heap.size := by simp
/-- The block is there, behind a world. -/
structure ReN (w2 v : World) (E : Nat) : Prop where
  r : Row v E 34 #[.int .i64 0, .int .i64 0, .slice none 0 0]
  l : w2.heap.size ≤ E
theorem ReN.new {w2 W v : World} (h : Below w2.heap.size w2 W) (b : Below (W.alloc (.cells #[.int .i64 0, .int .i64 0, .slice none 0 0] 34)).heap.size (W.alloc (.cells #[.int .i64 0, .int .i64 0, .slice none 0 0] 34)) v) : ReN w2 v W.heap.size :=
  ⟨(Row.new W _ _).below b (Row.new W _ _).lt, h.size⟩
theorem ReN.below {w2 v v' : World} {E : Nat} (h : ReN w2 v E) (b : Below v.heap.size v v') : ReN w2 v' E := ⟨h.r.below b h.r.lt, h.l⟩
theorem ReN.cells {w2 v : World} {E : Nat} (h : ReN w2 v E) : (v.cell? ⟨E, 0, none⟩ = some (.int .i64 0) ∧ v.cell? ⟨E, 1, none⟩ = some (.int .i64 0) ∧ v.cell? ⟨E, 2, none⟩ = some (.slice none 0 0)) ∧ v.frozen? ⟨E, 0, none⟩ = false ∧ v.frozen? ⟨E, 1, none⟩ = false ∧ v.frozen? ⟨E, 2, none⟩ = false := by
  have h0 := h.r.cell 0
  have h1 := h.r.cell 1
  have h2 := h.r.cell 2
  simp at h0 h1 h2
  exact ⟨⟨h0, h1, h2⟩, h.r.free 0, h.r.free 1, h.r.free 2⟩
theorem Rf.own {v : World} {B : Nat} {d : Dt} {x : Value} {F : Nat → Prop} (h : Ow v B d x F) : Rf v (fun b => b < B) d x := Rf.of_ow h.cut (fun b hb k => by have h1 := hb.2.1; have h2 : b < B := k; omega)
theorem ReN.fin {w2 v W : World} {E : Nat} {d1 d2 : Dt} {x1 x2 : Value} (h : ReN w2 v E) (hl : E < W.heap.size) (h1 : Rf v (fun b => b < W.heap.size) d1 x1) (h2 : Rf v (fun b => b < W.heap.size) d2 x2) (b : Below w2.heap.size w2 v) (id f : Int) (s : Value) :
    Row (((v.setCell ⟨E, 0, none⟩ (.int .i64 id)).setCell ⟨E, 1, none⟩ (.int .i64 f)).setCell ⟨E, 2, none⟩ s) E 34 #[.int .i64 id, .int .i64 f, s] ∧ Rd (((v.setCell ⟨E, 0, none⟩ (.int .i64 id)).setCell ⟨E, 1, none⟩ (.int .i64 f)).setCell ⟨E, 2, none⟩ s) d1 x1 ∧ Rd (((v.setCell ⟨E, 0, none⟩ (.int .i64 id)).setCell ⟨E, 1, none⟩ (.int .i64 f)).setCell ⟨E, 2, none⟩ s) d2 x2 ∧ Below w2.heap.size w2 (((v.setCell ⟨E, 0, none⟩ (.int .i64 id)).setCell ⟨E, 1, none⟩ (.int .i64 f)).setCell ⟨E, 2, none⟩ s) := by
  have r0 : Row (v.setCell ⟨E, 0, none⟩ (.int .i64 id)) E 34 #[.int .i64 id, .int .i64 0, .slice none 0 0] := h.r.set 0 _
  have r1 : Row ((v.setCell ⟨E, 0, none⟩ (.int .i64 id)).setCell ⟨E, 1, none⟩ (.int .i64 f)) E 34 #[.int .i64 id, .int .i64 f, .slice none 0 0] := r0.set 1 _
  exact ⟨r1.set 2 _, (((h1.setCell hl 0 _).setCell hl 1 _).setCell hl 2 _).rd, (((h2.setCell hl 0 _).setCell hl 1 _).setCell hl 2 _).rd, ((b.setCell h.l _).setCell h.l _).setCell h.l _⟩
theorem fresh_fin {w2 v W : World} {d1 d2 : Dt} {x1 x2 : Value} (h1 : Rf v (fun b => b < W.heap.size) d1 x1) (h2 : Rf v (fun b => b < W.heap.size) d2 x2) (b : Below w2.heap.size w2 v) (id f : Int) (s : Value) :
    Row (v.alloc (.cells #[.int .i64 id, .int .i64 f, s] 34)) v.heap.size 34 #[.int .i64 id, .int .i64 f, s] ∧ Rd (v.alloc (.cells #[.int .i64 id, .int .i64 f, s] 34)) d1 x1 ∧ Rd (v.alloc (.cells #[.int .i64 id, .int .i64 f, s] 34)) d2 x2 ∧ Below w2.heap.size w2 (v.alloc (.cells #[.int .i64 id, .int .i64 f, s] 34)) := by
  have bG : Below v.heap.size v (v.alloc (.cells #[.int .i64 id, .int .i64 f, s] 34)) := (Below.refl _ _).alloc (Nat.le_refl _) _
  exact ⟨Row.new v _ _, h1.rd.below bG, h2.rd.below bG, below2 b bG⟩
end Go.Proofs.YtgiegoamcfjfmaaGreat
