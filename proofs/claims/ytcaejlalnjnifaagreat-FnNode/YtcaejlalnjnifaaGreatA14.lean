import Derived.Test.YtcaejlalnjnifaaGreatA8
set_option maxHeartbeats 8000000
set_option maxRecDepth 2000
open Go.ChangeShapes Go.WideShapes Go.ChangeAt Go.RowKit
namespace Go.Proofs.YtcaejlalnjnifaaGreat
def MkS (w : World) (B t sz g n cap : Nat) (G : Nat → Nat → Nat → Prop) (D : Nat → Nat → Dt) : Prop :=
 ∃ c, w.ownsRow B t sz (.slice (some ⟨g, 0, none⟩) n cap) n (cL sz c n) ∧ ∀ i q, i < n → q < sz → Ow w B (D i q) (c i q) (G i q)
theorem Ow.mk {w : World} {B t sz g n cap : Nat} {D : Nat → Nat → Dt} {F : Nat → Prop} (h : Ow w B (.lst t sz n D) (.slice (some ⟨g, 0, none⟩) n cap) F) : ∃ G, Sep (some ⟨g, 0, none⟩) n sz G F ∧ MkS w B t sz g n cap G D := by
 obtain ⟨a, cap', c, G, e, ho, hs, hr⟩ := h
 cases e
 exact ⟨G, hs, c, ho, hr⟩
theorem MkS.below {w w' : World} {B t sz g n cap : Nat} {G : Nat → Nat → Nat → Prop} {D : Nat → Nat → Dt} (h : MkS w B t sz g n cap G D) (hb : Below w.heap.size w w') : MkS w' B t sz g n cap G D := by
 obtain ⟨c, ho, hr⟩ := h
 exact ⟨c, ownsRow_below ho hb, fun i q hi hq => (hr i q hi hq).below hb⟩
theorem MkS.congr {w : World} {B t sz g n cap : Nat} {G : Nat → Nat → Nat → Prop} {D D' : Nat → Nat → Dt} (h : MkS w B t sz g n cap G D) (e : ∀ i q, i < n → q < sz → D i q = D' i q) : MkS w B t sz g n cap G D' := by
 obtain ⟨c, ho, hr⟩ := h
 exact ⟨c, ho, fun i q hi hq => by rw [← e i q hi hq]; exact hr i q hi hq⟩
theorem MkS.lt {w : World} {B t sz g n cap : Nat} {G : Nat → Nat → Nat → Prop} {D : Nat → Nat → Dt} (h : MkS w B t sz g n cap G D) : B ≤ g ∧ g < w.heap.size := by
 obtain ⟨c, ho, hr⟩ := h
 exact World.ownsRow.lt ho g rfl
theorem MkS.cell {w : World} {B t sz g n cap : Nat} {G : Nat → Nat → Nat → Prop} {D : Nat → Nat → Dt} (h : MkS w B t sz g n cap G D) {i q : Nat} (hi : i < n) (hq : q < sz) : ∃ v, w.cell? ⟨g, i * sz + q, none⟩ = some v ∧ w.frozen? ⟨g, i * sz + q, none⟩ = false ∧ Ow w B (D i q) v (G i q) := by
 obtain ⟨c, ho, hr⟩ := h
 exact ⟨c i q, by rw [World.ownsRow.cellAt ho _ (mid_lt hi hq)]; exact cL_get _ _ _ _ _ hi hq, World.ownsRow.frozenAt ho _, hr i q hi hq⟩
end Go.Proofs.YtcaejlalnjnifaaGreat
