/- Data in memory: a struct of a list stored anew; a new list. Definitions and lemmas; no walk. -/
import Derived.Test.YtkcnpkkihbpnmaaDoorD12
import Derived.Test.YtkcnpkkihbpnmaaDoorD10
import Derived.Test.YtkcnpkkihbpnmaaDoorD8
namespace Go.Proofs.YtkcnpkkihbpnmaaDoor
set_option maxRecDepth 2000
open Go.ChangeShapes Go.WideShapes Go.ChangeAt Go.RowKit

theorem heap_setCells_other (b : Nat) : ∀ (vs : List Value) (o : Nat) (w : World) (j : Nat), j ≠ b → (w.setCells b o vs).heap[j]? = w.heap[j]?
  | [], _, _, _, _ => rfl
  | v :: r, o, w, j, h => by rw [World.setCells, heap_setCells_other b r (o + 1) _ j h]; exact heap_setCell_other w ⟨b, o, none⟩ j v h
theorem size_setCells (b : Nat) : ∀ (vs : List Value) (o : Nat) (w : World), (w.setCells b o vs).heap.size = w.heap.size
  | [], _, _ => rfl
  | v :: r, o, w => by rw [World.setCells, size_setCells b r (o + 1) _]; simp
theorem os_setCells (b : Nat) : ∀ (vs : List Value) (o : Nat) (w : World), (w.setCells b o vs).os = w.os ∧ (w.setCells b o vs).tape = w.tape ∧ (w.setCells b o vs).output = w.output
  | [], _, _ => ⟨rfl, rfl, rfl⟩
  | v :: r, o, w => by rw [World.setCells]; exact os_setCells b r (o + 1) _
theorem below_setCells {B b : Nat} {w0 w : World} (h : Below B w0 w) (hB : B ≤ b) (o : Nat) (vs : List Value) : Below B w0 (w.setCells b o vs) := by
  obtain ⟨h1, h2, h3⟩ := os_setCells b vs o w
  exact h.trans ⟨h1, h2, h3, by rw [size_setCells]; exact Nat.le_refl _, fun j hj => heap_setCells_other b vs o w j (by omega)⟩
theorem own_setCells {B t sz g n cap i : Nat} (hi : i < n) : ∀ (vs : List Value) (q0 : Nat) (w : World) (c : Nat → Nat → Value), q0 + vs.length = sz → w.ownsRow B t sz (.slice (some ⟨g, 0, none⟩) n cap) n (cL sz c n) →
    (w.setCells g (i * sz + q0) vs).ownsRow B t sz (.slice (some ⟨g, 0, none⟩) n cap) n (cL sz (fun i' q' => if i' = i ∧ q0 ≤ q' then vs.getD (q' - q0) undef else c i' q') n) := by
  intro vs
  induction vs with
  | nil =>
    intro q0 w c hq ho
    have e : cL sz (fun i' q' => if i' = i ∧ q0 ≤ q' then ([] : List Value).getD (q' - q0) undef else c i' q') n = cL sz c n := cL_congr fun i' q' _ hq' => if_neg (fun h => by have := h.2; simp at hq; omega)
    rw [e]
    exact ho
  | cons v r ih =>
    intro q0 w c hq ho
    rw [World.setCells]
    have hq0 : q0 < sz := by simp at hq; omega
    have h1 := (World.ownsRow.stored ho (i * sz + q0) v).1
    rw [cL_set _ _ _ _ _ _ hi hq0] at h1
    have h2 := ih (q0 + 1) _ _ (by simp at hq; omega) h1
    rw [Nat.add_assoc]
    have e : cL sz (fun i' q' => if i' = i ∧ q0 ≤ q' then (v :: r).getD (q' - q0) undef else c i' q') n = cL sz (fun i' q' => if i' = i ∧ q0 + 1 ≤ q' then r.getD (q' - (q0 + 1)) undef else if i' = i ∧ q' = q0 then v else c i' q') n := cL_congr fun i' q' _ hq' => by
      by_cases ei : i' = i
      · by_cases e1 : q' = q0
        · subst e1
          rw [if_pos ⟨ei, Nat.le_refl _⟩, if_neg (by omega), if_pos ⟨ei, rfl⟩, Nat.sub_self]
          rfl
        · by_cases e2 : q0 ≤ q'
          · obtain ⟨k, rfl⟩ : ∃ k, q' = q0 + 1 + k := ⟨q' - (q0 + 1), by omega⟩
            rw [if_pos ⟨ei, e2⟩, if_pos ⟨ei, by omega⟩, show q0 + 1 + k - q0 = k + 1 by omega, show q0 + 1 + k - (q0 + 1) = k by omega]
            rfl
          · rw [if_neg (by omega), if_neg (by omega), if_neg (by omega)]
      · simp [ei]
    rw [e]
    exact h2
/-- A struct of a list stored anew. -/
theorem Ow.store {w : World} {B t sz g n cap i : Nat} {f : Nat → Nat → Dt} {F F' : Nat → Prop} {vs : List Value} {d : Nat → Dt} {H : Nat → Nat → Prop} (h : Ow w B (.lst t sz n f) (.slice (some ⟨g, 0, none⟩) n cap) F) (hi : i < n) (hl : vs.length = sz)
    (hv : ∀ q, q < sz → Ow w B (d q) (vs.getD q undef) (H q)) (hH : ∀ q x, q < sz → H q x → ¬ F x) (hE : ∀ q q' x, q < sz → q' < sz → H q x → H q' x → q = q') (hF : ∀ x, F x → F' x) (hF' : ∀ q x, q < sz → H q x → F' x) :
    Ow (w.setCells g (i * sz) vs) B (.lst t sz n (fun i' => if i' = i then d else f i')) (.slice (some ⟨g, 0, none⟩) n cap) F' := by
  obtain ⟨a, cap', c, G, e, ho, hs, hr⟩ := h
  cases e
  have hg : F g := hs.head _ rfl
  have e0 := own_setCells hi vs 0 w c (by omega) ho
  rw [Nat.add_zero] at e0
  refine ⟨some ⟨g, 0, none⟩, cap, _, fun i' q' => if i' = i then H q' else G i' q', rfl, e0, ⟨fun x hx => by cases hx; exact hF _ hg, fun i' q' x hi' hq' hx => ?_, fun i' q' x hi' hq' ex hx => ?_, fun i1 q1 i2 q2 x h1 h2 h3 h4 hx hx' => ?_⟩, fun i' q' hi' hq' => ?_⟩
  · by_cases ei : i' = i
    · simp only [ei, if_true] at hx; exact hF' _ _ hq' hx
    · simp only [ei, if_false] at hx; exact hF _ (hs.sub _ _ _ hi' hq' hx)
  · cases ex
    by_cases ei : i' = i
    · simp only [ei, if_true] at hx; exact hH _ _ hq' hx hg
    · simp only [ei, if_false] at hx; exact hs.apart _ _ _ hi' hq' rfl hx
  · by_cases e1 : i1 = i
    · by_cases e2 : i2 = i
      · simp only [e1, e2, if_true] at hx hx'
        exact ⟨by omega, hE _ _ _ h2 h4 hx hx'⟩
      · simp only [e1, e2, if_true, if_false] at hx hx'
        exact absurd (hs.sub _ _ _ h3 h4 hx') (hH _ _ h2 hx)
    · by_cases e2 : i2 = i
      · simp only [e1, e2, if_true, if_false] at hx hx'
        exact absurd (hs.sub _ _ _ h1 h2 hx) (hH _ _ h4 hx')
      · simp only [e1, e2, if_false] at hx hx'
        exact hs.each _ _ _ _ _ h1 h2 h3 h4 hx hx'
  · have keep : ∀ {dd : Dt} {v : Value} {K : Nat → Prop}, Ow w B dd v K → (∀ x, K x → x ≠ g) → Ow (w.setCells g (i * sz) vs) B dd v K := fun ho hk => ho.frame fun x hx _ => heap_setCells_other g vs _ w x (hk x hx)
    by_cases ei : i' = i
    · simp only [ei, true_and, Nat.zero_le, if_true, Nat.sub_zero]
      exact keep (hv q' hq') (fun x hx e => by subst e; exact hH _ _ hq' hx hg)
    · simp only [ei, false_and, if_false]
      exact keep (hr i' q' hi' hq') (fun x hx e => by subst e; exact hs.apart _ _ _ hi' hq' rfl hx)
/-- A new list of structs whose cells lead to nothing. -/
theorem ow_made {w : World} {B t sz g n cap : Nat} {F : Nat → Prop} {zs : List Value} {f : Nat → Dt} (ho : w.ownsRow B t sz (.slice (some ⟨g, 0, none⟩) n cap) n (cL sz (fun _ q => zs.getD q undef) n)) (hz : ∀ q, q < sz → Ow w B (f q) (zs.getD q undef) (fun _ => False)) (hF : F g) : Ow w B (.lst t sz n (fun _ => f)) (.slice (some ⟨g, 0, none⟩) n cap) F :=
  ⟨_, cap, _, fun _ _ _ => False, rfl, ho, ⟨fun x e => by cases e; exact hF, fun _ _ _ _ _ h => h.elim, fun _ _ _ _ _ _ h => h, fun _ _ _ _ _ _ _ _ _ h => h.elim⟩, fun _ q _ hq => hz q hq⟩
theorem made_cL {zs : List Value} {n : Nat} (hz : 0 < zs.length) : (madeCells zs.toArray (n * zs.length)).toList = cL zs.length (fun _ q => zs.getD q undef) n := by
  apply List.ext_getElem?
  intro j
  by_cases hj : j < n * zs.length
  · have h1 := cL_get zs.length (fun _ q => zs.getD q undef) n (j / zs.length) (j % zs.length) ((Nat.div_lt_iff_lt_mul hz).2 hj) (Nat.mod_lt _ hz)
    rw [mid_eq] at h1
    rw [h1]
    have hl := Nat.mod_lt j hz
    simp [madeCells, hj, hl]
  · rw [List.getElem?_eq_none (by simp [size_madeCells]; omega), List.getElem?_eq_none (by rw [cL_len]; omega)]
end Go.Proofs.YtkcnpkkihbpnmaaDoor
/- Marks laid into a list of structs, cell by cell: what each step leaves. Definitions and lemmas; no walk. -/
namespace Go.Proofs.YtkcnpkkihbpnmaaDoor
set_option maxRecDepth 2000
open Go.ChangeShapes Go.WideShapes Go.ChangeAt Go.RowKit

end Go.Proofs.YtkcnpkkihbpnmaaDoor
/- Data in memory: a list of ours, grown by one struct (append). Lemmas, and the law of the walk over any program. -/
namespace Go.Proofs.YtkcnpkkihbpnmaaDoor
set_option maxRecDepth 2000
open Go.ChangeShapes Go.WideShapes Go.ChangeAt Go.RowKit

end Go.Proofs.YtkcnpkkihbpnmaaDoor
