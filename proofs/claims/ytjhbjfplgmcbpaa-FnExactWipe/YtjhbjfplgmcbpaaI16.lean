/- Marks laid into a list of structs, cell by cell: what each step leaves. Definitions and lemmas; no walk. -/
import Derived.Test.YtjhbjfplgmcbpaaI12
import Derived.Test.YtjhbjfplgmcbpaaI8
namespace Go.Proofs.Ytjhbjfplgmcbpaa
set_option maxRecDepth 2000
open Go.ChangeShapes Go.WideShapes Go.ChangeAt Go.RowKit

/-- A list of structs that is being marked: its cells are ours, each with its own memory. -/
def MkS (w : World) (B t sz g n cap : Nat) (G : Nat → Nat → Nat → Prop) (D : Nat → Nat → Dt) : Prop :=
  ∃ c, w.ownsRow B t sz (.slice (some ⟨g, 0, none⟩) n cap) n (cL sz c n) ∧ ∀ i q, i < n → q < sz → Ow w B (D i q) (c i q) (G i q)
theorem Ow.mk {w : World} {B t sz g n cap : Nat} {D : Nat → Nat → Dt} {F : Nat → Prop} (h : Ow w B (.lst t sz n D) (.slice (some ⟨g, 0, none⟩) n cap) F) : ∃ G, Sep (some ⟨g, 0, none⟩) n sz G F ∧ MkS w B t sz g n cap G D := by
  obtain ⟨a, cap', c, G, e, ho, hs, hr⟩ := h
  cases e
  exact ⟨G, hs, c, ho, hr⟩
theorem MkS.ow {w : World} {B t sz g n cap : Nat} {G : Nat → Nat → Nat → Prop} {D : Nat → Nat → Dt} {F : Nat → Prop} (h : MkS w B t sz g n cap G D) (hs : Sep (some ⟨g, 0, none⟩) n sz G F) : Ow w B (.lst t sz n D) (.slice (some ⟨g, 0, none⟩) n cap) F := by
  obtain ⟨c, ho, hr⟩ := h
  exact ⟨_, cap, c, G, rfl, ho, hs, hr⟩
theorem MkS.below {w w' : World} {B t sz g n cap : Nat} {G : Nat → Nat → Nat → Prop} {D : Nat → Nat → Dt} (h : MkS w B t sz g n cap G D) (hb : Below w.heap.size w w') : MkS w' B t sz g n cap G D := by
  obtain ⟨c, ho, hr⟩ := h
  exact ⟨c, ownsRow_below ho hb, fun i q hi hq => (hr i q hi hq).below hb⟩
theorem MkS.congr {w : World} {B t sz g n cap : Nat} {G : Nat → Nat → Nat → Prop} {D D' : Nat → Nat → Dt} (h : MkS w B t sz g n cap G D) (e : ∀ i q, i < n → q < sz → D i q = D' i q) : MkS w B t sz g n cap G D' := by
  obtain ⟨c, ho, hr⟩ := h
  exact ⟨c, ho, fun i q hi hq => by rw [← e i q hi hq]; exact hr i q hi hq⟩
theorem MkS.lt {w : World} {B t sz g n cap : Nat} {G : Nat → Nat → Nat → Prop} {D : Nat → Nat → Dt} (h : MkS w B t sz g n cap G D) : B ≤ g ∧ g < w.heap.size := by
  obtain ⟨c, ho, hr⟩ := h
  exact World.ownsRow.lt ho g rfl
theorem MkS.cell {w : World} {B t sz g n cap : Nat} {G : Nat → Nat → Nat → Prop} {D : Nat → Nat → Dt} (h : MkS w B t sz g n cap G D) {i q : Nat} (hi : i < n) (hq : q < sz) : ∃ v, w.cell? ⟨g, i * sz + q, none⟩ = some v ∧ w.frozen? ⟨g, i * sz + q, none⟩ = false ∧ Ow w B (D i q) v (G i q) := by
  obtain ⟨c, ho, hr⟩ := h
  exact ⟨c i q, by rw [World.ownsRow.cellAt ho _ (mid_lt hi hq)]; exact cL_get _ _ _ _ _ hi hq, World.ownsRow.frozenAt ho _, hr i q hi hq⟩
theorem MkS.set {w : World} {B t sz g n cap : Nat} {G : Nat → Nat → Nat → Prop} {D : Nat → Nat → Dt} {F : Nat → Prop} (h : MkS w B t sz g n cap G D) (hs : Sep (some ⟨g, 0, none⟩) n sz G F) {i q : Nat} (hi : i < n) (hq : q < sz) (v : Value) : MkS (w.setCell ⟨g, i * sz + q, none⟩ v) B t sz g n cap G (fun i' q' => if i' = i ∧ q' = q then .val v else D i' q') := by
  obtain ⟨c, ho, hr⟩ := h
  have h1 := (World.ownsRow.stored ho (i * sz + q) v).1
  rw [cL_set _ _ _ _ _ _ hi hq] at h1
  refine ⟨_, h1, fun i' q' hi' hq' => ?_⟩
  by_cases e : i' = i ∧ q' = q
  · simp only [e, and_self, if_true]
    rfl
  · simp only [e, if_false]
    exact (hr i' q' hi' hq').frame fun x hx _ => heap_setCell_other w ⟨g, i * sz + q, none⟩ x v (fun ex => by
      have ex' : x = g := ex
      subst ex'
      exact hs.apart i' q' _ hi' hq' rfl hx)
theorem MkS.turn {w w' : World} {B t sz g n cap : Nat} {G : Nat → Nat → Nat → Prop} {D : Nat → Nat → Dt} {F : Nat → Prop} (h : MkS w B t sz g n cap G D) (hs : Sep (some ⟨g, 0, none⟩) n sz G F) {i q : Nat} (hi : i < n) (hq : q < sz) {v : Value} {d : Dt} (hc : w.cell? ⟨g, i * sz + q, none⟩ = some v) (ho' : Ow w' B d v (G i q)) (ht : Trn w w' (G i q)) : MkS w' B t sz g n cap G (fun i' q' => if i' = i ∧ q' = q then d else D i' q') := by
  obtain ⟨c, ho, hr⟩ := h
  have hv : c i q = v := by
    rw [World.ownsRow.cellAt ho _ (mid_lt hi hq), cL_get _ _ _ _ _ hi hq] at hc
    exact Option.some.inj hc
  have hg := World.ownsRow.lt ho g rfl
  refine ⟨c, ⟨ho.1, ?_⟩, fun i' q' hi' hq' => ?_⟩
  · rcases ho.2 with h' | ⟨g', cap', cur, h1, h2, h3, h4⟩
    · exact .inl h'
    · refine .inr ⟨g', cap', cur, h1, h2, ?_, h4⟩
      have e : g' = g := by cases h1; rfl
      subst e
      rw [ht.block g' hg.2 (hs.apart i q _ hi hq rfl)]
      exact h3
  · by_cases e : i' = i ∧ q' = q
    · simp only [e, and_self, if_true]
      rw [hv]
      exact ho'
    · simp only [e, if_false]
      exact (hr i' q' hi' hq').turned ht fun x hx hx' => e (hs.each i' q' i q x hi' hq' hi hq hx hx')
/-- Marks over a list of texts, by data. -/
theorem markD_txt (B : Nat) (v : Value) (m : Nat) (S : Nat → ByteArray) (k q : Nat) (F : Nat → Prop) (w : World) (h : Ow w B (txD m S) v F) (hn : m ≤ 1048576) (hk : k ≤ 50000000) (hq : k + m = q) :
    Calls Try.prog 49 #[v, .int .i64 (k : Int)] w fun e w' => e = .returned (.int .i64 (q : Int)) ∧ Ow w' B (txD m (fun i => mtxt (k + i))) v F ∧ Trn w w' F := by
  obtain ⟨a, cap, rfl, ho, hF⟩ := txt_ow h
  cases a with
  | none =>
    refine (markT2_any B B none m cap S k q w ⟨ho, fun x e => by cases e⟩ hn hk hq).mono ?_
    rintro e w' ⟨rfl, hR, hT⟩
    exact ⟨rfl, ow_txt hR.1 (fun x e => by cases e), Trn.ofM hT (fun g h1 h2 => absurd h1 (by omega))⟩
  | some x =>
    have hx : x = ⟨x.block, 0, none⟩ := by
      rcases own_shape ho with ⟨h0, _⟩ | ⟨g, cur, e, _⟩
      · cases h0
      · cases e; rfl
    have hB := (World.ownsRow.lt ho x.block (by rw [hx]; rfl)).1
    have hR0 : RowT w x.block (x.block + 1) (some x) m cap S := by
      refine ⟨⟨ho.1, ?_⟩, fun y e => by cases e; exact ⟨Nat.le_refl _, by omega⟩⟩
      rcases ho.2 with h' | ⟨g', cap', cur, h', _, hr⟩
      · exact .inl h'
      · exact .inr ⟨g', cap', cur, h', by cases h'; exact Nat.le_refl _, hr⟩
    refine (markT2_any x.block (x.block + 1) (some x) m cap S k q w hR0 hn hk hq).mono ?_
    rintro e w' ⟨rfl, hR, hT⟩
    exact ⟨rfl, ow_txt (OwnT.base hR.1 hB) (fun y e => by cases e; exact hF _ rfl), Trn.ofM hT (fun g h1 h2 => (show g = x.block by omega) ▸ hF _ rfl)⟩
end Go.Proofs.Ytjhbjfplgmcbpaa
