/- For every input: the function SlotOf of the program answers as its model does, whatever its node and its root are; it leaves the node as it was, and its answer owns its memory. No condition. Written by a program. -/
import Derived.Test.YtgiegoamcfjfmaaGreatH20
import Derived.Test.YtgiegoamcfjfmaaGreatH33
import Derived.Test.YtgiegoamcfjfmaaGreatH29
namespace Go.Proofs.YtgiegoamcfjfmaaGreat
set_option maxRecDepth 2000
open Go.ChangeShapes Go.WideShapes Go.ChangeAt Go.RowKit
theorem Tryz.infoNdL2 : (Tryz.prog.info? 24).map (·.size) = some 3 := by kernel_rfl
theorem tot_ge2 {g : Nat → Nat} {n i : Nat} (hi : i < n) : g i ≤ tot g n := by have := tot_step (g := g) hi; omega
/-- What the count tells of the slots. -/
theorem wtL_little {n : Nat} {S : Nat → Sl} (h : wtL n S ≤ 1048576) : n ≤ 1048576 ∧ (∀ i, i < n → SlS (S i)) ∧ (∀ i, i < n → SlK (S i)) ∧ 1 + tot (fun i => wkS (S i)) n ≤ 40000000 := by
  unfold wtL at h
  have hw : ∀ i, i < n → wtS (S i) ≤ 1048576 := fun i hi => by have : wtS (S i) ≤ tot (fun i => wtS (S i)) n := tot_ge2 (g := fun i => wtS (S i)) hi; omega
  have h10 : tot (fun i => wkS (S i)) n ≤ 10 * n + tot (fun i => wtS (S i)) n := by
    clear h hw
    induction n with
    | zero => exact Nat.le_refl _
    | succ n ih =>
      show tot (fun i => wkS (S i)) n + wkS (S n) ≤ 10 * (n + 1) + (tot (fun i => wtS (S i)) n + wtS (S n))
      have : wkS (S n) ≤ 10 + wtS (S n) := by unfold wkS wtS wtP; omega
      omega
  refine ⟨by omega, fun i hi => ?_, fun i hi => ?_, by omega⟩
  · have := hw i hi
    unfold wtS wtP at this
    exact ⟨by omega, by omega, by omega⟩
  · have := hw i hi
    unfold wtS wtP at this
    refine ⟨by omega, by omega, by omega, by omega, fun j hj => ?_, by omega, by omega⟩
    have : ((S i).p.S j).size ≤ tot (fun j => ((S i).p.S j).size) (S i).p.m := tot_ge2 (g := fun j => ((S i).p.S j).size) hj
    omega
/-- What stands in memory while the law is gone through. -/
structure SoF (w : World) (B E X G bx bg : Nat) (id f : Int) (a : Option Addr) (n c gx : Nat) (T TG : Sl) (v6 v11 v12 u6 u11 u12 : Value) (W : World) : Prop where
  rb : Row W B 24 #[.int .i64 id, .int .i64 f, .slice a n c]
  re : Row W E 62 (slC T v6 v11 v12)
  rx : Row W X 34 #[.int .i64 id, .int .i64 f, .slice (some ⟨gx, 0, none⟩) n n]
  rg : Row W G 62 (slC T u6 u11 u12)
  se : ∃ F6 F11 F12, SlO W 0 T v6 v11 v12 F6 F11 F12 ∧ ∀ g, F6 g ∨ F11 g ∨ F12 g → g < bx
  sg : ∃ F6 F11 F12, SlO W bg TG u6 u11 u12 F6 F11 F12 ∧ ∀ g, F6 g ∨ F11 g ∨ F12 g → bg ≤ g ∧ g < G
  bw : Below w.heap.size w W
theorem SlO.below {w w' : World} {B : Nat} {s : Sl} {v6 v11 v12 : Value} {F6 F11 F12 : Nat → Prop} (h : SlO w B s v6 v11 v12 F6 F11 F12) (hb : Below w.heap.size w w') : SlO w' B s v6 v11 v12 F6 F11 F12 := ⟨h.t.below hb, h.e.below hb, h.z.below hb, h.d1, h.d2, h.d3⟩
theorem SlO.turned {w w' : World} {B : Nat} {s : Sl} {v6 v11 v12 : Value} {F6 F11 F12 F : Nat → Prop} (h : SlO w B s v6 v11 v12 F6 F11 F12) (ht : Trn w w' F) (hd : ∀ g, F6 g ∨ F11 g ∨ F12 g → ¬ F g) : SlO w' B s v6 v11 v12 F6 F11 F12 := ⟨h.t.turned ht (fun g hg => hd g (.inl hg)), h.e.turned ht (fun g hg => hd g (.inr (.inl hg))), h.z.turned ht (fun g hg => hd g (.inr (.inr hg))), h.d1, h.d2, h.d3⟩
theorem SlO.cut {w : World} {B : Nat} {s : Sl} {v6 v11 v12 : Value} {F6 F11 F12 : Nat → Prop} (h : SlO w B s v6 v11 v12 F6 F11 F12) : ∃ H6 H11 H12, SlO w B s v6 v11 v12 H6 H11 H12 ∧ ∀ g, H6 g ∨ H11 g ∨ H12 g → B ≤ g ∧ g < w.heap.size :=
  ⟨_, _, _, ⟨h.t.cut, h.e.cut, h.z.cut, fun g h1 h2 => h.d1 g h1.1 h2.1, fun g h1 h2 => h.d2 g h1.1 h2.1, fun g h1 h2 => h.d3 g h1.1 h2.1⟩, fun g hg => by rcases hg with hg | hg | hg <;> exact hg.2⟩
theorem SlO.base {w : World} {B B' : Nat} {s : Sl} {v6 v11 v12 : Value} {F6 F11 F12 : Nat → Prop} (h : SlO w B s v6 v11 v12 F6 F11 F12) (hB : B' ≤ B) : SlO w B' s v6 v11 v12 F6 F11 F12 := ⟨h.t.base hB, h.e.base hB, h.z.base hB, h.d1, h.d2, h.d3⟩
theorem SlO.rd {w : World} {B : Nat} {s : Sl} {a6 a11 a12 : Option Addr} {c6 c11 c12 m e z : Nat} {F6 F11 F12 : Nat → Prop} (h : SlO w B s (.slice a6 m c6) (.slice a11 e c11) (.slice a12 z c12) F6 F11 F12) : TxtAt w a6 s.p.m s.p.S ∧ IntsAt w a11 s.ze.length s.ze ∧ IntsAt w a12 s.zr.length s.zr := by
  have h1 := h.t.rd
  have h2 := h.e.rd
  have h3 := h.z.rd
  obtain ⟨_, _, e1⟩ := h1.shape
  obtain ⟨_, _, e2⟩ := h2.shape
  obtain ⟨_, _, e3⟩ := h3.shape
  simp only [Value.slice.injEq] at e1 e2 e3
  rw [e1.2.1] at h1
  rw [e2.2.1] at h2
  rw [e3.2.1] at h3
  exact ⟨rd_txt.1 h1, rd_ints.1 h2, rd_ints.1 h3⟩
section
variable {w W W' : World} {B E X G bx bg : Nat} {id f : Int} {a : Option Addr} {n c gx : Nat} {T TG TH : Sl} {v6 v11 v12 u6 u11 u12 : Value}
theorem SoF.below (h : SoF w B E X G bx bg id f a n c gx T TG v6 v11 v12 u6 u11 u12 W) (hb : Below W.heap.size W W') : SoF w B E X G bx bg id f a n c gx T TG v6 v11 v12 u6 u11 u12 W' := by
  obtain ⟨F6, F11, F12, s1, s2⟩ := h.se
  obtain ⟨H6, H11, H12, g1, g2⟩ := h.sg
  exact ⟨h.rb.below hb h.rb.lt, h.re.below hb h.re.lt, h.rx.below hb h.rx.lt, h.rg.below hb h.rg.lt, ⟨_, _, _, s1.below hb, s2⟩, ⟨_, _, _, g1.below hb, g2⟩, below2 h.bw hb⟩
end
end Go.Proofs.YtgiegoamcfjfmaaGreat
