/- What a node hears, in the program, whatever the node. Conditions: lists and texts of at most 2^20. -/
import Derived.Test.YtgiegoamcfjfmaaGreatJ49
import Derived.Test.YtgiegoamcfjfmaaGreatJ41
import Derived.Test.YtgiegoamcfjfmaaGreatJ43
import Derived.Test.YtgiegoamcfjfmaaGreatJ39
import Derived.Test.YtgiegoamcfjfmaaGreatJ42
import Derived.Deep.CutRange
import Derived.Test.YtgiegoamcfjfmaaGreatJ31
import Derived.Test.YtgiegoamcfjfmaaGreatJ37
import Derived.Test.YtgiegoamcfjfmaaGreatJ30
namespace Go.Proofs.YtgiegoamcfjfmaaGreat
set_option maxRecDepth 2000
open Go.ChangeShapes Go.WideShapes Go.ChangeAt Go.RowKit

theorem NumP.at {f : Int} {zs : List Int} (h : NumP f zs) : ∀ i, i < zs.length → (i : Int) ≤ zs.getD i 0 := by
  intro i
  induction i with
  | zero => intro hi; exact_mod_cast (h 0 hi).1.1
  | succ j ih =>
    intro hi
    have h1 := ih (by omega)
    have h2 := (h (j + 1) hi).2 (by omega)
    simp only [Nat.add_sub_cancel] at h2
    omega
theorem NumP.len {f : Int} {zs : List Int} (h : NumP f zs) (hf : 1 ≤ f ∧ f ≤ 3) : zs.length ≤ 10 := by
  rcases Nat.eq_zero_or_pos zs.length with k | k
  · omega
  · have h1 := h.at (zs.length - 1) (by omega)
    have h2 := (h (zs.length - 1) (by omega)).1.2
    omega
theorem NumP.step {f : Int} {zs : List Int} (h : NumP f zs) (i : Nat) : ∀ d, i + d < zs.length → zs.getD i 0 ≤ zs.getD (i + d) 0 := by
  intro d
  induction d with
  | zero => intro _; exact Int.le_refl _
  | succ j ih =>
    intro hi
    have h1 := ih (by omega)
    have h2 := (h (i + (j + 1)) hi).2 (by omega)
    have e : i + (j + 1) - 1 = i + j := by omega
    rw [e] at h2
    omega
theorem NumP.sorted {f : Int} {zs : List Int} (h : NumP f zs) : zs.Pairwise (· ≤ ·) := by
  rw [List.pairwise_iff_getElem]
  intro i j hi hj hij
  have := h.step i (j - i) (by omega)
  have e : i + (j - i) = j := by omega
  rw [e] at this
  simpa [List.getD_eq_getElem?_getD, List.getElem?_eq_getElem hi, List.getElem?_eq_getElem hj] using this
theorem numP_of {f : Int} {zs : List Int} (h : numB f zs = true) : NumP f zs := by
  rcases Classical.em (NumP f zs) with k | k
  · exact k
  · rw [numB_no k] at h; cases h
theorem ndP_of {id f : Int} {n : Nat} {S : Nat → Sl} (h : ndB id f n S = true) : NdP id f n S := by
  rcases Classical.em (NdP id f n S) with k | k
  · exact k
  · rw [ndB_no k] at h; cases h
theorem mindP_of {id f : Int} {n : Nat} {S : Nat → Sl} {y : Sy} (h : mindB id f n S y = true) : MindP id f n S y := by
  rcases Classical.em (MindP id f n S y) with k | k
  · exact k
  · rw [mindB_no k] at h; cases h
theorem slF_at (S : Nat → Sl) (r : ByteArray) (n : Nat) : (plN S r n = n ∧ slF S r n (plN S r n) = slR r) ∨ (plN S r n < n ∧ slF S r n (plN S r n) = S (plN S r n) ∧ (S (plN S r n)).r = r) := by
  unfold plN
  cases e : plc S r n with
  | none => left; simp [slF]
  | some x =>
    obtain ⟨_, h, h1, _⟩ := plF_some e
    right
    refine ⟨by simp; omega, ?_, h1⟩
    unfold slF; rw [if_neg (by simp; omega)]
/-- Whether a node makes anything of what it hears. -/
noncomputable def nhB (id f : Int) (n : Nat) (S : Nat → Sl) (y : Sy) : Bool := ndB id f n S && mindB id f n S y
noncomputable def nhN (id f : Int) (n : Nat) (S : Nat → Sl) (y : Sy) : Nat := if nhB id f n S y then hrN S y.r n else n
noncomputable def nhS (id f : Int) (n : Nat) (S : Nat → Sl) (y : Sy) : Nat → Sl := if nhB id f n S y then hvS id f (slF S y.r n) (plN S y.r n) y else S
noncomputable def nhM (id f : Int) (n : Nat) (S : Nat → Sl) (y : Sy) : Nat := if nhB id f n S y then hvM id f (slF S y.r n) (plN S y.r n) y else 0
noncomputable def nhY (id f : Int) (n : Nat) (S : Nat → Sl) (y : Sy) : Nat → Sy := if nhB id f n S y then hvY id (slF S y.r n) (plN S y.r n) y else fun _ => syA 0 0 y.r 0
theorem hvK_of {id f : Int} {n : Nat} {S : Nat → Sl} {y : Sy} (hB : NhB n S y) (h : NdP id f n S) : HvK (slF S y.r n) (plN S y.r n) y := by
  have hf := seB_f h.1
  rcases slF_at S y.r n with ⟨_, k⟩ | ⟨k1, k, _⟩
  · refine ⟨?_, ?_, ?_, ?_, ?_, hB.m, hB.pr, hB.pb, hB.ps⟩ <;> rw [k]
    · simp [slR]
    · simp [slR]
    · simp [slR]
    · simp [slR]
    · exact hB.r
  · have hs := (h.2.2 _ k1).1
    have he := numP_of hs.2.1
    have hz := numP_of hs.2.2.1
    refine ⟨?_, ?_, ?_, ?_, ?_, hB.m, hB.pr, hB.pb, hB.ps⟩ <;> rw [k]
    · have := he.len hf; omega
    · have := hz.len hf; omega
    · exact he.sorted
    · exact hz.sorted
    · have := hs.1; omega
theorem nodeHear_any (id f : Int) (a : Option Addr) (n cap : Nat) (S : Nat → Sl) (y : Sy) (a9 : Option Addr) (c9 : Nat) (w : World) (hT : Rd w (slsD n S) (.slice a n cap)) (h9 : TxtAt w a9 y.p.m y.p.S) (hB : NhB n S y) :
    Calls Tryz.prog 14 #[ndV id f (.slice a n cap), syV y (.slice a9 y.p.m c9)] w fun e w' => NhA w w' id f (nhN id f n S y) (nhS id f n S y) (nhM id f n S y) (nhY id f n S y) e := by
  cases e1 : ndB id f n S with
  | false =>
    have hb : nhB id f n S y = false := by unfold nhB; rw [e1]; rfl
    simp only [nhN, nhS, nhM, nhY, hb]
    exact nodeHear_no1 id f a n cap S y a9 c9 w hT hB e1
  | true =>
    have hP := ndP_of e1
    cases e2 : mindB id f n S y with
    | false =>
      have hb : nhB id f n S y = false := by unfold nhB; rw [e1, e2]; rfl
      simp only [nhN, nhS, nhM, nhY, hb]
      exact nodeHear_no2 id f a n cap S y a9 c9 w hT hB e1 (seB_f hP.1) e2
    | true =>
      have hM := mindP_of e2
      have hb : nhB id f n S y = true := by unfold nhB; rw [e1, e2]; rfl
      simp only [nhN, nhS, nhM, nhY, hb, if_true]
      exact nodeHear_yes id f a n cap S y a9 c9 w hT h9 hB e1 (seB_f hP.1) e2 hM.2.2.1 (hvK_of hB hP)
end Go.Proofs.YtgiegoamcfjfmaaGreat
/- What a node hears, in the model: up to whether it makes anything of it. Conditions: lists and texts of at most 2^20. -/
namespace Go.Proofs.YtgiegoamcfjfmaaGreat
set_option maxRecDepth 2000
open Go.ChangeShapes Go.WideShapes Go.ChangeAt Go.RowKit Go.Sort

/-- What is read, whatever becomes of some blocks. -/
def Rf (W : World) (E : Nat → Prop) (d : Dt) (v : Value) : Prop := ∀ W', W.heap.size ≤ W'.heap.size → (∀ b, ¬ E b → b < W.heap.size → W'.heap[b]? = W.heap[b]?) → Rd W' d v
theorem Rf.rd {W : World} {E : Nat → Prop} {d : Dt} {v : Value} (h : Rf W E d v) : Rd W d v := h W (Nat.le_refl _) (fun _ _ _ => rfl)
theorem Rf.turn {W W2 : World} {E : Nat → Prop} {d : Dt} {v : Value} (h : Rf W E d v) (hs : W.heap.size ≤ W2.heap.size) (ht : ∀ b, ¬ E b → b < W.heap.size → W2.heap[b]? = W.heap[b]?) : Rf W2 E d v :=
  fun W' h1 h2 => h W' (Nat.le_trans hs h1) (fun b hb hl => (h2 b hb (Nat.lt_of_lt_of_le hl hs)).trans (ht b hb hl))
theorem Rf.below {W W2 : World} {E : Nat → Prop} {d : Dt} {v : Value} (h : Rf W E d v) (hb : Below W.heap.size W W2) : Rf W2 E d v := h.turn hb.size (fun b _ hl => hb.block b hl)
theorem Rf.setCell {W : World} {E : Nat → Prop} {d : Dt} {v : Value} (h : Rf W E d v) {g : Nat} (hg : E g) (i : Nat) (u : Value) : Rf (W.setCell ⟨g, i, none⟩ u) E d v := h.turn (by simp) (fun b hb _ => Below.heap_setCell _ _ _ _ (fun e => hb (e ▸ hg)))
theorem Rf.setRow {W : World} {E : Nat → Prop} {d : Dt} {v : Value} (h : Rf W E d v) {g : Nat} (hg : E g) (cs : Array Value) : Rf (W.setRow g cs) E d v := h.turn (by simp) (fun b hb _ => setRow_other _ _ _ _ (fun e => hb (e ▸ hg)))
theorem Rf.of_ow {W : World} {B : Nat} {E F : Nat → Prop} {d : Dt} {v : Value} (h : Ow W B d v F) (hE : ∀ x, F x → ¬ E x) : Rf W E d v := fun _ _ h2 => (h.frame (fun x hx hl => h2 x (hE x hx) hl)).rd
theorem Rf.val {W : World} {E : Nat → Prop} (v : Value) : Rf W E (.val v) v := fun _ _ _ => rfl
theorem Rf.mono {W : World} {E E' : Nat → Prop} {d : Dt} {v : Value} (h : Rf W E d v) (he : ∀ x, E' x → E x) : Rf W E' d v := fun W' h1 h2 => h W' h1 (fun b hb hl => h2 b (fun k => hb (he b k)) hl)
theorem cell_same {W W' : World} {b o : Nat} (h : W'.heap[b]? = W.heap[b]?) : W'.cell? ⟨b, o, none⟩ = W.cell? ⟨b, o, none⟩ := by
  simp only [World.cell?, h]
theorem Rf.ints {W : World} {E : Nat → Prop} {a : Option Addr} {c : Nat} {zs : List Int} (h : IntsAt W a zs.length zs) (hE : ∀ b, a = some b → ¬ E b.block) : Rf W E (inD zs) (.slice a zs.length c) := by
  intro W' h1 h2
  refine rd_ints.2 ⟨h.1, fun i hi => ?_⟩
  obtain ⟨b, off, ea, hc⟩ := h.2 i hi
  refine ⟨b, off, ea, ?_⟩
  have hl : b < W.heap.size := block_lt_of_cell hc
  rw [cell_same (h2 b (hE _ ea) hl)]
  exact hc
theorem SlK.s {s : Sl} (h : SlK s) : SlS s := ⟨h.m, h.ne, h.nr⟩
theorem rd_none (W : World) (g : Nat) (y : Nat → Sy) : Rd W (sysD 0 y) (.slice (some ⟨g, 0, none⟩) 0 0) := ⟨_, _, rfl, fun i hi => absurd hi (Nat.not_lt_zero i)⟩
/-- The model at its test: its three blocks, its copy, what is said so far. -/
structure MhA (w w0 W : World) (A C D : Nat) (id f : Int) (g n c : Nat) (S : Nat → Sl) (y : Sy) (a9 : Option Addr) (c9 gs : Nat) : Prop where
  ra : Row W A 34 #[.int .i64 id, .int .i64 f, .slice (some ⟨g, 0, none⟩) n c]
  rc : Row W C 41 (syC y (.slice a9 y.p.m c9))
  rd : Row W D 34 #[.int .i64 0, .int .i64 0, .slice none 0 0]
  o : Ow W w0.heap.size (slsD n S) (.slice (some ⟨g, 0, none⟩) n c) (rng w0.heap.size gs)
  b : Below w.heap.size w W
  s : Row W gs 41 #[]
  l1 : w0.heap.size ≤ gs
  l2 : gs < W.heap.size
theorem MhA.below {w w0 W W' : World} {A C D : Nat} {id f : Int} {g n c : Nat} {S : Nat → Sl} {y : Sy} {a9 : Option Addr} {c9 gs : Nat} (h : MhA w w0 W A C D id f g n c S y a9 c9 gs) (hb : Below W.heap.size W W') : MhA w w0 W' A C D id f g n c S y a9 c9 gs :=
  ⟨h.ra.below hb h.ra.lt, h.rc.below hb h.rc.lt, h.rd.below hb h.rd.lt, h.o.below hb, below2 h.b hb, h.s.below hb h.s.lt, h.l1, Nat.lt_of_lt_of_le h.l2 hb.size⟩
end Go.Proofs.YtgiegoamcfjfmaaGreat
/- A new node's block that is laid at any time in a region that draws its order. -/
namespace Go.Proofs.YtgiegoamcfjfmaaGreat
set_option maxRecDepth 2000
open Go.ChangeShapes Go.WideShapes Go.ChangeAt Go.RowKit

theorem alN_below (W : World) : Below W.heap.size W (W.alloc (.cells #[.int .i64 0, .int .i64 0, .slice none 0 0] 34)) := (Below.refl _ _).alloc (Nat.le_refl _) _
theorem alN_lt (W : World) : W.heap.size < (W.alloc (.cells #[.int .i64 0, .int .i64 0, .slice none 0 0] 34)).heap.size := by simp
/-- The block is there, behind a world. -/
structure ReN (w2 v : World) (E : Nat) : Prop where
  r : Row v E 34 #[.int .i64 0, .int .i64 0, .slice none 0 0]
  l : w2.heap.size ≤ E
theorem ReN.new {w2 W v : World} (h : Below w2.heap.size w2 W) (b : Below (W.alloc (.cells #[.int .i64 0, .int .i64 0, .slice none 0 0] 34)).heap.size (W.alloc (.cells #[.int .i64 0, .int .i64 0, .slice none 0 0] 34)) v) : ReN w2 v W.heap.size :=
  ⟨(Row.new W _ _).below b (Row.new W _ _).lt, h.size⟩
theorem ReN.below {w2 v v' : World} {E : Nat} (h : ReN w2 v E) (b : Below v.heap.size v v') : ReN w2 v' E := ⟨h.r.below b h.r.lt, h.l⟩
theorem ReN.cells {w2 v : World} {E : Nat} (h : ReN w2 v E) : (v.cell? ⟨E, 0, none⟩ = some (.int .i64 0) ∧ v.cell? ⟨E, 1, none⟩ = some (.int .i64 0) ∧ v.cell? ⟨E, 2, none⟩ = some (.slice none 0 0)) ∧ v.frozen? ⟨E, 0, none⟩ = false ∧ v.frozen? ⟨E, 1, none⟩ = false ∧ v.frozen? ⟨E, 2, none⟩ = false := by
  have h0 := h.r.cell 0
  have h1 := h.r.cell 1
  have h2 := h.r.cell 2
  simp at h0 h1 h2
  exact ⟨⟨h0, h1, h2⟩, h.r.free 0, h.r.free 1, h.r.free 2⟩
theorem Rf.own {v : World} {B : Nat} {d : Dt} {x : Value} {F : Nat → Prop} (h : Ow v B d x F) : Rf v (fun b => b < B) d x := Rf.of_ow h.cut (fun b hb k => by have h1 := hb.2.1; have h2 : b < B := k; omega)
theorem ReN.fin {w2 v W : World} {E : Nat} {d1 d2 : Dt} {x1 x2 : Value} (h : ReN w2 v E) (hl : E < W.heap.size) (h1 : Rf v (fun b => b < W.heap.size) d1 x1) (h2 : Rf v (fun b => b < W.heap.size) d2 x2) (b : Below w2.heap.size w2 v) (id f : Int) (s : Value) :
    Row (((v.setCell ⟨E, 0, none⟩ (.int .i64 id)).setCell ⟨E, 1, none⟩ (.int .i64 f)).setCell ⟨E, 2, none⟩ s) E 34 #[.int .i64 id, .int .i64 f, s] ∧ Rd (((v.setCell ⟨E, 0, none⟩ (.int .i64 id)).setCell ⟨E, 1, none⟩ (.int .i64 f)).setCell ⟨E, 2, none⟩ s) d1 x1 ∧ Rd (((v.setCell ⟨E, 0, none⟩ (.int .i64 id)).setCell ⟨E, 1, none⟩ (.int .i64 f)).setCell ⟨E, 2, none⟩ s) d2 x2 ∧ Below w2.heap.size w2 (((v.setCell ⟨E, 0, none⟩ (.int .i64 id)).setCell ⟨E, 1, none⟩ (.int .i64 f)).setCell ⟨E, 2, none⟩ s) := by
  have r0 : Row (v.setCell ⟨E, 0, none⟩ (.int .i64 id)) E 34 #[.int .i64 id, .int .i64 0, .slice none 0 0] := h.r.set 0 _
  have r1 : Row ((v.setCell ⟨E, 0, none⟩ (.int .i64 id)).setCell ⟨E, 1, none⟩ (.int .i64 f)) E 34 #[.int .i64 id, .int .i64 f, .slice none 0 0] := r0.set 1 _
  exact ⟨r1.set 2 _, (((h1.setCell hl 0 _).setCell hl 1 _).setCell hl 2 _).rd, (((h2.setCell hl 0 _).setCell hl 1 _).setCell hl 2 _).rd, ((b.setCell h.l _).setCell h.l _).setCell h.l _⟩
theorem fresh_fin {w2 v W : World} {d1 d2 : Dt} {x1 x2 : Value} (h1 : Rf v (fun b => b < W.heap.size) d1 x1) (h2 : Rf v (fun b => b < W.heap.size) d2 x2) (b : Below w2.heap.size w2 v) (id f : Int) (s : Value) :
    Row (v.alloc (.cells #[.int .i64 id, .int .i64 f, s] 34)) v.heap.size 34 #[.int .i64 id, .int .i64 f, s] ∧ Rd (v.alloc (.cells #[.int .i64 id, .int .i64 f, s] 34)) d1 x1 ∧ Rd (v.alloc (.cells #[.int .i64 id, .int .i64 f, s] 34)) d2 x2 ∧ Below w2.heap.size w2 (v.alloc (.cells #[.int .i64 id, .int .i64 f, s] 34)) := by
  have bG : Below v.heap.size v (v.alloc (.cells #[.int .i64 id, .int .i64 f, s] 34)) := (Below.refl _ _).alloc (Nat.le_refl _) _
  exact ⟨Row.new v _ _, h1.rd.below bG, h2.rd.below bG, below2 b bG⟩
end Go.Proofs.YtgiegoamcfjfmaaGreat
/- What a node hears, in the model: what its making of it stands on. Conditions: lists and texts of at most 2^20. -/
namespace Go.Proofs.YtgiegoamcfjfmaaGreat
set_option maxRecDepth 2000
open Go.ChangeShapes Go.WideShapes Go.ChangeAt Go.RowKit Go.Sort

/-- The model's own blocks: the saying, and where its answer will lie. -/
structure MhC (w W : World) (C D : Nat) (y : Sy) (a9 : Option Addr) (c9 : Nat) : Prop where
  rc : Row W C 41 (syC y (.slice a9 y.p.m c9))
  rd : Row W D 34 #[.int .i64 0, .int .i64 0, .slice none 0 0]
  b : Below w.heap.size w W
theorem MhC.below {w W W' : World} {C D : Nat} {y : Sy} {a9 : Option Addr} {c9 : Nat} (h : MhC w W C D y a9 c9) (hb : Below W.heap.size W W') : MhC w W' C D y a9 c9 := ⟨h.rc.below hb h.rc.lt, h.rd.below hb h.rd.lt, below2 h.b hb⟩
theorem below_setCell {B : Nat} {w W : World} (h : Below B w W) {g : Nat} (hg : B ≤ g) (i : Nat) (v : Value) : Below B w (W.setCell ⟨g, i, none⟩ v) := h.setCell hg v
def mhE (B g X A D b : Nat) : Prop := b = g ∨ b = X ∨ b = A ∨ (b = D ∨ b < B)
/-- .. and the block of what is said. -/
def mhG (B g X A D gs b : Nat) : Prop := mhE B g X A D b ∨ b = gs
/-- The model with its slot in a block of its own. -/
structure MhX (w W : World) (A C D X : Nat) (id f : Int) (g n c : Nat) (S : Nat → Sl) (F1 : Nat → Prop) (y : Sy) (a9 : Option Addr) (c9 : Nat) (x : Sl) (a6 a11 a12 : Option Addr) (c6 c11 c12 : Nat) (G6 G11 G12 : Nat → Prop) (gs : Nat) : Prop where
  nw : Nw W w.heap.size A id f g n c S F1
  k : MhC w W C D y a9 c9
  rx : Row W X 62 (slC x (.slice a6 x.p.m c6) (.slice a11 x.ze.length c11) (.slice a12 x.zr.length c12))
  t : Ow W w.heap.size (txD x.p.m x.p.S) (.slice a6 x.p.m c6) G6
  e : Ow W w.heap.size (inD x.ze) (.slice a11 x.ze.length c11) G11
  z : Ow W w.heap.size (inD x.zr) (.slice a12 x.zr.length c12) G12
  d : ∀ b, G6 b ∨ G11 b ∨ G12 b → ¬ mhG w.heap.size g X A D gs b
  fs : ¬ F1 gs
  de : ∀ b, a11 = some b → G11 b.block
  dz : ∀ b, a12 = some b → G12 b.block
  l : w.heap.size ≤ X ∧ X ≠ A ∧ X ≠ C ∧ X ≠ D ∧ ¬ F1 X ∧ X ≠ g
  s : Row W gs 41 #[]
  sx : gs ≠ X
theorem MhX.below {w W W' : World} {A C D X : Nat} {id f : Int} {g n c : Nat} {S : Nat → Sl} {F1 : Nat → Prop} {y : Sy} {a9 : Option Addr} {c9 : Nat} {x : Sl} {a6 a11 a12 : Option Addr} {c6 c11 c12 : Nat} {G6 G11 G12 : Nat → Prop} {gs : Nat} (h : MhX w W A C D X id f g n c S F1 y a9 c9 x a6 a11 a12 c6 c11 c12 G6 G11 G12 gs) (hb : Below W.heap.size W W') : MhX w W' A C D X id f g n c S F1 y a9 c9 x a6 a11 a12 c6 c11 c12 G6 G11 G12 gs :=
  ⟨h.nw.below hb, h.k.below hb, h.rx.below hb h.rx.lt, h.t.below hb, h.e.below hb, h.z.below hb, h.d, h.fs, h.de, h.dz, h.l, h.s.below hb h.s.lt, h.sx⟩
/-- The model behind the switch. -/
structure MhY (w W : World) (A C D X : Nat) (id f : Int) (g n c : Nat) (S : Nat → Sl) (F1 : Nat → Prop) (y : Sy) (a9 : Option Addr) (c9 : Nat) (x : Sl) (m : Nat) (Y : Nat → Sy) (so : Value) (gs : Nat) : Prop where
  nw : Nw W w.heap.size A id f g n c S F1
  k : MhC w W C D y a9 c9
  rx : ∃ a6 a11 a12 c6 c11 c12, Row W X 62 (slC x (.slice a6 x.p.m c6) (.slice a11 x.ze.length c11) (.slice a12 x.zr.length c12)) ∧ Rf W (mhG w.heap.size g X A D gs) (txD x.p.m x.p.S) (.slice a6 x.p.m c6) ∧ Rf W (mhG w.heap.size g X A D gs) (inD x.ze) (.slice a11 x.ze.length c11) ∧ Rf W (mhG w.heap.size g X A D gs) (inD x.zr) (.slice a12 x.zr.length c12)
  s : Rf W (mhE w.heap.size g X A D) (sysD m Y) so
  so : m = 0 → so = .slice (some ⟨gs, 0, none⟩) 0 0
  l : w.heap.size ≤ X ∧ X ≠ A ∧ X ≠ C ∧ X ≠ D ∧ ¬ F1 X ∧ X ≠ g
  rg : m = 0 → Row W gs 41 #[]
  sx : gs ≠ X
  fs : ¬ F1 gs
theorem MhX.y {w W : World} {A C D X : Nat} {id f : Int} {g n c : Nat} {S : Nat → Sl} {F1 : Nat → Prop} {y : Sy} {a9 : Option Addr} {c9 : Nat} {x : Sl} {a6 a11 a12 : Option Addr} {c6 c11 c12 : Nat} {G6 G11 G12 : Nat → Prop} {gs : Nat} (h : MhX w W A C D X id f g n c S F1 y a9 c9 x a6 a11 a12 c6 c11 c12 G6 G11 G12 gs) (Y : Nat → Sy) : MhY w W A C D X id f g n c S F1 y a9 c9 x 0 Y (.slice (some ⟨gs, 0, none⟩) 0 0) gs :=
  ⟨h.nw, h.k, ⟨a6, a11, a12, c6, c11, c12, h.rx, Rf.of_ow h.t (fun b k => h.d b (.inl k)), Rf.of_ow h.e (fun b k => h.d b (.inr (.inl k))), Rf.of_ow h.z (fun b k => h.d b (.inr (.inr k)))⟩, fun W' _ _ => rd_none W' gs Y, fun _ => rfl, h.l, fun _ => h.s, h.sx, h.fs⟩
/-- Behind a putting into the echoes. -/
theorem MhX.echo {w W W' : World} {A C D X : Nat} {id f : Int} {g n c : Nat} {S : Nat → Sl} {F1 : Nat → Prop} {y : Sy} {a9 : Option Addr} {c9 : Nat} {x : Sl} {a6 a11 a12 : Option Addr} {c6 c11 c12 : Nat} {G6 G11 G12 : Nat → Prop} {gs : Nat} (h : MhX w W A C D X id f g n c S F1 y a9 c9 x a6 a11 a12 c6 c11 c12 G6 G11 G12 gs) (Y : Nat → Sy) (a' : Option Addr) (c' : Nat) (zs : List Int) (hb : Below W.heap.size W W') (hp : PutR W W' a11 a' zs.length zs) : MhY w (W'.setCell ⟨X, 11, none⟩ (.slice a' zs.length c')) A C D X id f g n c S F1 y a9 c9 { x with ze := zs } 0 Y (.slice (some ⟨gs, 0, none⟩) 0 0) gs := by
  have k := h.below hb
  have eX : mhG w.heap.size g X A D gs X := .inl (.inr (.inl rfl))
  have hl := h.l
  have hlt := h.rx.lt
  have hE : ∀ b, a' = some b → ¬ mhG w.heap.size g X A D gs b.block := fun b e => by
    rcases hp.2 with e1 | e1
    · exact h.d _ (.inr (.inl (h.de b (e1 ▸ e))))
    · have h1 := e1 b e
      have h2 := h.nw.r.lt
      have h3 := h.k.rd.lt
      have h4 : g < W.heap.size := by
        obtain ⟨_, _, _, _, e, ho, _, _⟩ := h.nw.o
        cases e
        rcases own_shape ho with ⟨e1, _⟩ | ⟨g1, _, e1, _, hg, _⟩
        · cases e1
        · cases e1
          exact (Array.getElem?_eq_some_iff.1 hg).1
      have h5 := h.s.lt
      have h6 := h.k.b.size
      intro k
      rcases k with (k | k | k | k) | k <;> omega
  refine ⟨⟨k.nw.r.other 11 _ (fun e => hl.2.1 e.symm), k.nw.o.far 11 _ hl.2.2.2.2.1, k.nw.h1, ⟨k.nw.b.1, by simpa using k.nw.b.2⟩, fun b hF => ⟨(k.nw.l1 b hF).1, by simpa using (k.nw.l1 b hF).2⟩⟩, ⟨k.k.rc.other 11 _ (fun e => hl.2.2.1 e.symm), k.k.rd.other 11 _ (fun e => hl.2.2.2.1 e.symm), below_setCell k.k.b hl.1 11 _⟩, ?_, fun W' _ _ => rd_none W' gs Y, fun _ => rfl, hl, fun _ => k.s.other 11 _ k.sx, k.sx, k.fs⟩
  exact ⟨a6, a', a12, c6, c', c12, k.rx.set 11 _, (Rf.of_ow k.t (fun b q => k.d b (.inl q))).setCell eX 11 _, (Rf.ints hp.1 hE).setCell eX 11 _, (Rf.of_ow k.z (fun b q => k.d b (.inr (.inr q)))).setCell eX 11 _⟩
/-- Behind a putting into the readies. -/
theorem MhX.ready {w W W' : World} {A C D X : Nat} {id f : Int} {g n c : Nat} {S : Nat → Sl} {F1 : Nat → Prop} {y : Sy} {a9 : Option Addr} {c9 : Nat} {x : Sl} {a6 a11 a12 : Option Addr} {c6 c11 c12 : Nat} {G6 G11 G12 : Nat → Prop} {gs : Nat} (h : MhX w W A C D X id f g n c S F1 y a9 c9 x a6 a11 a12 c6 c11 c12 G6 G11 G12 gs) (Y : Nat → Sy) (a' : Option Addr) (c' : Nat) (zs : List Int) (hb : Below W.heap.size W W') (hp : PutR W W' a12 a' zs.length zs) : MhY w (W'.setCell ⟨X, 12, none⟩ (.slice a' zs.length c')) A C D X id f g n c S F1 y a9 c9 { x with zr := zs } 0 Y (.slice (some ⟨gs, 0, none⟩) 0 0) gs := by
  have k := h.below hb
  have eX : mhG w.heap.size g X A D gs X := .inl (.inr (.inl rfl))
  have hl := h.l
  have hlt := h.rx.lt
  have hE : ∀ b, a' = some b → ¬ mhG w.heap.size g X A D gs b.block := fun b e => by
    rcases hp.2 with e1 | e1
    · exact h.d _ (.inr (.inr (h.dz b (e1 ▸ e))))
    · have h1 := e1 b e
      have h2 := h.nw.r.lt
      have h3 := h.k.rd.lt
      have h4 : g < W.heap.size := by
        obtain ⟨_, _, _, _, e, ho, _, _⟩ := h.nw.o
        cases e
        rcases own_shape ho with ⟨e1, _⟩ | ⟨g1, _, e1, _, hg, _⟩
        · cases e1
        · cases e1
          exact (Array.getElem?_eq_some_iff.1 hg).1
      have h5 := h.s.lt
      have h6 := h.k.b.size
      intro k
      rcases k with (k | k | k | k) | k <;> omega
  refine ⟨⟨k.nw.r.other 12 _ (fun e => hl.2.1 e.symm), k.nw.o.far 12 _ hl.2.2.2.2.1, k.nw.h1, ⟨k.nw.b.1, by simpa using k.nw.b.2⟩, fun b hF => ⟨(k.nw.l1 b hF).1, by simpa using (k.nw.l1 b hF).2⟩⟩, ⟨k.k.rc.other 12 _ (fun e => hl.2.2.1 e.symm), k.k.rd.other 12 _ (fun e => hl.2.2.2.1 e.symm), below_setCell k.k.b hl.1 12 _⟩, ?_, fun W' _ _ => rd_none W' gs Y, fun _ => rfl, hl, fun _ => k.s.other 12 _ k.sx, k.sx, k.fs⟩
  exact ⟨a6, a11, a', c6, c11, c', k.rx.set 12 _, (Rf.of_ow k.t (fun b q => k.d b (.inl q))).setCell eX 12 _, (Rf.of_ow k.e (fun b q => k.d b (.inr (.inl q)))).setCell eX 12 _, (Rf.ints hp.1 hE).setCell eX 12 _⟩
theorem MhY.below {w W W' : World} {A C D X : Nat} {id f : Int} {g n c : Nat} {S : Nat → Sl} {F1 : Nat → Prop} {y : Sy} {a9 : Option Addr} {c9 : Nat} {x : Sl} {m : Nat} {Y : Nat → Sy} {so : Value} {gs : Nat} (h : MhY w W A C D X id f g n c S F1 y a9 c9 x m Y so gs) (hb : Below W.heap.size W W') : MhY w W' A C D X id f g n c S F1 y a9 c9 x m Y so gs := by
  obtain ⟨a6, a11, a12, c6, c11, c12, r, h6, h11, h12⟩ := h.rx
  exact ⟨h.nw.below hb, h.k.below hb, ⟨a6, a11, a12, c6, c11, c12, r.below hb r.lt, h6.below hb, h11.below hb, h12.below hb⟩, h.s.below hb, h.so, h.l, fun e => (h.rg e).below hb (h.rg e).lt, h.sx, h.fs⟩
/-- Only the slot's own block turns. -/
theorem MhY.cell {w W : World} {A C D X : Nat} {id f : Int} {g n c : Nat} {S : Nat → Sl} {F1 : Nat → Prop} {y : Sy} {a9 : Option Addr} {c9 : Nat} {x x' : Sl} {m : Nat} {Y : Nat → Sy} {so : Value} {gs : Nat} (h : MhY w W A C D X id f g n c S F1 y a9 c9 x m Y so gs) (i : Nat) (v : Value)
    (hx : ∃ a6 a11 a12 c6 c11 c12, Row (W.setCell ⟨X, i, none⟩ v) X 62 (slC x' (.slice a6 x'.p.m c6) (.slice a11 x'.ze.length c11) (.slice a12 x'.zr.length c12)) ∧ Rf (W.setCell ⟨X, i, none⟩ v) (mhG w.heap.size g X A D gs) (txD x'.p.m x'.p.S) (.slice a6 x'.p.m c6) ∧ Rf (W.setCell ⟨X, i, none⟩ v) (mhG w.heap.size g X A D gs) (inD x'.ze) (.slice a11 x'.ze.length c11) ∧ Rf (W.setCell ⟨X, i, none⟩ v) (mhG w.heap.size g X A D gs) (inD x'.zr) (.slice a12 x'.zr.length c12)) : MhY w (W.setCell ⟨X, i, none⟩ v) A C D X id f g n c S F1 y a9 c9 x' m Y so gs := by
  have hl := h.l
  have eY : mhE w.heap.size g X A D X := .inr (.inl rfl)
  exact ⟨⟨h.nw.r.other i _ (fun e => hl.2.1 e.symm), h.nw.o.far i _ hl.2.2.2.2.1, h.nw.h1, ⟨h.nw.b.1, by simpa using h.nw.b.2⟩, fun b hF => ⟨(h.nw.l1 b hF).1, by simpa using (h.nw.l1 b hF).2⟩⟩, ⟨h.k.rc.other i _ (fun e => hl.2.2.1 e.symm), h.k.rd.other i _ (fun e => hl.2.2.2.1 e.symm), below_setCell h.k.b hl.1 i _⟩, hx, h.s.setCell eY i _, h.so, hl, fun e => (h.rg e).other i _ h.sx, h.sx, h.fs⟩
theorem MhY.done {w W : World} {A C D X : Nat} {id f : Int} {g n c : Nat} {S : Nat → Sl} {F1 : Nat → Prop} {y : Sy} {a9 : Option Addr} {c9 : Nat} {x : Sl} {m : Nat} {Y : Nat → Sy} {so : Value} {gs : Nat} (h : MhY w W A C D X id f g n c S F1 y a9 c9 x m Y so gs) : MhY w (W.setCell ⟨X, 10, none⟩ (.bool true)) A C D X id f g n c S F1 y a9 c9 { x with o := true } m Y so gs := by
  obtain ⟨a6, a11, a12, c6, c11, c12, r, h6, h11, h12⟩ := h.rx
  have eX : mhG w.heap.size g X A D gs X := .inl (.inr (.inl rfl))
  exact h.cell 10 _ ⟨a6, a11, a12, c6, c11, c12, r.set 10 _, h6.setCell eX 10 _, h11.setCell eX 10 _, h12.setCell eX 10 _⟩
theorem Row.there {W : World} {g : Nat} {t : TypeId} {cs : Array Value} (h : Row W g t cs) {o n : Nat} (hn : o + n ≤ cs.size) : W.there g o n := fun j hj => ⟨by have := h.cell (o + j); rw [this]; simp; omega, h.free (o + j)⟩
end Go.Proofs.YtgiegoamcfjfmaaGreat
/- What the model makes of what it hears is what hearing makes: by plain values. -/
namespace Go.Proofs.YtgiegoamcfjfmaaGreat
set_option maxRecDepth 2000
open Go.ChangeShapes Go.WideShapes Go.ChangeAt Go.RowKit

/-- A slot of a list of ours stored anew, and one block more turned: for reading alone. -/
theorem rd_put2 {W W2 : World} {B g n cap : Nat} {S : Nat → Sl} {F : Nat → Prop} (h : Ow W B (slsD n S) (.slice (some ⟨g, 0, none⟩) n cap) F) {p : Nat} (hp : p < n) (x : Sl) (vs : List Value) (hl : vs.length = 13)
    (hg : W2.heap[g]? = (W.setCells g (p * 13) vs).heap[g]?) (hF : ∀ b, F b → b ≠ g → b < W.heap.size → W2.heap[b]? = W.heap[b]?) (hv : ∀ q, q < 13 → Rd W2 (slD x q) (vs.getD q undef)) : Rd W2 (slsD n (fun i => if i = p then x else S i)) (.slice (some ⟨g, 0, none⟩) n cap) := by
  obtain ⟨a, cap', c, G, e, ho, hs, hr⟩ := h
  cases e
  have e0 := own_setCells hp vs 0 W c (by omega) ho
  rw [Nat.add_zero] at e0
  refine ⟨some ⟨g, 0, none⟩, cap, rfl, fun i hi => ⟨g, 0, rfl, fun q hq => ?_⟩⟩
  refine ⟨_, by rw [cell_same hg, Nat.zero_add, World.ownsRow.cellAt e0 _ (mid_lt hi hq)]; exact cL_get _ _ _ _ _ hi hq, ?_⟩
  by_cases ei : i = p
  · rw [if_pos ⟨ei, Nat.zero_le _⟩]
    show Rd _ (slD (if i = p then x else S i) q) _
    rw [if_pos ei]
    exact hv q hq
  · rw [if_neg (fun k => ei k.1)]
    show Rd _ (slD (if i = p then x else S i) q) _
    rw [if_neg ei]
    exact ((hr i q hi hq).frame (fun b hb hl => hF b (hs.sub i q b hi hq hb) (fun e => hs.apart i q _ hi hq rfl (e ▸ hb)) hl)).rd
theorem Nw.there {W : World} {B Nb : Nat} {id f : Int} {g n cap : Nat} {S : Nat → Sl} {F1 : Nat → Prop} (h : Nw W B Nb id f g n cap S F1) {p : Nat} (hp : p < n) : W.there g (p * 13) 13 := by
  obtain ⟨a', cap', c', G', e', ho', _⟩ := h.o
  cases e'
  intro j hj
  refine ⟨?_, World.ownsRow.frozenAt ho' _⟩
  rw [World.ownsRow.cellAt ho' _ (mid_lt hp hj), cL_get _ _ _ _ _ hp hj]
  rfl
/-- The model behind its last two stores. -/
structure MhF (w W1 W2 : World) (A D : Nat) (id f : Int) (g n c : Nat) (S : Nat → Sl) (m : Nat) (Y : Nat → Sy) (so : Value) : Prop where
  ra : Row W1 A 34 #[.int .i64 id, .int .i64 f, .slice (some ⟨g, 0, none⟩) n c]
  rd : Row W1 D 34 #[.int .i64 0, .int .i64 0, .slice none 0 0]
  rd2 : Row W2 D 34 #[.int .i64 id, .int .i64 f, .slice (some ⟨g, 0, none⟩) n c]
  l : Rf W2 (fun b => b < w.heap.size) (slsD n S) (.slice (some ⟨g, 0, none⟩) n c)
  s : Rf W2 (fun b => b < w.heap.size) (sysD m Y) so
  b : Below w.heap.size w W2
theorem MhY.fin {w W : World} {A C D X : Nat} {id f : Int} {g n c : Nat} {S : Nat → Sl} {F1 : Nat → Prop} {y : Sy} {a9 : Option Addr} {c9 : Nat} {x : Sl} {m : Nat} {Y : Nat → Sy} {so : Value} {gs : Nat} (h : MhY w W A C D X id f g n c S F1 y a9 c9 x m Y so gs) (hFD : ¬ F1 D) (hD : w.heap.size ≤ D) {p : Nat} (hp : p < n) (a6 a11 a12 : Option Addr) (c6 c11 c12 : Nat)
    (h6 : Rf W (mhG w.heap.size g X A D gs) (txD x.p.m x.p.S) (.slice a6 x.p.m c6)) (h11 : Rf W (mhG w.heap.size g X A D gs) (inD x.ze) (.slice a11 x.ze.length c11)) (h12 : Rf W (mhG w.heap.size g X A D gs) (inD x.zr) (.slice a12 x.zr.length c12)) (W1 W2 : World)
    (e1 : W1 = W.setCells g (p * 13) (slL x (.slice a6 x.p.m c6) (.slice a11 x.ze.length c11) (.slice a12 x.zr.length c12))) (e2 : W2 = W1.setRow D #[.int .i64 id, .int .i64 f, .slice (some ⟨g, 0, none⟩) n c]) : MhF w W1 W2 A D id f g n c (fun i => if i = p then x else S i) m Y so := by
  have hFg : F1 g := by obtain ⟨_, _, _, _, e, _, hs, _⟩ := h.nw.o; cases e; exact hs.head _ rfl
  have gA : A ≠ g := fun e => h.nw.h1 (e ▸ hFg)
  have gD : D ≠ g := fun e => hFD (e ▸ hFg)
  have t1 : ∀ b, b ≠ g → W1.heap[b]? = W.heap[b]? := fun b hb => by rw [e1]; exact heap_setCells_other g _ _ W b hb
  have t2 : ∀ b, b ≠ D → W2.heap[b]? = W1.heap[b]? := fun b hb => by rw [e2]; exact setRow_other _ _ _ _ hb
  have s1 : W1.heap.size = W.heap.size := by rw [e1]; exact size_setCells _ _ _ _
  have s2 : W.heap.size ≤ W2.heap.size := by rw [e2]; simp [s1]
  have tA : ∀ W' : World, (∀ b, ¬ b < w.heap.size → b < W2.heap.size → W'.heap[b]? = W2.heap[b]?) → ∀ b, b ≠ g → b ≠ D → ¬ b < w.heap.size → b < W.heap.size → W'.heap[b]? = W.heap[b]? := fun W' h2 b h3 h4 h5 h6 => ((h2 b h5 (by omega)).trans (t2 b h4)).trans (t1 b h3)
  have tG : ∀ W' : World, (∀ b, ¬ b < w.heap.size → b < W2.heap.size → W'.heap[b]? = W2.heap[b]?) → ∀ b, ¬ mhG w.heap.size g X A D gs b → b < W.heap.size → W'.heap[b]? = W.heap[b]? := fun W' h2 b hb => tA W' h2 b (fun e => hb (.inl (.inl e))) (fun e => hb (.inl (.inr (.inr (.inr (.inl e)))))) (fun e => hb (.inl (.inr (.inr (.inr (.inr e))))))
  have tE : ∀ W' : World, (∀ b, ¬ b < w.heap.size → b < W2.heap.size → W'.heap[b]? = W2.heap[b]?) → ∀ b, ¬ mhE w.heap.size g X A D b → b < W.heap.size → W'.heap[b]? = W.heap[b]? := fun W' h2 b hb => tA W' h2 b (fun e => hb (.inl e)) (fun e => hb (.inr (.inr (.inr (.inl e))))) (fun e => hb (.inr (.inr (.inr (.inr e)))))
  have rd1 : Row W1 D 34 #[.int .i64 0, .int .i64 0, .slice none 0 0] := (t1 D gD).trans h.k.rd
  have lg := h.nw.l1 g hFg
  refine ⟨(t1 A gA).trans h.nw.r, rd1, by rw [e2]; exact rd1.row, ?_, fun W' q1 q2 => h.s W' (Nat.le_trans s2 q1) (tE W' q2), ?_⟩
  · intro W' q1 q2
    refine rd_put2 h.nw.o hp x (slL x (.slice a6 x.p.m c6) (.slice a11 x.ze.length c11) (.slice a12 x.zr.length c12)) rfl (by rw [← e1]; exact (q2 g (by omega) (by omega)).trans (t2 g (fun e => gD e.symm))) (fun b hb hne hl => tA W' q2 b hne (fun e => hFD (e ▸ hb)) (by have := (h.nw.l1 b hb).1; omega) hl) (fun q hq => ?_)
    match q, hq with
    | 0, _ | 1, _ | 2, _ | 3, _ | 4, _ | 5, _ | 7, _ | 8, _ | 9, _ | 10, _ => exact rfl
    | 6, _ => exact h6 W' (Nat.le_trans s2 q1) (tG W' q2)
    | 11, _ => exact h11 W' (Nat.le_trans s2 q1) (tG W' q2)
    | 12, _ => exact h12 W' (Nat.le_trans s2 q1) (tG W' q2)
  · rw [e2, e1]
    exact belowSetRow (below_setCells h.k.b (h.nw.l1 g hFg).1 _ _) hD _
end Go.Proofs.YtgiegoamcfjfmaaGreat
/- What hearing makes of a node is little where the node and the saying are. -/
namespace Go.Proofs.YtgiegoamcfjfmaaGreat
set_option maxRecDepth 2000
open Go.ChangeShapes Go.WideShapes Go.ChangeAt Go.RowKit

end Go.Proofs.YtgiegoamcfjfmaaGreat
/- A piece that is brought is one that its node takes: by plain values. -/
namespace Go.Proofs.YtgiegoamcfjfmaaGreat
set_option maxRecDepth 2000
open Go.ChangeShapes Go.WideShapes Go.ChangeAt Go.RowKit

theorem br_f {s : ByteArray} {f : Int} (h : brB s f = true) : 1 ≤ f ∧ f ≤ 3 := by
  unfold brB fB at h
  rw [Bool.and_eq_true] at h
  exact of_decide_eq_true h.1
theorem br_enc {s : ByteArray} {f : Int} (h : brB s f = true) : encOk s (f + 1) (3 * f + 1) = true := by
  unfold brB at h
  rw [Bool.and_eq_true] at h
  exact h.2
theorem br_lvB {s : ByteArray} {f : Int} (h : brB s f = true) : lvB (nAll f) (lvs (f + 1) (nAll f) (encS s (f + 1).toNat)) = true := by
  have hf := br_f h
  have hn := nAll_is hf
  unfold lvB
  rw [Bool.and_eq_true]
  refine ⟨aS_yes (fun i hi => ?_), ?_⟩
  · unfold lvs
    obtain ⟨k, hk⟩ : ∃ k : Nat, f + 1 = (k : Int) := ⟨(f + 1).toNat, by omega⟩
    rw [hk, plf_yes _ (by omega) (by omega) (by omega)]
    exact Gt.lf_size _
  · unfold inB
    exact decide_eq_true (by omega)
theorem br_pfB {s : ByteArray} {f : Int} (h : brB s f = true) {i : Nat} (hi : i < nAll f) : pfB (nAll f) (lvs (f + 1) (nAll f) (encS s (f + 1).toNat)) (i : Int) = true := by
  have hf := br_f h
  have hn := nAll_is hf
  unfold pfB
  rw [Bool.and_eq_true]
  exact ⟨br_lvB h, by unfold inT; exact decide_eq_true (by omega)⟩
theorem br_ok {s : ByteArray} {f : Int} (h : brB s f = true) {i : Nat} (hi : i < nAll f) : okP (brP s f i).r (brP s f i).k (brP s f i).n (brP s f i).i (brP s f i).b (brP s f i).m (brP s f i).S = true := by
  have hf := br_f h
  have hn := nAll_is hf
  have he := br_enc h
  obtain ⟨h1, h2, h3, h4⟩ := encOk_parts he
  have hb : (encS s (f + 1).toNat i).size = blen s.size (f + 1).toNat := txt_size _ _
  have hle := encS_le he i
  have hge : 1 ≤ (encS s (f + 1).toNat i).size := by
    rw [hb]
    have := blen_ge (s := s.size) (k := (f + 1).toNat) (by omega)
    rcases Nat.eq_zero_or_pos (blen s.size (f + 1).toNat) with e | e
    · rw [e] at this; omega
    · exact e
  have hk : kOk (f + 1) ((nAll f : Nat) : Int) (encS s (f + 1).toNat i) := ⟨by omega, by omega, by omega, hge, hle⟩
  show okP (rtS (nAll f) (lvs (f + 1) (nAll f) (encS s (f + 1).toNat))) (f + 1) ((nAll f : Nat) : Int) (i : Int) (encS s (f + 1).toNat i) (pfR (nAll f) (lvs (f + 1) (nAll f) (encS s (f + 1).toNat)) (i : Int)) (pfF (nAll f) (lvs (f + 1) (nAll f) (encS s (f + 1).toNat)) (i : Int)) = true
  rw [okP_yes hk]
  exact pv_true (br_pfB h hi)
theorem br_mine {s : ByteArray} {f : Int} (h : brB s f = true) {i : Nat} (hi : i < nAll f) : mineB (brS s f i).r (i : Int) f (brS s f i).p.r (brS s f i).p.k (brS s f i).p.n (brS s f i).p.i (brS s f i).p.b (brS s f i).p.m (brS s f i).p.S = true := by
  have hn := nAll_is (br_f h)
  have hM : MineP (brS s f i).r (i : Int) f (brS s f i).p.r (brS s f i).p.k (brS s f i).p.n (brS s f i).p.i := ⟨rfl, rfl, hn, rfl⟩
  rw [mineB_yes hM]
  exact br_ok h hi
theorem br_root {s : ByteArray} {f : Int} (h : brB s f = true) (i : Nat) : (brP s f i).r.size = 16 := by
  show (rtS (nAll f) (lvs (f + 1) (nAll f) (encS s (f + 1).toNat))).size = 16
  have hl := br_lvB h
  obtain ⟨h1, h2, h3⟩ := lvB_parts hl
  unfold rtS
  rw [if_pos hl]
  exact Gt.rt_size (by omega) h3
theorem br_nhB {s : ByteArray} {f : Int} (h : brB s f = true) {i : Nat} (hi : i < nAll f) (S : Nat → Sl) : nhB (i : Int) f 0 S (brS s f i) = true := by
  have hf := br_f h
  have hn := nAll_is hf
  have e1 : ndB (i : Int) f 0 S = true := by
    have : NdP (i : Int) f 0 S := ⟨by unfold seB; exact decide_eq_true (by omega), by omega, fun j hj => absurd hj (Nat.not_lt_zero j)⟩
    unfold ndB
    exact @decide_eq_true _ (Classical.propDecidable _) this
  have e2 : mindB (i : Int) f 0 S (brS s f i) = true := by
    have : MindP (i : Int) f 0 S (brS s f i) := ⟨rfl, .inl rfl, ⟨by show (0 : Int) ≤ 0; omega, by show (0 : Int) ≤ 2; omega⟩, br_root h i, .inl (by omega)⟩
    unfold mindB
    exact @decide_eq_true _ (Classical.propDecidable _) this
  unfold nhB
  rw [e1, e2]
  rfl
/-- What a new node makes of its piece. -/
theorem br_hears {s : ByteArray} {f : Int} (h : brB s f = true) {i : Nat} (hi : i < nAll f) (S : Nat → Sl) :
    nhN (i : Int) f 0 S (brS s f i) = 1 ∧ nhM (i : Int) f 0 S (brS s f i) = nAll f ∧ nhS (i : Int) f 0 S (brS s f i) 0 = { slR (brP s f i).r with p := brP s f i, h := true, e := true } := by
  have hb := br_nhB h hi S
  have hE : hvE (i : Int) f (slF S (brS s f i).r 0) 0 (brS s f i) := ⟨by unfold slF; rw [if_pos rfl]; rfl, br_mine h hi⟩
  have p0 : plN S (brS s f i).r 0 = 0 := rfl
  simp only [nhN, nhM, nhS, hb, if_true, p0]
  refine ⟨rfl, ?_, ?_⟩
  · unfold hvM
    rw [if_pos (show (brS s f i).k = 0 from rfl), if_pos hE]
  · unfold hvS
    rw [if_pos (show (brS s f i).k = 0 from rfl), if_pos hE]
    unfold slGot slF
    simp
    exact ⟨rfl, rfl, rfl, rfl, rfl, rfl⟩
theorem br_slot {s : ByteArray} {f : Int} (h : brB s f = true) {i : Nat} (hi : i < nAll f) (S : Nat → Sl) : soB (nhS (i : Int) f 0 S (brS s f i)) (brR s f) 1 = true ∧ soS (nhS (i : Int) f 0 S (brS s f i)) (brR s f) 1 = { slR (brP s f i).r with p := brP s f i, h := true, e := true } := by
  have h3 := (br_hears h hi S).2.2
  have hr : (nhS (i : Int) f 0 S (brS s f i) 0).r = brR s f := by
    rw [h3]
    unfold brR
    rw [if_pos h]
    rfl
  have hp : plc (nhS (i : Int) f 0 S (brS s f i)) (brR s f) 1 = some 0 := by
    unfold plc plF
    rw [if_pos hr]
  constructor
  · unfold soB; rw [hp]; rfl
  · unfold soS; rw [hp]; exact h3
theorem br_bound {s : ByteArray} {f : Int} (h : brB s f = true) {i : Nat} (hi : i < nAll f) (S : Nat → Sl) : NhB 0 S (brS s f i) := by
  have he := br_enc h
  have h16 := br_root h i
  have hm : (brP s f i).m ≤ 16 := pfR_le _ _ _
  refine ⟨by omega, fun j hj => absurd hj (Nat.not_lt_zero j), ?_, ?_, ?_, ?_, fun j hj => ?_⟩
  · show (brP s f i).r.size ≤ _; omega
  · show (brP s f i).m ≤ _; omega
  · show (brP s f i).r.size ≤ _; omega
  · have := encS_le he i
    show (encS s (f + 1).toNat i).size ≤ _
    omega
  · have hB := br_pfB h hi
    obtain ⟨h1, h2⟩ := pfB_parts hB
    have h3 := lvB_parts h1
    have hj' : j < pfR (nAll f) (lvs (f + 1) (nAll f) (encS s (f + 1).toNat)) (i : Int) := hj
    unfold pfR at hj'
    rw [if_pos hB] at hj'
    have : (pfF (nAll f) (lvs (f + 1) (nAll f) (encS s (f + 1).toNat)) (i : Int) j).size = 16 := Gt.pf_size _ (by simpa using hi) h3.2.2 j hj'
    show (pfF (nAll f) (lvs (f + 1) (nAll f) (encS s (f + 1).toNat)) (i : Int) j).size ≤ _
    omega
end Go.Proofs.YtgiegoamcfjfmaaGreat
