import Derived.Test.YtaenoiffamgcfaaGreatDoorM37
set_option maxHeartbeats 8000000
set_option maxRecDepth 2000
open Go.ChangeShapes Go.WideShapes Go.ChangeAt Go.RowKit
namespace Go.Proofs.YtaenoiffamgcfaaGreatDoor
noncomputable def mhB (id f : Int) (S : Nat → Sl) (p : Nat) (y : Sy) : Bool := decide (y.k = 0) && (!(S p).e && mineB y.r id f y.p.r y.p.k y.p.n y.p.i y.p.b y.p.m y.p.S)
def mhR (f : Int) (x : Sl) : Bool := !x.d && (decide (2 * f + 1 ≤ (x.ze.length : Int)) || decide (f + 1 ≤ (x.zr.length : Int)))
def mhU (f : Int) (x : Sl) : Sl := if mhR f x then { x with d := true } else x
def mhV (f : Int) (x : Sl) : Sl := if 2 * f + 1 ≤ (x.zr.length : Int) then { x with o := true } else x
structure SlT (f : Int) (x : Sl) : Prop where
 d : x.d = false → (x.ze.length : Int) < 2 * f + 1 ∧ (x.zr.length : Int) < f + 1
 o : x.o = false → (x.zr.length : Int) < 2 * f + 1
theorem slT_of {id f : Int} {n : Nat} {S : Nat → Sl} {r : ByteArray} (h : NdP id f n S) : SlT f (slF S r n (plN S r n)) ∧ (slF S r n (plN S r n)).r = r := by
 have hf := seB_f h.1
 rcases slF_at S r n with ⟨_, k⟩ | ⟨k1, k, k2⟩
 ·rw [k]
  refine ⟨⟨fun _ => ⟨?_, ?_⟩, fun _ => ?_⟩, rfl⟩ <;> (simp [slR]; omega)
 ·rw [k]
  have hs := (h.2.2 _ k1).1
  have h1 := hs.2.2.2.2.2.1
  have h2 := hs.2.2.2.2.2.2.1
  unfold stI at h1 h2
  refine ⟨⟨fun e => ?_, fun e => ?_⟩, k2⟩
  ·rw [e] at h1
   by_cases a : 2 * f + 1 ≤ (((S (plN S r n)).zr.length : Nat) : Int)
   ·rw [if_pos a] at h1
    exact absurd (h1 (by omega)) (by simp)
   rw [if_neg a] at h1
   by_cases b : 2 * f + 1 ≤ (((S (plN S r n)).ze.length : Nat) : Int)
   ·rw [if_pos b] at h1
    exact absurd (h1 (by omega)) (by simp)
   rw [if_neg b] at h1
   by_cases c : f + 1 ≤ (((S (plN S r n)).zr.length : Nat) : Int)
   ·rw [if_pos c] at h1
    exact absurd (h1 (by omega)) (by simp)
   exact ⟨by omega, by omega⟩
  ·rw [e] at h2
   by_cases a : 2 * f + 1 ≤ (((S (plN S r n)).zr.length : Nat) : Int)
   ·rw [if_pos a] at h2
    exact absurd (h2 (by omega)) (by simp)
   omega
theorem mhR_no {f : Int} {x : Sl} (h : x.d = false → (x.ze.length : Int) < 2 * f + 1 ∧ (x.zr.length : Int) < f + 1) : mhR f x = false := by
 unfold mhR
 cases e : x.d with
 | true => rfl
 | false =>
  have k := h e
  have k1 : ¬ 2 * f + 1 ≤ (x.ze.length : Int) := by omega
  have k2 : ¬ f + 1 ≤ (x.zr.length : Int) := by omega
  simp [k1, k2]
theorem mhV_same {f : Int} {x : Sl} (h : x.o = false → (x.zr.length : Int) < 2 * f + 1) : mhV f x = x := by
 unfold mhV
 split
 ·rename_i k
  cases e : x.o with
  | true =>
   have e1 : { x with o := true } = x := by rw [← e]
   exact e1
  | false => have := h e; omega
 ·rfl
theorem stI_two {f : Int} (e r : Nat) : (2 ≤ stI f e r) = (2 * f + 1 ≤ (r : Int)) := by
 unfold stI
 by_cases a : 2 * f + 1 ≤ (r : Int)
 ·rw [if_pos a]; simp [a]
 ·rw [if_neg a]
  by_cases b : 2 * f + 1 ≤ (e : Int)
  ·rw [if_pos b]; simp [a]
  ·rw [if_neg b]
   by_cases c : f + 1 ≤ (r : Int)
   ·rw [if_pos c]; simp [a]
   ·rw [if_neg c]; simp [a]
theorem stI_one {f : Int} (hf : 1 ≤ f) (e r : Nat) : (1 ≤ stI f e r) = (2 * f + 1 ≤ (e : Int) ∨ f + 1 ≤ (r : Int)) := by
 unfold stI
 by_cases a : 2 * f + 1 ≤ (r : Int)
 ·have : f + 1 ≤ (r : Int) := by omega
  rw [if_pos a]; simp [this]
 ·rw [if_neg a]
  by_cases b : 2 * f + 1 ≤ (e : Int)
  ·rw [if_pos b]; simp [b]
  ·rw [if_neg b]
   by_cases c : f + 1 ≤ (r : Int)
   ·rw [if_pos c]; simp [c]
   ·rw [if_neg c]; simp [b, c]
theorem hvR_is {f : Int} {S : Nat → Sl} {p : Nat} {y : Sy} (hf : 1 ≤ f) : hvR f S p y ↔ mhR f (hvA S p y p) = true := by
 unfold hvR hvT mhR
 rw [stI_one hf]
 simp only [Bool.and_eq_true, Bool.or_eq_true, decide_eq_true_eq, Bool.not_eq_true']
 exact ⟨fun h => ⟨h.2, h.1⟩, fun h => ⟨h.2, h.1⟩⟩
theorem hvE_is {id f : Int} {S : Nat → Sl} {p : Nat} {y : Sy} (k0 : y.k = 0) : hvE id f S p y ↔ mhB id f S p y = true := by
 unfold hvE mhB
 rw [decide_eq_true k0]
 cases (S p).e <;> simp
theorem mhB_no {id f : Int} {S : Nat → Sl} {p : Nat} {y : Sy} (k0 : ¬ y.k = 0) : mhB id f S p y = false := by
 unfold mhB
 rw [decide_eq_false k0]
 rfl
theorem mhx_else {S : Nat → Sl} {p : Nat} {y : Sy} (k0 : ¬ y.k = 0) (hk : 0 ≤ y.k ∧ y.k ≤ 2) : mhx false S p y = hvA S p y p := by
 unfold mhx hvA
 by_cases k1 : y.k = 1
 ·simp [k1]
 ·have k2 : y.k = 2 := by omega
  simp [k2]
theorem mhx_zero {S : Nat → Sl} {p : Nat} {y : Sy} (k0 : y.k = 0) : mhx false S p y = S p := by
 unfold mhx
 simp [k0]
theorem mhx_got {S : Nat → Sl} {p : Nat} {y : Sy} : mhx true S p y = { S p with p := y.p, h := true, e := true } := by
 unfold mhx slGot
 simp
theorem hvA_other {S : Nat → Sl} {p i : Nat} {y : Sy} (h : ¬ i = p) : hvA S p y i = S i := by
 unfold hvA slEc slRd
 split <;> simp [h]
theorem mhS_is {id f : Int} {S : Nat → Sl} {p : Nat} {y : Sy} (hf : 1 ≤ f) (hk : 0 ≤ y.k ∧ y.k ≤ 2) (hT : SlT f (S p)) : (fun i => if i = p then mhV f (mhU f (mhx (mhB id f S p y) S p y)) else S i) = hvS id f S p y := by
 funext i
 by_cases k0 : y.k = 0
 ·cases eb : mhB id f S p y with
  | true =>
   have he := (hvE_is k0).2 eb
   unfold hvS
   rw [if_pos k0, if_pos he, mhx_got]
   have e1 : mhU f { S p with p := y.p, h := true, e := true } = { S p with p := y.p, h := true, e := true } := by
    unfold mhU
    rw [mhR_no (x := { S p with p := y.p, h := true, e := true }) hT.d]
    rfl
   rw [e1, mhV_same (x := { S p with p := y.p, h := true, e := true }) hT.o]
   rfl
  | false =>
   have he : ¬ hvE id f S p y := fun h => by rw [(hvE_is k0).1 h] at eb; cases eb
   unfold hvS
   rw [if_pos k0, if_neg he, mhx_zero k0]
   have e1 : mhU f (S p) = S p := by
    unfold mhU
    rw [mhR_no hT.d]
    rfl
   rw [e1, mhV_same hT.o]
   by_cases ei : i = p
   ·rw [if_pos ei, ei]
   ·rw [if_neg ei]
 ·rw [mhB_no k0, mhx_else k0 hk]
  have hB : ∀ j, hvB f S p y j = if j = p then mhV f (hvA S p y p) else S j := by
   intro j
   unfold hvB
   by_cases k1 : y.k = 1
   ·rw [if_pos k1]
    have e2 : mhV f (hvA S p y p) = hvA S p y p := mhV_same (by
     have ea : hvA S p y = slEc S p (putI (S p).ze y.f) := by unfold hvA; rw [if_pos k1]
     rw [ea]
     unfold slEc
     simpa using hT.o)
    rw [e2]
    by_cases ej : j = p
    ·rw [if_pos ej, ej]
    ·rw [if_neg ej, hvA_other ej]
   ·rw [if_neg k1]
    unfold slDn
    by_cases ej : j = p
    ·rw [if_pos ej, if_pos ej]
     unfold mhV hvT
     rw [show (decide (2 ≤ stI f (hvA S p y p).ze.length (hvA S p y p).zr.length)) = decide (2 * f + 1 ≤ ((hvA S p y p).zr.length : Int)) from by simp only [stI_two]]
     by_cases a : 2 * f + 1 ≤ ((hvA S p y p).zr.length : Int)
     ·rw [if_pos a, decide_eq_true a, Bool.or_true]
     ·rw [if_neg a, decide_eq_false a, Bool.or_false]
    ·rw [if_neg ej, if_neg ej, hvA_other ej]
  unfold hvS
  rw [if_neg k0]
  by_cases hR : hvR f S p y
  ·rw [if_pos hR]
   have r1 := (hvR_is hf).1 hR
   unfold slRy mhU
   rw [r1]
   by_cases ei : i = p
   ·rw [if_pos ei, if_pos ei, hB p, if_pos rfl]
    unfold mhV
    by_cases a : 2 * f + 1 ≤ ((hvA S p y p).zr.length : Int)
    ·simp only [if_true, a]
    ·simp only [if_true, if_neg a]
   ·rw [if_neg ei, if_neg ei, hB i, if_neg ei]
  ·rw [if_neg hR]
   have r1 : mhR f (hvA S p y p) = false := by
    cases e : mhR f (hvA S p y p) with
    | false => rfl
    | true => exact absurd ((hvR_is hf).2 e) hR
   unfold mhU
   rw [r1, hB i]
   rfl
theorem hvY_is {id : Int} {S : Nat → Sl} {p : Nat} {y : Sy} : hvY id S p y = syA (if y.k = 0 then 1 else 2) id (S p).r := funext (hvY_at id S p y)
theorem mhx_d {id f : Int} {S : Nat → Sl} {p : Nat} {y : Sy} (hT : SlT f (S p)) (k0 : y.k = 0) : mhR f (mhx (mhB id f S p y) S p y) = false := by
 cases mhB id f S p y with
 | true => rw [mhx_got]; exact mhR_no (x := { S p with p := y.p, h := true, e := true }) hT.d
 | false => rw [mhx_zero k0]; exact mhR_no hT.d
theorem mhM_ready {id f : Int} {S : Nat → Sl} {p : Nat} {y : Sy} (hf : 1 ≤ f) (hk : 0 ≤ y.k ∧ y.k ≤ 2) (hT : SlT f (S p)) (hr : mhR f (mhx (mhB id f S p y) S p y) = true) : mhB id f S p y = false ∧ hvM id f S p y = nAll f ∧ hvY id S p y = syA 2 id (S p).r := by
 by_cases k0 : y.k = 0
 ·rw [mhx_d hT k0] at hr; cases hr
 ·rw [mhB_no k0, mhx_else k0 hk] at hr
  refine ⟨mhB_no k0, ?_, ?_⟩
  ·unfold hvM
   rw [if_neg k0, if_pos ((hvR_is hf).2 hr)]
  ·rw [hvY_is, if_neg k0]
theorem mhM_echo {id f : Int} {S : Nat → Sl} {p : Nat} {y : Sy} (hb : mhB id f S p y = true) : hvM id f S p y = nAll f ∧ hvY id S p y = syA 1 id (S p).r := by
 have k0 : y.k = 0 := by
  by_cases k0 : y.k = 0
  ·exact k0
  ·rw [mhB_no k0] at hb; cases hb
 constructor
 ·unfold hvM
  rw [if_pos k0, if_pos ((hvE_is k0).2 hb)]
 ·rw [hvY_is, if_pos k0]
theorem mhM_none {id f : Int} {S : Nat → Sl} {p : Nat} {y : Sy} (hf : 1 ≤ f) (hk : 0 ≤ y.k ∧ y.k ≤ 2) (hb : mhB id f S p y = false) (hr : mhR f (mhx (mhB id f S p y) S p y) = false) : hvM id f S p y = 0 := by
 unfold hvM
 by_cases k0 : y.k = 0
 ·rw [if_pos k0, if_neg (fun h => by rw [(hvE_is k0).1 h] at hb; cases hb)]
 ·rw [if_neg k0, if_neg (fun h => by rw [hb, mhx_else k0 hk, (hvR_is hf).1 h] at hr; cases hr)]
theorem mhx_len {b : Bool} {S : Nat → Sl} {p : Nat} {y : Sy} (h : HvK S p y) : (mhx b S p y).ze.length ≤ 1048576 ∧ (mhx b S p y).zr.length ≤ 1048576 := by
 have h1 := h.ze
 have h2 := h.zr
 have hp : ∀ zs : List Int, (putI zs y.f).length ≤ zs.length + 1 := fun zs => putI_len zs y.f
 unfold mhx
 split
 ·unfold slGot; simp; omega
 ·split
  ·unfold slEc; simp; have := hp (S p).ze; omega
  ·split
   ·unfold slRd; simp; have := hp (S p).zr; omega
   ·omega
theorem rd_put2 {W W2 : World} {B g n cap : Nat} {S : Nat → Sl} {F : Nat → Prop} (h : Ow W B (slsD n S) (.slice (some ⟨g, 0, none⟩) n cap) F) {p : Nat} (hp : p < n) (x : Sl) (vs : List Value) (hl : vs.length = 13)
  (hg : W2.heap[g]? = (W.setCells g (p * 13) vs).heap[g]?) (hF : ∀ b, F b → b ≠ g → b < W.heap.size → W2.heap[b]? = W.heap[b]?) (hv : ∀ q, q < 13 → Rd W2 (slD x q) (vs.getD q undef)) : Rd W2 (slsD n (fun i => if i = p then x else S i)) (.slice (some ⟨g, 0, none⟩) n cap) := by
 obtain ⟨a, cap', c, G, e, ho, hs, hr⟩ := h
 cases e
 have e0 := own_setCells hp vs 0 W c (by omega) ho
 rw [Nat.add_zero] at e0
 refine ⟨some ⟨g, 0, none⟩, cap, rfl, fun i hi => ⟨g, 0, rfl, fun q hq => ?_⟩⟩
 refine ⟨_, by rw [cell_same hg, Nat.zero_add, World.ownsRow.cellAt e0 _ (mid_lt hi hq)]; exact cL_get _ _ _ _ _ hi hq, ?_⟩
 by_cases ei : i = p
 ·rw [if_pos ⟨ei, Nat.zero_le _⟩]
  show Rd _ (slD (if i = p then x else S i) q) _
  rw [if_pos ei]
  exact hv q hq
 ·rw [if_neg (fun k => ei k.1)]
  show Rd _ (slD (if i = p then x else S i) q) _
  rw [if_neg ei]
  exact ((hr i q hi hq).frame (fun b hb hl => hF b (hs.sub i q b hi hq hb) (fun e => hs.apart i q _ hi hq rfl (e ▸ hb)) hl)).rd
theorem Nw.there {W : World} {B Nb : Nat} {id f : Int} {g n cap : Nat} {S : Nat → Sl} {F1 : Nat → Prop} (h : Nw W B Nb id f g n cap S F1) {p : Nat} (hp : p < n) : W.there g (p * 13) 13 := by
 obtain ⟨a', cap', c', G', e', ho', _⟩ := h.o
 cases e'
 intro j hj
 refine ⟨?_, World.ownsRow.frozenAt ho' _⟩
 rw [World.ownsRow.cellAt ho' _ (mid_lt hp hj), cL_get _ _ _ _ _ hp hj]
 rfl
structure MhF (w W1 W2 : World) (A D : Nat) (id f : Int) (g n c : Nat) (S : Nat → Sl) (m : Nat) (Y : Nat → Sy) (so : Value) : Prop where
 ra : Row W1 A 37 #[.int .i64 id, .int .i64 f, .slice (some ⟨g, 0, none⟩) n c]
 rd : Row W1 D 37 #[.int .i64 0, .int .i64 0, .slice none 0 0]
 rd2 : Row W2 D 37 #[.int .i64 id, .int .i64 f, .slice (some ⟨g, 0, none⟩) n c]
 l : Rf W2 (fun b => b < w.heap.size) (slsD n S) (.slice (some ⟨g, 0, none⟩) n c)
 s : Rf W2 (fun b => b < w.heap.size) (sysD m Y) so
 b : Below w.heap.size w W2
 o : ∃ F, Ow W2 w.heap.size (slsD n S) (.slice (some ⟨g, 0, none⟩) n c) F
theorem MhY.fin {p : Nat} {w W : World} {A C D X : Nat} {id f : Int} {g n c : Nat} {S : Nat → Sl} {F1 : Nat → Prop} {y : Sy} {a9 : Option Addr} {c9 : Nat} {x : Sl} {m : Nat} {Y : Nat → Sy} {so : Value} {gs : Nat} (h : MhY p w W A C D X id f g n c S F1 y a9 c9 x m Y so gs) (hFD : ¬ F1 D) (hD : w.heap.size ≤ D) (hp : p < n) (a6 a11 a12 : Option Addr) (c6 c11 c12 : Nat)
  (h6 : Rf W (mhG w.heap.size g X A D gs) (txD x.p.m x.p.S) (.slice a6 x.p.m c6)) (h11 : Rf W (mhG w.heap.size g X A D gs) (inD x.ze) (.slice a11 x.ze.length c11)) (h12 : Rf W (mhG w.heap.size g X A D gs) (inD x.zr) (.slice a12 x.zr.length c12)) (hO : MhO p w W A D X g gs F1 S x (.slice a6 x.p.m c6) (.slice a11 x.ze.length c11) (.slice a12 x.zr.length c12)) (W1 W2 : World)
  (e1 : W1 = W.setCells g (p * 13) (slL x (.slice a6 x.p.m c6) (.slice a11 x.ze.length c11) (.slice a12 x.zr.length c12))) (e2 : W2 = W1.setRow D #[.int .i64 id, .int .i64 f, .slice (some ⟨g, 0, none⟩) n c]) : MhF w W1 W2 A D id f g n c (fun i => if i = p then x else S i) m Y so := by
 have hFg : F1 g := by obtain ⟨_, _, _, _, e, _, hs, _⟩ := h.nw.o; cases e; exact hs.head _ rfl
 have gA : A ≠ g := fun e => h.nw.h1 (e ▸ hFg)
 have gD : D ≠ g := fun e => hFD (e ▸ hFg)
 have t1 : ∀ b, b ≠ g → W1.heap[b]? = W.heap[b]? := fun b hb => by rw [e1]; exact heap_setCells_other g _ _ W b hb
 have t2 : ∀ b, b ≠ D → W2.heap[b]? = W1.heap[b]? := fun b hb => by rw [e2]; exact setRow_other _ _ _ _ hb
 have s1 : W1.heap.size = W.heap.size := by rw [e1]; exact size_setCells _ _ _ _
 have s2 : W.heap.size ≤ W2.heap.size := by rw [e2]; simp [s1]
 have tA : ∀ W' : World, (∀ b, ¬ b < w.heap.size → b < W2.heap.size → W'.heap[b]? = W2.heap[b]?) → ∀ b, b ≠ g → b ≠ D → ¬ b < w.heap.size → b < W.heap.size → W'.heap[b]? = W.heap[b]? := fun W' h2 b h3 h4 h5 h6 => ((h2 b h5 (by omega)).trans (t2 b h4)).trans (t1 b h3)
 have tG : ∀ W' : World, (∀ b, ¬ b < w.heap.size → b < W2.heap.size → W'.heap[b]? = W2.heap[b]?) → ∀ b, ¬ mhG w.heap.size g X A D gs b → b < W.heap.size → W'.heap[b]? = W.heap[b]? := fun W' h2 b hb => tA W' h2 b (fun e => hb (.inl (.inl e))) (fun e => hb (.inl (.inr (.inr (.inr (.inl e)))))) (fun e => hb (.inl (.inr (.inr (.inr (.inr e))))))
 have tE : ∀ W' : World, (∀ b, ¬ b < w.heap.size → b < W2.heap.size → W'.heap[b]? = W2.heap[b]?) → ∀ b, ¬ mhE w.heap.size g X A D b → b < W.heap.size → W'.heap[b]? = W.heap[b]? := fun W' h2 b hb => tA W' h2 b (fun e => hb (.inl e)) (fun e => hb (.inr (.inr (.inr (.inl e))))) (fun e => hb (.inr (.inr (.inr (.inr e)))))
 have rd1 : Row W1 D 37 #[.int .i64 0, .int .i64 0, .slice none 0 0] := (t1 D gD).trans h.k.rd
 have lg := h.nw.l1 g hFg
 refine ⟨(t1 A gA).trans h.nw.r, rd1, by rw [e2]; exact rd1.row, ?_, fun W' q1 q2 => h.s W' (Nat.le_trans s2 q1) (tE W' q2), ?_, ?_⟩
 ·intro W' q1 q2
  refine rd_put2 h.nw.o hp x (slL x (.slice a6 x.p.m c6) (.slice a11 x.ze.length c11) (.slice a12 x.zr.length c12)) rfl (by rw [← e1]; exact (q2 g (by omega) (by omega)).trans (t2 g (fun e => gD e.symm))) (fun b hb hne hl => tA W' q2 b hne (fun e => hFD (e ▸ hb)) (by have := (h.nw.l1 b hb).1; omega) hl) (fun q hq => ?_)
  match q, hq with
  | 0, _ | 1, _ | 2, _ | 3, _ | 4, _ | 5, _ | 7, _ | 8, _ | 9, _ | 10, _ => exact rfl
  | 6, _ => exact h6 W' (Nat.le_trans s2 q1) (tG W' q2)
  | 11, _ => exact h11 W' (Nat.le_trans s2 q1) (tG W' q2)
  | 12, _ => exact h12 W' (Nat.le_trans s2 q1) (tG W' q2)
 ·rw [e2, e1]
  exact belowSetRow (below_setCells h.k.b (h.nw.l1 g hFg).1 _ _) hD _
 ·obtain ⟨H6, H11, H12, l6, l11, l12, d1, d2, d3⟩ := hO.ex
  have nH : ∀ {o : Nat} {d0 d : Dt} {v : Value} {H : Nat → Prop}, Lo w W A D X g gs F1 o d0 d v H → ∀ b, H b → ¬ mhG w.heap.size g X A D gs b := fun l b hb => by
   rcases l with ⟨_, _, k⟩ | ⟨_, k⟩
   ·exact absurd hb (k b)
   ·exact (k b hb).2
  have pick : ∀ {o : Nat} {d0 d : Dt} {v : Value} {H : Nat → Prop}, Lo w W A D X g gs F1 o d0 d v H → (d = d0 ∧ W.cell? ⟨g, o, none⟩ = some v) ∨ (Ow W w.heap.size d v H ∧ ∀ b, H b → ¬ F1 b) := fun l => by
   rcases l with ⟨k1, k2, _⟩ | ⟨k1, k2⟩
   ·exact .inl ⟨k1, k2⟩
   ·exact .inr ⟨k1, fun b hb => (k2 b hb).1⟩
  have put := Ow.put (d := slD x) (H := fun q b => (q = 6 ∧ H6 b) ∨ (q = 11 ∧ H11 b) ∨ (q = 12 ∧ H12 b)) (F' := fun b => F1 b ∨ H6 b ∨ H11 b ∨ H12 b) (vs := slL x (.slice a6 x.p.m c6) (.slice a11 x.ze.length c11) (.slice a12 x.zr.length c12)) h.nw.o hp rfl (fun q hq => by
   have mono : ∀ {d : Dt} {v : Value} {H H' : Nat → Prop}, Ow W w.heap.size d v H → (∀ b, H b → H' b) → Ow W w.heap.size d v H' := fun k kk => k.mono kk
   match q, hq with
   | 0, _ | 1, _ | 2, _ | 3, _ | 4, _ | 5, _ | 7, _ | 8, _ | 9, _ | 10, _ => exact .inr ⟨rfl, fun b k => by rcases k with ⟨k, _⟩ | ⟨k, _⟩ | ⟨k, _⟩ <;> omega⟩
   | 6, _ =>
    rcases pick l6 with k | ⟨k1, k2⟩
    ·exact .inl k
    ·exact .inr ⟨mono k1 (fun b kb => .inl ⟨rfl, kb⟩), fun b k => by rcases k with ⟨_, k⟩ | ⟨k, _⟩ | ⟨k, _⟩; exact k2 b k; omega; omega⟩
   | 11, _ =>
    rcases pick l11 with k | ⟨k1, k2⟩
    ·exact .inl k
    ·exact .inr ⟨mono k1 (fun b kb => .inr (.inl ⟨rfl, kb⟩)), fun b k => by rcases k with ⟨k, _⟩ | ⟨_, k⟩ | ⟨k, _⟩; omega; exact k2 b k; omega⟩
   | 12, _ =>
    rcases pick l12 with k | ⟨k1, k2⟩
    ·exact .inl k
    ·exact .inr ⟨mono k1 (fun b kb => .inr (.inr ⟨rfl, kb⟩)), fun b k => by rcases k with ⟨k, _⟩ | ⟨k, _⟩ | ⟨_, k⟩; omega; omega; exact k2 b k⟩)
   (fun q q' b _ _ k k' => by
    rcases k with ⟨e, k⟩ | ⟨e, k⟩ | ⟨e, k⟩ <;> rcases k' with ⟨e', k'⟩ | ⟨e', k'⟩ | ⟨e', k'⟩
    ·omega
    ·exact absurd k' (d1 b k)
    ·exact absurd k' (d2 b k)
    ·exact absurd k (d1 b k')
    ·omega
    ·exact absurd k' (d3 b k)
    ·exact absurd k (d2 b k')
    ·exact absurd k (d3 b k')
    ·omega)
   (fun b k => .inl k) (fun q b _ k => by rcases k with ⟨_, k⟩ | ⟨_, k⟩ | ⟨_, k⟩; exact .inr (.inl k); exact .inr (.inr (.inl k)); exact .inr (.inr (.inr k)))
  refine ⟨(fun b => F1 b ∨ H6 b ∨ H11 b ∨ H12 b), ?_⟩
  have put2 : Ow W1 w.heap.size (slsD n (fun i => if i = p then x else S i)) (.slice (some ⟨g, 0, none⟩) n c) (fun b => F1 b ∨ H6 b ∨ H11 b ∨ H12 b) := by
   rw [e1]
   refine put.congr fun i q _ _ => ?_
   by_cases ei : i = p
   ·simp only [ei, if_true]
   ·simp only [ei, if_false]
  have mD : mhG w.heap.size g X A D gs D := .inl (.inr (.inr (.inr (.inl rfl))))
  exact put2.frame fun b hb _ => t2 b (fun e => by
   subst e
   rcases hb with k | k | k | k
   ·exact hFD k
   ·exact nH l6 _ k mD
   ·exact nH l11 _ k mD
   ·exact nH l12 _ k mD)
end Go.Proofs.YtaenoiffamgcfaaGreatDoor
