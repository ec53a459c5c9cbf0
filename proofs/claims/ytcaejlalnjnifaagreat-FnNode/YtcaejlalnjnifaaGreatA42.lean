import Derived.Test.YtcaejlalnjnifaaGreatA41
import Derived.Test.YtcaejlalnjnifaaGreatA34
import Derived.Test.YtcaejlalnjnifaaGreatA23
set_option maxHeartbeats 8000000
set_option maxRecDepth 2000
open Go.ChangeShapes Go.WideShapes Go.ChangeAt Go.RowKit
namespace Go.Proofs.YtcaejlalnjnifaaGreat
noncomputable def mhB (id f : Int) (S : Nat → Sl) (p : Nat) (y : Sy) : Bool := decide (y.k = 0) && (!(S p).e && mineB y.r id f y.p.r y.p.k y.p.n y.p.i y.p.b y.p.m y.p.S)
def mhR (f : Int) (x : Sl) : Bool := !x.d && (decide (2 * f + 1 ≤ (x.ze.length : Int)) || decide (f + 1 ≤ (x.zr.length : Int)))
def mhU (f : Int) (x : Sl) : Sl := if mhR f x then { x with d := true } else x
def mhV (f : Int) (x : Sl) : Sl := if 2 * f + 1 ≤ (x.zr.length : Int) then { x with o := true } else x
structure SlT (f : Int) (x : Sl) : Prop where
 d : x.d = false → (x.ze.length : Int) < 2 * f + 1 ∧ (x.zr.length : Int) < f + 1
 o : x.o = false → (x.zr.length : Int) < 2 * f + 1
theorem slT_of {id f : Int} {n : Nat} {S : Nat → Sl} {r : ByteArray} (h : NdP id f n S) : SlT f (slF S r n (plN S r n)) ∧ (slF S r n (plN S r n)).r = r := by
 have hf := seB_f h.1
 rcases slF_at S r n with ⟨_, k⟩ | ⟨k1, k, k2⟩
 ·rw [k]
  refine ⟨⟨fun _ => ⟨?_, ?_⟩, fun _ => ?_⟩, rfl⟩ <;> (simp [slR]; omega)
 ·rw [k]
  have hs := (h.2.2 _ k1).1
  have h1 := hs.2.2.2.2.2.1
  have h2 := hs.2.2.2.2.2.2.1
  unfold stI at h1 h2
  refine ⟨⟨fun e => ?_, fun e => ?_⟩, k2⟩
  ·rw [e] at h1
   by_cases a : 2 * f + 1 ≤ (((S (plN S r n)).zr.length : Nat) : Int)
   ·rw [if_pos a] at h1
    exact absurd (h1 (by omega)) (by simp)
   rw [if_neg a] at h1
   by_cases b : 2 * f + 1 ≤ (((S (plN S r n)).ze.length : Nat) : Int)
   ·rw [if_pos b] at h1
    exact absurd (h1 (by omega)) (by simp)
   rw [if_neg b] at h1
   by_cases c : f + 1 ≤ (((S (plN S r n)).zr.length : Nat) : Int)
   ·rw [if_pos c] at h1
    exact absurd (h1 (by omega)) (by simp)
   exact ⟨by omega, by omega⟩
  ·rw [e] at h2
   by_cases a : 2 * f + 1 ≤ (((S (plN S r n)).zr.length : Nat) : Int)
   ·rw [if_pos a] at h2
    exact absurd (h2 (by omega)) (by simp)
   omega
theorem mhR_no {f : Int} {x : Sl} (h : x.d = false → (x.ze.length : Int) < 2 * f + 1 ∧ (x.zr.length : Int) < f + 1) : mhR f x = false := by
 unfold mhR
 cases e : x.d with
 | true => rfl
 | false =>
  have k := h e
  have k1 : ¬ 2 * f + 1 ≤ (x.ze.length : Int) := by omega
  have k2 : ¬ f + 1 ≤ (x.zr.length : Int) := by omega
  simp [k1, k2]
theorem mhV_same {f : Int} {x : Sl} (h : x.o = false → (x.zr.length : Int) < 2 * f + 1) : mhV f x = x := by
 unfold mhV
 split
 ·rename_i k
  cases e : x.o with
  | true =>
   have e1 : { x with o := true } = x := by rw [← e]
   exact e1
  | false => have := h e; omega
 ·rfl
theorem stI_two {f : Int} (e r : Nat) : (2 ≤ stI f e r) = (2 * f + 1 ≤ (r : Int)) := by
 unfold stI
 by_cases a : 2 * f + 1 ≤ (r : Int)
 ·rw [if_pos a]; simp [a]
 ·rw [if_neg a]
  by_cases b : 2 * f + 1 ≤ (e : Int)
  ·rw [if_pos b]; simp [a]
  ·rw [if_neg b]
   by_cases c : f + 1 ≤ (r : Int)
   ·rw [if_pos c]; simp [a]
   ·rw [if_neg c]; simp [a]
theorem stI_one {f : Int} (hf : 1 ≤ f) (e r : Nat) : (1 ≤ stI f e r) = (2 * f + 1 ≤ (e : Int) ∨ f + 1 ≤ (r : Int)) := by
 unfold stI
 by_cases a : 2 * f + 1 ≤ (r : Int)
 ·have : f + 1 ≤ (r : Int) := by omega
  rw [if_pos a]; simp [this]
 ·rw [if_neg a]
  by_cases b : 2 * f + 1 ≤ (e : Int)
  ·rw [if_pos b]; simp [b]
  ·rw [if_neg b]
   by_cases c : f + 1 ≤ (r : Int)
   ·rw [if_pos c]; simp [c]
   ·rw [if_neg c]; simp [b, c]
theorem hvR_is {f : Int} {S : Nat → Sl} {p : Nat} {y : Sy} (hf : 1 ≤ f) : hvR f S p y ↔ mhR f (hvA S p y p) = true := by
 unfold hvR hvT mhR
 rw [stI_one hf]
 simp only [Bool.and_eq_true, Bool.or_eq_true, decide_eq_true_eq, Bool.not_eq_true']
 exact ⟨fun h => ⟨h.2, h.1⟩, fun h => ⟨h.2, h.1⟩⟩
theorem hvE_is {id f : Int} {S : Nat → Sl} {p : Nat} {y : Sy} (k0 : y.k = 0) : hvE id f S p y ↔ mhB id f S p y = true := by
 unfold hvE mhB
 rw [decide_eq_true k0]
 cases (S p).e <;> simp
theorem mhB_no {id f : Int} {S : Nat → Sl} {p : Nat} {y : Sy} (k0 : ¬ y.k = 0) : mhB id f S p y = false := by
 unfold mhB
 rw [decide_eq_false k0]
 rfl
theorem mhx_else {S : Nat → Sl} {p : Nat} {y : Sy} (k0 : ¬ y.k = 0) (hk : 0 ≤ y.k ∧ y.k ≤ 2) : mhx false S p y = hvA S p y p := by
 unfold mhx hvA
 by_cases k1 : y.k = 1
 ·simp [k1]
 ·have k2 : y.k = 2 := by omega
  simp [k2]
theorem mhx_zero {S : Nat → Sl} {p : Nat} {y : Sy} (k0 : y.k = 0) : mhx false S p y = S p := by
 unfold mhx
 simp [k0]
theorem mhx_got {S : Nat → Sl} {p : Nat} {y : Sy} : mhx true S p y = { S p with p := y.p, h := true, e := true } := by
 unfold mhx slGot
 simp
theorem hvA_other {S : Nat → Sl} {p i : Nat} {y : Sy} (h : ¬ i = p) : hvA S p y i = S i := by
 unfold hvA slEc slRd
 split <;> simp [h]
theorem mhS_is {id f : Int} {S : Nat → Sl} {p : Nat} {y : Sy} (hf : 1 ≤ f) (hk : 0 ≤ y.k ∧ y.k ≤ 2) (hT : SlT f (S p)) : (fun i => if i = p then mhV f (mhU f (mhx (mhB id f S p y) S p y)) else S i) = hvS id f S p y := by
 funext i
 by_cases k0 : y.k = 0
 ·cases eb : mhB id f S p y with
  | true =>
   have he := (hvE_is k0).2 eb
   unfold hvS
   rw [if_pos k0, if_pos he, mhx_got]
   have e1 : mhU f { S p with p := y.p, h := true, e := true } = { S p with p := y.p, h := true, e := true } := by
    unfold mhU
    rw [mhR_no (x := { S p with p := y.p, h := true, e := true }) hT.d]
    rfl
   rw [e1, mhV_same (x := { S p with p := y.p, h := true, e := true }) hT.o]
   rfl
  | false =>
   have he : ¬ hvE id f S p y := fun h => by rw [(hvE_is k0).1 h] at eb; cases eb
   unfold hvS
   rw [if_pos k0, if_neg he, mhx_zero k0]
   have e1 : mhU f (S p) = S p := by
    unfold mhU
    rw [mhR_no hT.d]
    rfl
   rw [e1, mhV_same hT.o]
   by_cases ei : i = p
   ·rw [if_pos ei, ei]
   ·rw [if_neg ei]
 ·rw [mhB_no k0, mhx_else k0 hk]
  have hB : ∀ j, hvB f S p y j = if j = p then mhV f (hvA S p y p) else S j := by
   intro j
   unfold hvB
   by_cases k1 : y.k = 1
   ·rw [if_pos k1]
    have e2 : mhV f (hvA S p y p) = hvA S p y p := mhV_same (by
     have ea : hvA S p y = slEc S p (putI (S p).ze y.f) := by unfold hvA; rw [if_pos k1]
     rw [ea]
     unfold slEc
     simpa using hT.o)
    rw [e2]
    by_cases ej : j = p
    ·rw [if_pos ej, ej]
    ·rw [if_neg ej, hvA_other ej]
   ·rw [if_neg k1]
    unfold slDn
    by_cases ej : j = p
    ·rw [if_pos ej, if_pos ej]
     unfold mhV hvT
     rw [show (decide (2 ≤ stI f (hvA S p y p).ze.length (hvA S p y p).zr.length)) = decide (2 * f + 1 ≤ ((hvA S p y p).zr.length : Int)) from by simp only [stI_two]]
     by_cases a : 2 * f + 1 ≤ ((hvA S p y p).zr.length : Int)
     ·rw [if_pos a, decide_eq_true a, Bool.or_true]
     ·rw [if_neg a, decide_eq_false a, Bool.or_false]
    ·rw [if_neg ej, if_neg ej, hvA_other ej]
  unfold hvS
  rw [if_neg k0]
  by_cases hR : hvR f S p y
  ·rw [if_pos hR]
   have r1 := (hvR_is hf).1 hR
   unfold slRy mhU
   rw [r1]
   by_cases ei : i = p
   ·rw [if_pos ei, if_pos ei, hB p, if_pos rfl]
    unfold mhV
    by_cases a : 2 * f + 1 ≤ ((hvA S p y p).zr.length : Int)
    ·simp only [if_true, a]
    ·simp only [if_true, if_neg a]
   ·rw [if_neg ei, if_neg ei, hB i, if_neg ei]
  ·rw [if_neg hR]
   have r1 : mhR f (hvA S p y p) = false := by
    cases e : mhR f (hvA S p y p) with
    | false => rfl
    | true => exact absurd ((hvR_is hf).2 e) hR
   unfold mhU
   rw [r1, hB i]
   rfl
theorem hvY_is {id : Int} {S : Nat → Sl} {p : Nat} {y : Sy} : hvY id S p y = syA (if y.k = 0 then 1 else 2) id (S p).r := funext (hvY_at id S p y)
theorem mhx_d {id f : Int} {S : Nat → Sl} {p : Nat} {y : Sy} (hT : SlT f (S p)) (k0 : y.k = 0) : mhR f (mhx (mhB id f S p y) S p y) = false := by
 cases mhB id f S p y with
 | true => rw [mhx_got]; exact mhR_no (x := { S p with p := y.p, h := true, e := true }) hT.d
 | false => rw [mhx_zero k0]; exact mhR_no hT.d
theorem mhM_ready {id f : Int} {S : Nat → Sl} {p : Nat} {y : Sy} (hf : 1 ≤ f) (hk : 0 ≤ y.k ∧ y.k ≤ 2) (hT : SlT f (S p)) (hr : mhR f (mhx (mhB id f S p y) S p y) = true) : mhB id f S p y = false ∧ hvM id f S p y = nAll f ∧ hvY id S p y = syA 2 id (S p).r := by
 by_cases k0 : y.k = 0
 ·rw [mhx_d hT k0] at hr; cases hr
 ·rw [mhB_no k0, mhx_else k0 hk] at hr
  refine ⟨mhB_no k0, ?_, ?_⟩
  ·unfold hvM
   rw [if_neg k0, if_pos ((hvR_is hf).2 hr)]
  ·rw [hvY_is, if_neg k0]
theorem mhM_echo {id f : Int} {S : Nat → Sl} {p : Nat} {y : Sy} (hb : mhB id f S p y = true) : hvM id f S p y = nAll f ∧ hvY id S p y = syA 1 id (S p).r := by
 have k0 : y.k = 0 := by
  by_cases k0 : y.k = 0
  ·exact k0
  ·rw [mhB_no k0] at hb; cases hb
 constructor
 ·unfold hvM
  rw [if_pos k0, if_pos ((hvE_is k0).2 hb)]
 ·rw [hvY_is, if_pos k0]
theorem mhM_none {id f : Int} {S : Nat → Sl} {p : Nat} {y : Sy} (hf : 1 ≤ f) (hk : 0 ≤ y.k ∧ y.k ≤ 2) (hb : mhB id f S p y = false) (hr : mhR f (mhx (mhB id f S p y) S p y) = false) : hvM id f S p y = 0 := by
 unfold hvM
 by_cases k0 : y.k = 0
 ·rw [if_pos k0, if_neg (fun h => by rw [(hvE_is k0).1 h] at hb; cases hb)]
 ·rw [if_neg k0, if_neg (fun h => by rw [hb, mhx_else k0 hk, (hvR_is hf).1 h] at hr; cases hr)]
theorem mhx_len {b : Bool} {S : Nat → Sl} {p : Nat} {y : Sy} (h : HvK S p y) : (mhx b S p y).ze.length ≤ 1048576 ∧ (mhx b S p y).zr.length ≤ 1048576 := by
 have h1 := h.ze
 have h2 := h.zr
 have hp : ∀ zs : List Int, (putI zs y.f).length ≤ zs.length + 1 := fun zs => putI_len zs y.f
 unfold mhx
 split
 ·unfold slGot; simp; omega
 ·split
  ·unfold slEc; simp; have := hp (S p).ze; omega
  ·split
   ·unfold slRd; simp; have := hp (S p).zr; omega
   ·omega
theorem rd_put2 {W W2 : World} {B g n cap : Nat} {S : Nat → Sl} {F : Nat → Prop} (h : Ow W B (slsD n S) (.slice (some ⟨g, 0, none⟩) n cap) F) {p : Nat} (hp : p < n) (x : Sl) (vs : List Value) (hl : vs.length = 13)
  (hg : W2.heap[g]? = (W.setCells g (p * 13) vs).heap[g]?) (hF : ∀ b, F b → b ≠ g → b < W.heap.size → W2.heap[b]? = W.heap[b]?) (hv : ∀ q, q < 13 → Rd W2 (slD x q) (vs.getD q undef)) : Rd W2 (slsD n (fun i => if i = p then x else S i)) (.slice (some ⟨g, 0, none⟩) n cap) := by
 obtain ⟨a, cap', c, G, e, ho, hs, hr⟩ := h
 cases e
 have e0 := own_setCells hp vs 0 W c (by omega) ho
 rw [Nat.add_zero] at e0
 refine ⟨some ⟨g, 0, none⟩, cap, rfl, fun i hi => ⟨g, 0, rfl, fun q hq => ?_⟩⟩
 refine ⟨_, by rw [cell_same hg, Nat.zero_add, World.ownsRow.cellAt e0 _ (mid_lt hi hq)]; exact cL_get _ _ _ _ _ hi hq, ?_⟩
 by_cases ei : i = p
 ·rw [if_pos ⟨ei, Nat.zero_le _⟩]
  show Rd _ (slD (if i = p then x else S i) q) _
  rw [if_pos ei]
  exact hv q hq
 ·rw [if_neg (fun k => ei k.1)]
  show Rd _ (slD (if i = p then x else S i) q) _
  rw [if_neg ei]
  exact ((hr i q hi hq).frame (fun b hb hl => hF b (hs.sub i q b hi hq hb) (fun e => hs.apart i q _ hi hq rfl (e ▸ hb)) hl)).rd
theorem Nw.there {W : World} {B Nb : Nat} {id f : Int} {g n cap : Nat} {S : Nat → Sl} {F1 : Nat → Prop} (h : Nw W B Nb id f g n cap S F1) {p : Nat} (hp : p < n) : W.there g (p * 13) 13 := by
 obtain ⟨a', cap', c', G', e', ho', _⟩ := h.o
 cases e'
 intro j hj
 refine ⟨?_, World.ownsRow.frozenAt ho' _⟩
 rw [World.ownsRow.cellAt ho' _ (mid_lt hp hj), cL_get _ _ _ _ _ hp hj]
 rfl
structure MhF (w W1 W2 : World) (A D : Nat) (id f : Int) (g n c : Nat) (S : Nat → Sl) (m : Nat) (Y : Nat → Sy) (so : Value) : Prop where
 ra : Row W1 A 26 #[.int .i64 id, .int .i64 f, .slice (some ⟨g, 0, none⟩) n c]
 rd : Row W1 D 26 #[.int .i64 0, .int .i64 0, .slice none 0 0]
 rd2 : Row W2 D 26 #[.int .i64 id, .int .i64 f, .slice (some ⟨g, 0, none⟩) n c]
 l : Rf W2 (fun b => b < w.heap.size) (slsD n S) (.slice (some ⟨g, 0, none⟩) n c)
 s : Rf W2 (fun b => b < w.heap.size) (sysD m Y) so
 b : Below w.heap.size w W2
 o : ∃ F, Ow W2 w.heap.size (slsD n S) (.slice (some ⟨g, 0, none⟩) n c) F
theorem MhY.fin {p : Nat} {w W : World} {A C D X : Nat} {id f : Int} {g n c : Nat} {S : Nat → Sl} {F1 : Nat → Prop} {y : Sy} {a9 : Option Addr} {c9 : Nat} {x : Sl} {m : Nat} {Y : Nat → Sy} {so : Value} {gs : Nat} (h : MhY p w W A C D X id f g n c S F1 y a9 c9 x m Y so gs) (hFD : ¬ F1 D) (hD : w.heap.size ≤ D) (hp : p < n) (a6 a11 a12 : Option Addr) (c6 c11 c12 : Nat)
  (h6 : Rf W (mhG w.heap.size g X A D gs) (txD x.p.m x.p.S) (.slice a6 x.p.m c6)) (h11 : Rf W (mhG w.heap.size g X A D gs) (inD x.ze) (.slice a11 x.ze.length c11)) (h12 : Rf W (mhG w.heap.size g X A D gs) (inD x.zr) (.slice a12 x.zr.length c12)) (hO : MhO p w W A D X g gs F1 S x (.slice a6 x.p.m c6) (.slice a11 x.ze.length c11) (.slice a12 x.zr.length c12)) (W1 W2 : World)
  (e1 : W1 = W.setCells g (p * 13) (slL x (.slice a6 x.p.m c6) (.slice a11 x.ze.length c11) (.slice a12 x.zr.length c12))) (e2 : W2 = W1.setRow D #[.int .i64 id, .int .i64 f, .slice (some ⟨g, 0, none⟩) n c]) : MhF w W1 W2 A D id f g n c (fun i => if i = p then x else S i) m Y so := by
 have hFg : F1 g := by obtain ⟨_, _, _, _, e, _, hs, _⟩ := h.nw.o; cases e; exact hs.head _ rfl
 have gA : A ≠ g := fun e => h.nw.h1 (e ▸ hFg)
 have gD : D ≠ g := fun e => hFD (e ▸ hFg)
 have t1 : ∀ b, b ≠ g → W1.heap[b]? = W.heap[b]? := fun b hb => by rw [e1]; exact heap_setCells_other g _ _ W b hb
 have t2 : ∀ b, b ≠ D → W2.heap[b]? = W1.heap[b]? := fun b hb => by rw [e2]; exact setRow_other _ _ _ _ hb
 have s1 : W1.heap.size = W.heap.size := by rw [e1]; exact size_setCells _ _ _ _
 have s2 : W.heap.size ≤ W2.heap.size := by rw [e2]; simp [s1]
 have tA : ∀ W' : World, (∀ b, ¬ b < w.heap.size → b < W2.heap.size → W'.heap[b]? = W2.heap[b]?) → ∀ b, b ≠ g → b ≠ D → ¬ b < w.heap.size → b < W.heap.size → W'.heap[b]? = W.heap[b]? := fun W' h2 b h3 h4 h5 h6 => ((h2 b h5 (by omega)).trans (t2 b h4)).trans (t1 b h3)
 have tG : ∀ W' : World, (∀ b, ¬ b < w.heap.size → b < W2.heap.size → W'.heap[b]? = W2.heap[b]?) → ∀ b, ¬ mhG w.heap.size g X A D gs b → b < W.heap.size → W'.heap[b]? = W.heap[b]? := fun W' h2 b hb => tA W' h2 b (fun e => hb (.inl (.inl e))) (fun e => hb (.inl (.inr (.inr (.inr (.inl e)))))) (fun e => hb (.inl (.inr (.inr (.inr (.inr e))))))
 have tE : ∀ W' : World, (∀ b, ¬ b < w.heap.size → b < W2.heap.size → W'.heap[b]? = W2.heap[b]?) → ∀ b, ¬ mhE w.heap.size g X A D b → b < W.heap.size → W'.heap[b]? = W.heap[b]? := fun W' h2 b hb => tA W' h2 b (fun e => hb (.inl e)) (fun e => hb (.inr (.inr (.inr (.inl e))))) (fun e => hb (.inr (.inr (.inr (.inr e)))))
 have rd1 : Row W1 D 26 #[.int .i64 0, .int .i64 0, .slice none 0 0] := (t1 D gD).trans h.k.rd
 have lg := h.nw.l1 g hFg
 refine ⟨(t1 A gA).trans h.nw.r, rd1, by rw [e2]; exact rd1.row, ?_, fun W' q1 q2 => h.s W' (Nat.le_trans s2 q1) (tE W' q2), ?_, ?_⟩
 ·intro W' q1 q2
  refine rd_put2 h.nw.o hp x (slL x (.slice a6 x.p.m c6) (.slice a11 x.ze.length c11) (.slice a12 x.zr.length c12)) rfl (by rw [← e1]; exact (q2 g (by omega) (by omega)).trans (t2 g (fun e => gD e.symm))) (fun b hb hne hl => tA W' q2 b hne (fun e => hFD (e ▸ hb)) (by have := (h.nw.l1 b hb).1; omega) hl) (fun q hq => ?_)
  match q, hq with
  | 0, _ | 1, _ | 2, _ | 3, _ | 4, _ | 5, _ | 7, _ | 8, _ | 9, _ | 10, _ => exact rfl
  | 6, _ => exact h6 W' (Nat.le_trans s2 q1) (tG W' q2)
  | 11, _ => exact h11 W' (Nat.le_trans s2 q1) (tG W' q2)
  | 12, _ => exact h12 W' (Nat.le_trans s2 q1) (tG W' q2)
 ·rw [e2, e1]
  exact belowSetRow (below_setCells h.k.b (h.nw.l1 g hFg).1 _ _) hD _
 ·obtain ⟨H6, H11, H12, l6, l11, l12, d1, d2, d3⟩ := hO.ex
  have nH : ∀ {o : Nat} {d0 d : Dt} {v : Value} {H : Nat → Prop}, Lo w W A D X g gs F1 o d0 d v H → ∀ b, H b → ¬ mhG w.heap.size g X A D gs b := fun l b hb => by
   rcases l with ⟨_, _, k⟩ | ⟨_, k⟩
   ·exact absurd hb (k b)
   ·exact (k b hb).2
  have pick : ∀ {o : Nat} {d0 d : Dt} {v : Value} {H : Nat → Prop}, Lo w W A D X g gs F1 o d0 d v H → (d = d0 ∧ W.cell? ⟨g, o, none⟩ = some v) ∨ (Ow W w.heap.size d v H ∧ ∀ b, H b → ¬ F1 b) := fun l => by
   rcases l with ⟨k1, k2, _⟩ | ⟨k1, k2⟩
   ·exact .inl ⟨k1, k2⟩
   ·exact .inr ⟨k1, fun b hb => (k2 b hb).1⟩
  have put := Ow.put (d := slD x) (H := fun q b => (q = 6 ∧ H6 b) ∨ (q = 11 ∧ H11 b) ∨ (q = 12 ∧ H12 b)) (F' := fun b => F1 b ∨ H6 b ∨ H11 b ∨ H12 b) (vs := slL x (.slice a6 x.p.m c6) (.slice a11 x.ze.length c11) (.slice a12 x.zr.length c12)) h.nw.o hp rfl (fun q hq => by
   have mono : ∀ {d : Dt} {v : Value} {H H' : Nat → Prop}, Ow W w.heap.size d v H → (∀ b, H b → H' b) → Ow W w.heap.size d v H' := fun k kk => k.mono kk
   match q, hq with
   | 0, _ | 1, _ | 2, _ | 3, _ | 4, _ | 5, _ | 7, _ | 8, _ | 9, _ | 10, _ => exact .inr ⟨rfl, fun b k => by rcases k with ⟨k, _⟩ | ⟨k, _⟩ | ⟨k, _⟩ <;> omega⟩
   | 6, _ =>
    rcases pick l6 with k | ⟨k1, k2⟩
    ·exact .inl k
    ·exact .inr ⟨mono k1 (fun b kb => .inl ⟨rfl, kb⟩), fun b k => by rcases k with ⟨_, k⟩ | ⟨k, _⟩ | ⟨k, _⟩; exact k2 b k; omega; omega⟩
   | 11, _ =>
    rcases pick l11 with k | ⟨k1, k2⟩
    ·exact .inl k
    ·exact .inr ⟨mono k1 (fun b kb => .inr (.inl ⟨rfl, kb⟩)), fun b k => by rcases k with ⟨k, _⟩ | ⟨_, k⟩ | ⟨k, _⟩; omega; exact k2 b k; omega⟩
   | 12, _ =>
    rcases pick l12 with k | ⟨k1, k2⟩
    ·exact .inl k
    ·exact .inr ⟨mono k1 (fun b kb => .inr (.inr ⟨rfl, kb⟩)), fun b k => by rcases k with ⟨k, _⟩ | ⟨k, _⟩ | ⟨_, k⟩; omega; omega; exact k2 b k⟩)
   (fun q q' b _ _ k k' => by
    rcases k with ⟨e, k⟩ | ⟨e, k⟩ | ⟨e, k⟩ <;> rcases k' with ⟨e', k'⟩ | ⟨e', k'⟩ | ⟨e', k'⟩
    ·omega
    ·exact absurd k' (d1 b k)
    ·exact absurd k' (d2 b k)
    ·exact absurd k (d1 b k')
    ·omega
    ·exact absurd k' (d3 b k)
    ·exact absurd k (d2 b k')
    ·exact absurd k (d3 b k')
    ·omega)
   (fun b k => .inl k) (fun q b _ k => by rcases k with ⟨_, k⟩ | ⟨_, k⟩ | ⟨_, k⟩; exact .inr (.inl k); exact .inr (.inr (.inl k)); exact .inr (.inr (.inr k)))
  refine ⟨(fun b => F1 b ∨ H6 b ∨ H11 b ∨ H12 b), ?_⟩
  have put2 : Ow W1 w.heap.size (slsD n (fun i => if i = p then x else S i)) (.slice (some ⟨g, 0, none⟩) n c) (fun b => F1 b ∨ H6 b ∨ H11 b ∨ H12 b) := by
   rw [e1]
   refine put.congr fun i q _ _ => ?_
   by_cases ei : i = p
   ·simp only [ei, if_true]
   ·simp only [ei, if_false]
  have mD : mhG w.heap.size g X A D gs D := .inl (.inr (.inr (.inr (.inl rfl))))
  exact put2.frame fun b hb _ => t2 b (fun e => by
   subst e
   rcases hb with k | k | k | k
   ·exact hFD k
   ·exact nH l6 _ k mD
   ·exact nH l11 _ k mD
   ·exact nH l12 _ k mD)
theorem tot_one {g h : Nat → Nat} {p c : Nat} (hg : ∀ i, i ≠ p → g i ≤ h i) (hp : g p ≤ h p + c) (n : Nat) : tot g n ≤ tot h n + (if p < n then c else 0) := by
 induction n with
 | zero => simp [tot]
 | succ n ih =>
  show tot g n + g n ≤ tot h n + h n + _
  by_cases e : n = p
  ·subst e
   rw [if_neg (Nat.lt_irrefl n)] at ih
   rw [if_pos (Nat.lt_succ_self n)]
   omega
  ·have := hg n e
   by_cases k : p < n
   ·rw [if_pos k] at ih
    rw [if_pos (by omega)]
    omega
   ·rw [if_neg k] at ih
    rw [if_neg (by omega)]
    omega
theorem tot_same {g h : Nat → Nat} {n : Nat} (hg : ∀ i, i < n → g i = h i) : tot g n = tot h n := by
 induction n with
 | zero => rfl
 | succ n ih =>
  show tot g n + g n = tot h n + h n
  rw [ih (fun i hi => hg i (by omega)), hg n (by omega)]
theorem mhUV_len (f : Int) (x : Sl) : (mhV f (mhU f x)).p.m = x.p.m ∧ (mhV f (mhU f x)).ze.length = x.ze.length ∧ (mhV f (mhU f x)).zr.length = x.zr.length := by
 unfold mhV mhU
 split <;> split <;> exact ⟨rfl, rfl, rfl⟩
theorem mhx_parts (b : Bool) (T : Nat → Sl) (p : Nat) (y : Sy) : ((mhx b T p y).p.m ≤ (T p).p.m ∨ (mhx b T p y).p.m = y.p.m) ∧ (mhx b T p y).ze.length ≤ (T p).ze.length + 1 ∧ (mhx b T p y).zr.length ≤ (T p).zr.length + 1 := by
 have hp : ∀ zs : List Int, (putI zs y.f).length ≤ zs.length + 1 := fun zs => putI_len zs y.f
 unfold mhx
 split
 ·unfold slGot; simp
 ·split
  ·unfold slEc; simp; exact hp _
  ·split
   ·unfold slRd; simp; exact hp _
   ·exact ⟨.inl (Nat.le_refl _), by omega, by omega⟩
structure NhL (N : Nat) (SG : Nat → Sl) (m : Nat) (YG : Nat → Sy) (t : Nat) : Prop where
 n : N ≤ 1048576
 s : ∀ i, i < N → SlS (SG i)
 w : tot (fun i => wkS (SG i)) N ≤ t + 1048600
 m : m ≤ 10
 p : ∀ i, (YG i).p.m = 0
theorem slF_tot (S : Nat → Sl) (r : ByteArray) (n : Nat) : tot (fun i => wkS (slF S r n i)) (hrN S r n) ≤ tot (fun i => wkS (S i)) n + 10 := by
 have e : tot (fun i => wkS (slF S r n i)) n = tot (fun i => wkS (S i)) n := tot_same (fun i hi => by unfold slF; rw [if_neg (by omega)])
 unfold hrN
 split
 ·omega
 ·show tot (fun i => wkS (slF S r n i)) n + wkS (slF S r n n) ≤ _
  rw [e]
  have : wkS (slF S r n n) = 10 := by unfold slF; rw [if_pos rfl]; rfl
  omega
theorem nh_little {id f : Int} {n : Nat} {S : Nat → Sl} {y : Sy} (hB : NhB n S y) : NhL (nhN id f n S y) (nhS id f n S y) (nhM id f n S y) (nhY id f n S y) (tot (fun i => wkS (S i)) n) := by
 cases eb : nhB id f n S y with
 | false =>
  simp only [nhN, nhS, nhM, nhY, eb]
  exact ⟨hB.kn, fun i hi => (hB.k i hi).s, by simp, by simp, fun i => rfl⟩
 | true =>
  have e1 : ndB id f n S = true := by unfold nhB at eb; simp at eb; exact eb.1
  have e2 : mindB id f n S y = true := by unfold nhB at eb; simp at eb; exact eb.2
  have hP := ndP_of e1
  have hM := mindP_of e2
  have hf := seB_f hP.1
  have hK := hvK_of (y := y) hB hP
  obtain ⟨hT, _⟩ := slT_of (r := y.r) hP
  have hS := mhS_is (id := id) (y := y) hf.1 hM.2.2.1 hT
  simp only [nhN, nhS, nhM, nhY, eb, if_true]
  have hn := hP.2.1
  have hN : hrN S y.r n ≤ n + 1 := by unfold hrN; split <;> omega
  have hx := mhUV_len f (mhx (mhB id f (slF S y.r n) (plN S y.r n) y) (slF S y.r n) (plN S y.r n) y)
  have hy := mhx_parts (mhB id f (slF S y.r n) (plN S y.r n) y) (slF S y.r n) (plN S y.r n) y
  have hz := hK.ze
  have hzr := hK.zr
  have hm := hB.m
  have hpm : (slF S y.r n (plN S y.r n)).p.m ≤ 1048576 := by
   rcases slF_at S y.r n with ⟨_, k⟩ | ⟨k1, k, _⟩
   ·rw [k]; simp [slR]
   ·rw [k]; exact (hB.k _ k1).m
  refine ⟨by omega, ?_, ?_, ?_, ?_⟩
  ·rw [← hS]
   intro i hi
   show SlS (if i = plN S y.r n then mhV f (mhU f (mhx (mhB id f (slF S y.r n) (plN S y.r n) y) (slF S y.r n) (plN S y.r n) y)) else slF S y.r n i)
   by_cases ei : i = plN S y.r n
   ·rw [if_pos ei]
    exact ⟨by rcases hy.1 with k | k <;> omega, by omega, by omega⟩
   ·rw [if_neg ei]
    rcases Nat.lt_or_ge i n with k | k
    ·have : slF S y.r n i = S i := by unfold slF; rw [if_neg (by omega)]
     rw [this]
     exact (hB.k i k).s
    ·have : slF S y.r n i = slR y.r := by unfold slF; rw [if_pos (by omega)]
     rw [this]
     exact ⟨by simp [slR], by simp [slR], by simp [slR]⟩
  ·rw [← hS]
   show tot (fun i => wkS (if i = plN S y.r n then mhV f (mhU f (mhx (mhB id f (slF S y.r n) (plN S y.r n) y) (slF S y.r n) (plN S y.r n) y)) else slF S y.r n i)) (hrN S y.r n) ≤ _
   have h1 := tot_one (g := fun i => wkS (if i = plN S y.r n then mhV f (mhU f (mhx (mhB id f (slF S y.r n) (plN S y.r n) y) (slF S y.r n) (plN S y.r n) y)) else slF S y.r n i)) (h := fun i => wkS (slF S y.r n i)) (p := plN S y.r n) (c := 1048578) (fun i hi => by simp only [if_neg hi]; exact Nat.le_refl _) (by
    simp only [if_true]
    unfold wkS
    rcases hy.1 with k | k <;> omega) (hrN S y.r n)
   have h2 := slF_tot S y.r n
   have h3 : (if plN S y.r n < hrN S y.r n then 1048578 else 0) ≤ 1048578 := by split <;> omega
   omega
  ·have h3 := nAll_is hf
   unfold hvM
   split <;> split <;> omega
  ·intro i
   rw [hvY_at]
   rfl
theorem NumP.lt {f : Int} {zs : List Int} (h : NumP f zs) (i : Nat) : ∀ d, i + (d + 1) < zs.length → zs.getD i 0 < zs.getD (i + (d + 1)) 0 := by
 intro d
 induction d with
 | zero =>
  intro hi
  have h2 := (h (i + 1) hi).2 (by omega)
  simpa using h2
 | succ j ih =>
  intro hi
  have h1 := ih (by omega)
  have h2 := (h (i + (j + 1 + 1)) hi).2 (by omega)
  have e : i + (j + 1 + 1) - 1 = i + (j + 1) := by omega
  rw [e] at h2
  omega
theorem numP_iff {f : Int} {zs : List Int} : NumP f zs ↔ (∀ y ∈ zs, 0 ≤ y ∧ y < 3 * f + 1) ∧ zs.Pairwise (· < ·) := by
 constructor
 ·intro h
  refine ⟨fun y hy => ?_, ?_⟩
  ·obtain ⟨i, hi, rfl⟩ := List.mem_iff_getElem.1 hy
   have := (h i hi).1
   rw [List.getD_eq_getElem?_getD, List.getElem?_eq_getElem hi] at this
   simp at this
   omega
  ·rw [List.pairwise_iff_getElem]
   intro i j hi hj hij
   have := h.lt i (j - i - 1) (by omega)
   have e : i + (j - i - 1 + 1) = j := by omega
   rw [e] at this
   simpa [List.getD_eq_getElem?_getD, List.getElem?_eq_getElem hi, List.getElem?_eq_getElem hj] using this
 ·rintro ⟨h1, h2⟩ i hi
  rw [List.pairwise_iff_getElem] at h2
  have e1 : zs.getD i 0 = zs[i] := by rw [List.getD_eq_getElem?_getD, List.getElem?_eq_getElem hi]; rfl
  refine ⟨?_, fun h0 => ?_⟩
  ·have := h1 _ (List.getElem_mem hi)
   rw [e1]
   exact ⟨by omega, by omega⟩
  ·have hi' : i - 1 < zs.length := by omega
   have e2 : zs.getD (i - 1) 0 = zs[i - 1] := by rw [List.getD_eq_getElem?_getD, List.getElem?_eq_getElem hi']; rfl
   rw [e1, e2]
   exact h2 (i - 1) i hi' hi (by omega)
theorem cnt_split {zs : List Int} (h : zs.Pairwise (· < ·)) (x : Int) : (∀ y ∈ zs.take (cntI zs x), y < x) ∧ ∀ y ∈ zs.drop (cntI zs x), x ≤ y := by
 induction zs with
 | nil => simp
 | cons a t ih =>
  rw [List.pairwise_cons] at h
  obtain ⟨ih1, ih2⟩ := ih h.2
  by_cases ha : a < x
  ·have e : cntI (a :: t) x = cntI t x + 1 := by unfold cntI; rw [List.countP_cons]; simp [ha]
   rw [e]
   refine ⟨fun y hy => ?_, fun y hy => ?_⟩
   ·rw [List.take_succ_cons, List.mem_cons] at hy
    rcases hy with rfl | hy
    ·exact ha
    ·exact ih1 y hy
   ·rw [List.drop_succ_cons] at hy
    exact ih2 y hy
  ·have e0 : cntI t x = 0 := by
    unfold cntI
    rw [List.countP_eq_zero]
    intro y hy
    have := h.1 y hy
    simp
    omega
   have e : cntI (a :: t) x = 0 := by unfold cntI at e0 ⊢; rw [List.countP_cons, e0]; simp [ha]
   rw [e]
   refine ⟨fun y hy => by simp at hy, fun y hy => ?_⟩
   rw [List.drop_zero, List.mem_cons] at hy
   rcases hy with rfl | hy
   ·omega
   ·have := h.1 y hy
    omega
theorem put_num {f x : Int} {zs : List Int} (h : NumP f zs) (hx : x = -1 ∨ (0 ≤ x ∧ x < 3 * f + 1)) : NumP f (putI zs x) := by
 unfold putI
 split
 ·exact h
 ·rename_i hn
  rw [numP_iff] at h ⊢
  obtain ⟨h1, h2⟩ := h
  obtain ⟨c1, c2⟩ := cnt_split h2 x
  have hne : x ≠ -1 := fun e => hn (.inl e)
  have hm : x ∉ zs := fun e => hn (.inr e)
  refine ⟨fun y hy => ?_, ?_⟩
  ·rw [List.mem_append, List.mem_cons] at hy
   rcases hy with hy | rfl | hy
   ·exact h1 y (List.mem_of_mem_take hy)
   ·omega
   ·exact h1 y (List.mem_of_mem_drop hy)
  ·have hap : (zs.take (cntI zs x) ++ zs.drop (cntI zs x)).Pairwise (· < ·) := by rw [List.take_append_drop]; exact h2
   rw [List.pairwise_append] at hap ⊢
   refine ⟨hap.1, ?_, fun y hy z hz => ?_⟩
   ·rw [List.pairwise_cons]
    refine ⟨fun y hy => ?_, hap.2.1⟩
    have := c2 y hy
    have : x ≠ y := fun e => hm (e ▸ List.mem_of_mem_drop hy)
    omega
   ·rw [List.mem_cons] at hz
    rcases hz with rfl | hz
    ·exact c1 y hy
    ·exact hap.2.2 y hy z hz
theorem put_put {x : Int} {zs : List Int} : putI (putI zs x) x = putI zs x := by
 by_cases h : x = -1 ∨ x ∈ zs
 ·have e : putI zs x = zs := by unfold putI; rw [if_pos h]
  rw [e, e]
 ·have e : putI zs x = zs.take (cntI zs x) ++ x :: zs.drop (cntI zs x) := by unfold putI; rw [if_neg h]
  have hm : x ∈ putI zs x := by rw [e]; simp
  show (if x = -1 ∨ x ∈ putI zs x then _ else _) = _
  rw [if_pos (.inr hm)]
theorem slR_ok {id f : Int} {r : ByteArray} (hf : 1 ≤ f ∧ f ≤ 3) (hr : r.size = 16) : SlotP id f (slR r) := by
 have h0 : NumP f [] := fun i hi => absurd hi (Nat.not_lt_zero i)
 have hs : stI f 0 0 = 0 := by
  unfold stI
  rw [if_neg (by omega), if_neg (by omega), if_neg (by omega)]
 refine ⟨hr, numB_yes h0, numB_yes h0, fun e => absurd e (by simp [slR]), fun e => absurd e (by simp [slR]), fun e => ?_, fun e => ?_, ?_⟩
 ·have : stI f (slR r).ze.length (slR r).zr.length = 0 := hs
  rw [this] at e; omega
 ·have : stI f (slR r).ze.length (slR r).zr.length = 0 := hs
  rw [this] at e; omega
 ·show false = mineB r id f ByteArray.empty 0 0 0 ByteArray.empty 0 (fun _ => ByteArray.empty)
  rw [mineB_no]
  intro h
  have := h.2.1
  omega
theorem slF_ok {id f : Int} {n : Nat} {S : Nat → Sl} {r : ByteArray} (h : NdP id f n S) (hr : r.size = 16) : SlotP id f (slF S r n (plN S r n)) := by
 rcases slF_at S r n with ⟨_, k⟩ | ⟨k1, k, _⟩
 ·rw [k]; exact slR_ok (seB_f h.1) hr
 ·rw [k]; exact (h.2.2 _ k1).1
theorem mhUV_d {f : Int} {x : Sl} (hf : 1 ≤ f) : (mhV f (mhU f x)).d = (x.d || mhR f x) ∧ (mhV f (mhU f x)).o = (x.o || decide (2 * f + 1 ≤ (x.zr.length : Int))) ∧ (mhV f (mhU f x)).r = x.r ∧ (mhV f (mhU f x)).p = x.p ∧ (mhV f (mhU f x)).h = x.h ∧ (mhV f (mhU f x)).e = x.e ∧ (mhV f (mhU f x)).ze = x.ze ∧ (mhV f (mhU f x)).zr = x.zr := by
 have _ := hf
 have hz : (mhU f x).zr = x.zr := by unfold mhU; split <;> rfl
 unfold mhV
 rw [hz]
 by_cases a : 2 * f + 1 ≤ (x.zr.length : Int)
 ·rw [if_pos a, decide_eq_true a, Bool.or_true]
  unfold mhU
  split
  ·rename_i h; simp [h]
  ·rename_i h; simp at h; simp [h]
 ·rw [if_neg a, decide_eq_false a, Bool.or_false]
  unfold mhU
  split
  ·rename_i h; simp [h]
  ·rename_i h; simp at h; simp [h]
theorem slot_thr {id f : Int} {x : Sl} (hf : 1 ≤ f ∧ f ≤ 3) (hr : x.r.size = 16) (he : NumP f x.ze) (hz : NumP f x.zr) (h1 : x.e = true → x.h = true) (h2 : x.o = true → x.d = true) (hm : x.h = mineB x.r id f x.p.r x.p.k x.p.n x.p.i x.p.b x.p.m x.p.S) : SlotP id f (mhV f (mhU f x)) := by
 obtain ⟨d1, d2, d3, d4, d5, d6, d7, d8⟩ := mhUV_d (x := x) hf.1
 refine ⟨by rw [d3]; exact hr, by rw [d7]; exact numB_yes he, by rw [d8]; exact numB_yes hz, fun e => ?_, fun e => ?_, fun e => ?_, fun e => ?_, ?_⟩
 ·rw [d6] at e; rw [d5]; exact h1 e
 ·rw [d2, Bool.or_eq_true] at e
  rw [d1, Bool.or_eq_true]
  rcases e with e | e
  ·exact .inl (h2 e)
  ·have e' := of_decide_eq_true e
   cases hd : x.d with
   | true => exact .inl rfl
   | false => right; unfold mhR; rw [hd, decide_eq_true (show f + 1 ≤ (x.zr.length : Int) by omega)]; simp
 ·rw [d7, d8, stI_one hf.1] at e
  rw [d1, Bool.or_eq_true]
  cases hd : x.d with
  | true => exact .inl rfl
  | false =>
   right
   unfold mhR
   rw [hd]
   rcases e with e | e
   ·rw [decide_eq_true e]; rfl
   ·rw [decide_eq_true e]; simp
 ·rw [d7, d8, stI_two] at e
  rw [d2, decide_eq_true e, Bool.or_true]
 ·rw [d5, d3, d4]; exact hm
theorem mhx_pre {id f : Int} {T : Nat → Sl} {p : Nat} {y : Sy} (hx : SlotP id f (T p)) (hr : (T p).r = y.r) (hy : y.f = -1 ∨ (0 ≤ y.f ∧ y.f < 3 * f + 1)) :
  (mhx (mhB id f T p y) T p y).r = (T p).r ∧ NumP f (mhx (mhB id f T p y) T p y).ze ∧ NumP f (mhx (mhB id f T p y) T p y).zr ∧ ((mhx (mhB id f T p y) T p y).e = true → (mhx (mhB id f T p y) T p y).h = true) ∧ ((mhx (mhB id f T p y) T p y).o = true → (mhx (mhB id f T p y) T p y).d = true) ∧ (mhx (mhB id f T p y) T p y).h = mineB (T p).r id f (mhx (mhB id f T p y) T p y).p.r (mhx (mhB id f T p y) T p y).p.k (mhx (mhB id f T p y) T p y).p.n (mhx (mhB id f T p y) T p y).p.i (mhx (mhB id f T p y) T p y).p.b (mhx (mhB id f T p y) T p y).p.m (mhx (mhB id f T p y) T p y).p.S := by
 obtain ⟨x1, x2, x3, x4, x5, x6, x7, x8⟩ := hx
 have n2 := numP_of x2
 have n3 := numP_of x3
 cases eb : mhB id f T p y with
 | true =>
  rw [mhx_got]
  have hm : mineB y.r id f y.p.r y.p.k y.p.n y.p.i y.p.b y.p.m y.p.S = true := by
   unfold mhB at eb
   rw [Bool.and_eq_true, Bool.and_eq_true] at eb
   exact eb.2.2
  exact ⟨rfl, n2, n3, fun _ => rfl, x5, by rw [hr]; exact hm.symm⟩
 | false =>
  unfold mhx
  rw [if_neg (by simp)]
  split
  ·unfold slEc
   simp only [if_true]
   exact ⟨trivial, put_num n2 hy, n3, x4, x5, x8⟩
  ·split
   ·unfold slRd
    simp only [if_true]
    exact ⟨trivial, n2, put_num n3 hy, x4, x5, x8⟩
   ·exact ⟨rfl, n2, n3, x4, x5, x8⟩
theorem mhx_ok {id f : Int} {T : Nat → Sl} {p : Nat} {y : Sy} (hf : 1 ≤ f ∧ f ≤ 3) (hx : SlotP id f (T p)) (hr : (T p).r = y.r) (hy : y.f = -1 ∨ (0 ≤ y.f ∧ y.f < 3 * f + 1)) : SlotP id f (mhV f (mhU f (mhx (mhB id f T p y) T p y))) := by
 obtain ⟨h1, h2, h3, h4, h5, h6⟩ := mhx_pre hx hr hy
 exact slot_thr hf (by rw [h1]; exact hx.1) h2 h3 h4 h5 (by rw [h1]; exact h6)
theorem nh_ok {id f : Int} {n : Nat} {S : Nat → Sl} {y : Sy} (h : NdP id f n S) : NdP id f (nhN id f n S y) (nhS id f n S y) := by
 cases eb : nhB id f n S y with
 | false => simp only [nhN, nhS, eb]; exact h
 | true =>
  have e2 : mindB id f n S y = true := by unfold nhB at eb; simp at eb; exact eb.2
  have hM := mindP_of e2
  have hf := seB_f h.1
  obtain ⟨hT, hTr⟩ := slT_of (r := y.r) h
  have hS := mhS_is (id := id) (y := y) hf.1 hM.2.2.1 hT
  have hok := mhx_ok hf (slF_ok h hM.2.2.2.1) hTr hM.2.1
  have hrr : (mhV f (mhU f (mhx (mhB id f (slF S y.r n) (plN S y.r n) y) (slF S y.r n) (plN S y.r n) y))).r = y.r := by
   rw [(mhUV_d hf.1).2.2.1, (mhx_pre (slF_ok h hM.2.2.2.1) hTr hM.2.1).1, hTr]
  simp only [nhN, nhS, eb, if_true]
  rw [← hS]
  have hN : hrN S y.r n = n ∧ plN S y.r n < n ∨ hrN S y.r n = n + 1 ∧ plN S y.r n = n ∧ (∀ i, i < n → (S i).r ≠ y.r) := by
   unfold hrN plN
   cases e : plc S y.r n with
   | none => right; exact ⟨by simp, rfl, fun i hi => plF_none e i (by omega) (by omega)⟩
   | some x =>
    obtain ⟨_, hx, _, _⟩ := plF_some e
    left
    exact ⟨by simp, by simpa using hx⟩
  have root : ∀ i, i < hrN S y.r n → (if i = plN S y.r n then mhV f (mhU f (mhx (mhB id f (slF S y.r n) (plN S y.r n) y) (slF S y.r n) (plN S y.r n) y)) else slF S y.r n i).r = (slF S y.r n i).r := fun i hi => by
   by_cases ei : i = plN S y.r n
   ·rw [if_pos ei, hrr, ei, hTr]
   ·rw [if_neg ei]
  refine ⟨h.1, ?_, fun i hi => ⟨?_, fun j hj => ?_⟩⟩
  ·have := h.2.1
   rcases hN with hN | hN
   ·omega
   ·have h40 := hM.2.2.2.2
    rcases h40 with k | k
    ·omega
    ·unfold plX at k
     have e : plc S y.r n = none := by
      have h3 := hN.1
      unfold hrN at h3
      cases e : plc S y.r n with
      | none => rfl
      | some x => rw [e] at h3; simp at h3
     rw [e] at k
     simp at k
  ·show SlotP id f (if i = plN S y.r n then _ else slF S y.r n i)
   by_cases ei : i = plN S y.r n
   ·rw [if_pos ei]; exact hok
   ·rw [if_neg ei]
    have hin : i < n := by rcases hN with hN | hN <;> omega
    have : slF S y.r n i = S i := by unfold slF; rw [if_neg (by omega)]
    rw [this]
    exact (h.2.2 i hin).1
  ·show (if j = plN S y.r n then _ else slF S y.r n j).r ≠ (if i = plN S y.r n then _ else slF S y.r n i).r
   rw [root j (by omega), root i hi]
   have hjn : j < n := by rcases hN with hN | hN <;> omega
   have ej : slF S y.r n j = S j := by unfold slF; rw [if_neg (by omega)]
   rw [ej]
   by_cases ein : i = n
   ·have ei : slF S y.r n i = slR y.r := by unfold slF; rw [if_pos ein]
    rw [ei]
    rcases hN with hN | hN
    ·omega
    ·exact hN.2.2 j hjn
   ·have ei : slF S y.r n i = S i := by unfold slF; rw [if_neg ein]
    rw [ei]
    have hin : i < n := by rcases hN with hN | hN <;> omega
    exact (h.2.2 i hin).2 j hj
theorem slotP_T {id f : Int} {x : Sl} (hf : 1 ≤ f) (h : SlotP id f x) : SlT f x := by
 have h1 := h.2.2.2.2.2.1
 have h2 := h.2.2.2.2.2.2.1
 rw [stI_one hf] at h1
 rw [stI_two] at h2
 refine ⟨fun e => ?_, fun e => ?_⟩
 ·rw [e] at h1
  by_cases k : 2 * f + 1 ≤ (x.ze.length : Int) ∨ f + 1 ≤ (x.zr.length : Int)
  ·exact absurd (h1 k) (by simp)
  ·omega
 ·rw [e] at h2
  by_cases k : 2 * f + 1 ≤ (x.zr.length : Int)
  ·exact absurd (h2 k) (by simp)
  ·omega
theorem mhx_again {id f : Int} {T T' : Nat → Sl} {p : Nat} {y : Sy} (hf : 1 ≤ f ∧ f ≤ 3) (hk : 0 ≤ y.k ∧ y.k ≤ 2) (e' : T' p = mhV f (mhU f (mhx (mhB id f T p y) T p y))) : mhB id f T' p y = false ∧ mhx false T' p y = T' p := by
 obtain ⟨d1, d2, d3, d4, d5, d6, d7, d8⟩ := mhUV_d (x := mhx (mhB id f T p y) T p y) hf.1
 rw [← e'] at d1 d2 d3 d4 d5 d6 d7 d8
 by_cases k0 : y.k = 0
 ·refine ⟨?_, mhx_zero k0⟩
  unfold mhB
  rw [decide_eq_true k0, Bool.true_and, d6]
  cases eb : mhB id f T p y with
  | true => rw [mhx_got]; rfl
  | false =>
   rw [mhx_zero k0]
   unfold mhB at eb
   rw [decide_eq_true k0, Bool.true_and] at eb
   exact eb
 ·refine ⟨mhB_no k0, ?_⟩
  rw [mhB_no k0] at d1 d2 d3 d4 d5 d6 d7 d8
  have hA := mhx_else (S := T) (p := p) (y := y) k0 hk
  rw [hA] at d7 d8
  unfold mhx
  rw [if_neg (by simp)]
  by_cases k1 : y.k = 1
  ·rw [if_pos k1]
   have e1 : (T' p).ze = putI (T p).ze y.f := by rw [d7]; unfold hvA slEc; rw [if_pos k1]; simp
   unfold slEc
   rw [if_pos rfl, e1, put_put, ← e1]
  ·have k2 : y.k = 2 := by omega
   rw [if_neg k1, if_pos k2]
   have e1 : (T' p).zr = putI (T p).zr y.f := by rw [d8]; unfold hvA slRd; rw [if_neg k1]; simp
   unfold slRd
   rw [if_pos rfl, e1, put_put, ← e1]
theorem nh_again {id f : Int} {n : Nat} {S : Nat → Sl} {y : Sy} (h : NdP id f n S) : nhN id f (nhN id f n S y) (nhS id f n S y) y = nhN id f n S y ∧ (∀ i, i < nhN id f n S y → nhS id f (nhN id f n S y) (nhS id f n S y) y i = nhS id f n S y i) ∧ nhM id f (nhN id f n S y) (nhS id f n S y) y = 0 := by
 cases eb : nhB id f n S y with
 | false =>
  have e1 : nhN id f n S y = n := by simp only [nhN, eb]; rfl
  have e2 : nhS id f n S y = S := by simp only [nhS, eb]; rfl
  rw [e1, e2, e1, e2]
  exact ⟨rfl, fun _ _ => rfl, by simp only [nhM, eb]; rfl⟩
 | true =>
  have e2 : mindB id f n S y = true := by unfold nhB at eb; simp at eb; exact eb.2
  have hM := mindP_of e2
  have hf := seB_f h.1
  have hok := nh_ok (y := y) h
  obtain ⟨hT, hTr⟩ := slT_of (r := y.r) h
  have hS := mhS_is (id := id) (y := y) hf.1 hM.2.2.1 hT
  have hrr : (mhV f (mhU f (mhx (mhB id f (slF S y.r n) (plN S y.r n) y) (slF S y.r n) (plN S y.r n) y))).r = y.r := by
   rw [(mhUV_d hf.1).2.2.1, (mhx_pre (slF_ok h hM.2.2.2.1) hTr hM.2.1).1, hTr]
  have eN : nhN id f n S y = hrN S y.r n := by simp only [nhN, eb, if_true]
  have eS : nhS id f n S y = fun i => if i = plN S y.r n then mhV f (mhU f (mhx (mhB id f (slF S y.r n) (plN S y.r n) y) (slF S y.r n) (plN S y.r n) y)) else slF S y.r n i := by simp only [nhS, eb, if_true]; exact hS.symm
  have hp := plN_lt S y.r n
  have ep : nhS id f n S y (plN S y.r n) = mhV f (mhU f (mhx (mhB id f (slF S y.r n) (plN S y.r n) y) (slF S y.r n) (plN S y.r n) y)) := by rw [eS]; exact if_pos rfl
  obtain ⟨p, HP⟩ : ∃ x, x = plN S y.r n := ⟨_, rfl⟩
  obtain ⟨n', HN⟩ : ∃ x, x = nhN id f n S y := ⟨_, rfl⟩
  obtain ⟨S', HS⟩ : ∃ x, x = nhS id f n S y := ⟨_, rfl⟩
  rw [← HN, ← HS] at hok ⊢
  rw [← HS, ← HP] at ep
  have hpn : p < n' := by rw [HN, eN, HP]; exact hp
  have hpr : (S' p).r = y.r := by rw [ep, HP]; exact hrr
  obtain ⟨q, hq⟩ : ∃ q, plc S' y.r n' = some q := by
   cases e : plc S' y.r n' with
   | none => exact absurd hpr (plF_none e p (by omega) (by omega))
   | some q => exact ⟨q, rfl⟩
  obtain ⟨_, hq1, hq2, _⟩ := plF_some hq
  have hqp : q = p := by
   rcases Nat.lt_trichotomy q p with k | k | k
   ·exact absurd (hq2.trans hpr.symm) ((hok.2.2 p hpn).2 q k)
   ·exact k
   ·exact absurd (hpr.trans hq2.symm) ((hok.2.2 q (by omega)).2 p k)
  subst hqp
  have hb' : nhB id f n' S' y = true := by
   have m1 : MindP id f n' S' y := ⟨hM.1, hM.2.1, hM.2.2.1, hM.2.2.2.1, .inr (by unfold plX; rw [hq]; exact Int.natCast_nonneg q)⟩
   unfold nhB
   rw [ndB_yes hok, mindB_yes m1]
   rfl
  have hpl : plN S' y.r n' = q := by unfold plN; rw [hq]
  have hhr : hrN S' y.r n' = n' := by unfold hrN; rw [hq]; rfl
  have hTq : slF S' y.r n' q = S' q := by unfold slF; rw [if_neg (by omega)]
  have hag := mhx_again (id := id) (T := slF S y.r n) (T' := slF S' y.r n') (p := q) (y := y) hf hM.2.2.1 (by rw [hTq, ep, HP])
  have hTT : SlT f (slF S' y.r n' q) := by rw [hTq]; exact slotP_T hf.1 (hok.2.2 q hpn).1
  have hS2 := mhS_is (id := id) (y := y) hf.1 hM.2.2.1 hTT
  rw [hag.1, hag.2] at hS2
  have hU : mhU f (slF S' y.r n' q) = slF S' y.r n' q := by unfold mhU; rw [mhR_no hTT.d]; rfl
  rw [hU, mhV_same hTT.o] at hS2
  simp only [nhN, nhS, nhM, hb', if_true, hpl, hhr]
  refine ⟨trivial, fun i hi => ?_, ?_⟩
  ·rw [← hS2]
   show (if i = q then slF S' y.r n' q else slF S' y.r n' i) = S' i
   by_cases ei : i = q
   ·rw [if_pos ei, hTq, ei]
   ·rw [if_neg ei]
    unfold slF
    rw [if_neg (by omega)]
  ·refine mhM_none hf.1 hM.2.2.1 hag.1 ?_
   rw [hag.1, hag.2]
   exact mhR_no hTT.d
end Go.Proofs.YtcaejlalnjnifaaGreat
