import Derived.Test.YtaenoiffamgcfaaGreatDoorM8
import Derived.Test.YtaenoiffamgcfaaGreatDoorM36
import Derived.Deep.CutRange
set_option maxHeartbeats 8000000
set_option maxRecDepth 2000
namespace Go.Proofs.YtaenoiffamgcfaaGreatDoor
open Go.ChangeShapes Go.WideShapes Go.ChangeAt Go.RowKit Go.Sort
structure MhC (w W : World) (C D : Nat) (y : Sy) (a9 : Option Addr) (c9 : Nat) : Prop where
 rc : Row W C 87 (syC y (.slice a9 y.p.m c9))
 rd : Row W D 37 #[.int .i64 0, .int .i64 0, .slice none 0 0]
 b : Below w.heap.size w W
theorem MhC.below {w W W' : World} {C D : Nat} {y : Sy} {a9 : Option Addr} {c9 : Nat} (h : MhC w W C D y a9 c9) (hb : Below W.heap.size W W') : MhC w W' C D y a9 c9 := ⟨h.rc.below hb h.rc.lt, h.rd.below hb h.rd.lt, below2 h.b hb⟩
theorem wpList_slot {ops : Array Oper} {rest : List Oper} {o : Oper} {a : Act} {Q : Exit → Act → World → Prop} (w7 : World) (hgd : o.guard = none) (s x : Operand)
  (ho : o.op = .call { callee := .builtin .append, args := #[s, x], argTypes := #[35, 35] })
  (id f : Int) (B Nb g n cap : Nat) (S : Nat → Sl) (r : ByteArray) (F1 : Nat → Prop)
  (hs : a.eval s = .slice (some ⟨g, 0, none⟩) n cap) (hx : a.eval x = .slice (some ⟨w7.heap.size, 0, none⟩) 1 1)
  (h7 : Nw (w7.alloc (.cells (slRC r) 65)) B Nb id f g n cap S F1) (hm : n ≤ 2000000)
  (h : ∀ g8 c8 w8 F8, Row w8 Nb 37 #[.int .i64 id, .int .i64 f, .slice (some ⟨g, 0, none⟩) n cap] ∧ Nw (w8.setCell ⟨Nb, 2, none⟩ (.slice (some ⟨g8, 0, none⟩) (n + 1) c8)) B Nb id f g8 (n + 1) c8 (slF S r n) F8 ∧ Below B (w7.alloc (.cells (slRC r) 65)) w8 ∧ (∀ x, x < w7.heap.size + 1 → ¬ F1 x → w8.heap[x]? = (w7.alloc (.cells (slRC r) 65)).heap[x]?) ∧ (∀ x, F8 x → F1 x ∨ w7.heap.size < x) → wpList Tryz.prog ops Q rest (a.put o.dst (.slice (some ⟨g8, 0, none⟩) (n + 1) c8)) w8) :
  wpList Tryz.prog ops Q (o :: rest) a (w7.alloc (.cells (slRC r) 65)) := by
 obtain ⟨i0, hi, hz0, hz1, hz2⟩ := info_parts Tryz.infoSlZ
 refine wpList_snoc _ hgd s x 35 ho B 65 i0 (.agg zcS.toArray) 13 _ Tryz.underlying35 hi hz0 hz1 hz2 rfl (by decide) (.slice (some ⟨g, 0, none⟩) n cap) n _ F1 hs h7.o ⟨w7.heap.size, 0, none⟩ 1 (slRC r).toList hx rfl (World.news_of_block (t := 65) (fr := (0, 0)) (Row.new w7 _ _)) (by simp [Value.oneCell']) (slD (slR r)) (fun _ _ => False) (fun q hq => ow_slR q hq) (fun _ _ _ h => h.elim) (fun _ _ _ _ _ h => h.elim) (by unfold maxLen; omega) (by omega) h7.b.2 fun g8 c8 w8 O8 b8 T8 => ?_
 have e : (w7.alloc (.cells (slRC r) 65)).heap.size = w7.heap.size + 1 := by simp
 have O9 : Ow w8 B (slsD (n + 1) (slF S r n)) (.slice (some ⟨g8, 0, none⟩) (n + 1) c8) (fun x => x < w8.heap.size ∧ (F1 x ∨ w7.heap.size < x)) := (O8.mono (fun x hx => ⟨hx.1, by
  rcases hx.2 with (h | ⟨_, _, h⟩) | h
  ·exact .inl h
  ·exact h.elim
  ·rw [e] at h
   exact .inr h⟩)).congr (fun i q hi _ => slot_more i q hi)
 have hr : Row w8 Nb 37 #[.int .i64 id, .int .i64 f, .slice (some ⟨g, 0, none⟩) n cap] := (T8 Nb h7.r.lt h7.h1).trans h7.r
 have h8 : ¬ (Nb < w8.heap.size ∧ (F1 Nb ∨ w7.heap.size < Nb)) := fun k => by
  rcases k.2 with k | k
  ·exact h7.h1 k
  ·have := h7.r.lt; omega
 exact h g8 c8 w8 _ ⟨hr, ⟨hr.set 2 _, O9.far 2 _ h8, h8, ⟨h7.b.1, by simpa using Nat.le_trans h7.b.2 b8.size⟩, fun x k => ⟨by rcases k.2 with k | k; exact (h7.l1 x k).1; have := h7.b.2; omega, by simpa using k.1⟩⟩, b8, fun x hx hF => T8 x (by rw [e]; exact hx) hF, fun x hx => hx.2⟩
theorem below_setCell {B : Nat} {w W : World} (h : Below B w W) {g : Nat} (hg : B ≤ g) (i : Nat) (v : Value) : Below B w (W.setCell ⟨g, i, none⟩ v) := h.setCell hg v
theorem slot_own {W : World} {B g n cap : Nat} {S : Nat → Sl} {F : Nat → Prop} (h : Ow W B (slsD n S) (.slice (some ⟨g, 0, none⟩) n cap) F) {p : Nat} (hp : p < n) :
  ∃ a6 a11 a12 c6 c11 c12 G6 G11 G12, W.rangeAt g (p * 13) (slL (S p) (.slice a6 (S p).p.m c6) (.slice a11 (S p).ze.length c11) (.slice a12 (S p).zr.length c12)) ∧ Ow W B (txD (S p).p.m (S p).p.S) (.slice a6 (S p).p.m c6) G6 ∧ Ow W B (inD (S p).ze) (.slice a11 (S p).ze.length c11) G11 ∧ Ow W B (inD (S p).zr) (.slice a12 (S p).zr.length c12) G12 ∧ (∀ x, G6 x ∨ G11 x ∨ G12 x → F x ∧ x ≠ g) ∧ (∀ b, a11 = some b → G11 b.block) ∧ (∀ b, a12 = some b → G12 b.block) := by
 obtain ⟨a, cap', c, G, e, ho, hs, hr⟩ := h
 cases e
 have hcell : ∀ q, q < 13 → W.cell? ⟨g, p * 13 + q, none⟩ = some (c p q) := fun q hq => by rw [World.ownsRow.cellAt ho _ (mid_lt hp hq)]; exact cL_get _ _ _ _ _ hp hq
 have k : ∀ q, q < 13 → Ow W B (slD (S p) q) (c p q) (G p q) := fun q hq => hr p q hp hq
 have k6 : Ow W B (txD (S p).p.m (S p).p.S) (c p 6) (G p 6) := k 6 (by omega)
 have k11 : Ow W B (inD (S p).ze) (c p 11) (G p 11) := k 11 (by omega)
 have k12 : Ow W B (inD (S p).zr) (c p 12) (G p 12) := k 12 (by omega)
 obtain ⟨a6, c6, e6⟩ : ∃ a6 c6, c p 6 = .slice a6 (S p).p.m c6 := by obtain ⟨a, c, _, _, e, _⟩ := k6; exact ⟨a, c, e⟩
 obtain ⟨a11, c11, e11, d11⟩ : ∃ a11 c11, c p 11 = .slice a11 (S p).ze.length c11 ∧ ∀ b, a11 = some b → G p 11 b.block := by obtain ⟨a, c, _, _, e, _, hs, _⟩ := k11; exact ⟨a, c, e, hs.head⟩
 obtain ⟨a12, c12, e12, d12⟩ : ∃ a12 c12, c p 12 = .slice a12 (S p).zr.length c12 ∧ ∀ b, a12 = some b → G p 12 b.block := by obtain ⟨a, c, _, _, e, _, hs, _⟩ := k12; exact ⟨a, c, e, hs.head⟩
 rw [e6] at k6
 rw [e11] at k11
 rw [e12] at k12
 refine ⟨a6, a11, a12, c6, c11, c12, G p 6, G p 11, G p 12, ?_, k6, k11, k12, ?_, d11, d12⟩
 ·have R := range13 hcell
  rw [e6, e11, e12, show c p 0 = _ from k 0 (by omega), show c p 1 = _ from k 1 (by omega), show c p 2 = _ from k 2 (by omega), show c p 3 = _ from k 3 (by omega), show c p 4 = _ from k 4 (by omega), show c p 5 = _ from k 5 (by omega), show c p 7 = _ from k 7 (by omega), show c p 8 = _ from k 8 (by omega), show c p 9 = _ from k 9 (by omega), show c p 10 = _ from k 10 (by omega)] at R
  exact R
 ·intro x hx
  rcases hx with hx | hx | hx
  ·exact ⟨hs.sub p 6 x hp (by omega) hx, fun e => hs.apart p 6 _ hp (by omega) rfl (e ▸ hx)⟩
  ·exact ⟨hs.sub p 11 x hp (by omega) hx, fun e => hs.apart p 11 _ hp (by omega) rfl (e ▸ hx)⟩
  ·exact ⟨hs.sub p 12 x hp (by omega) hx, fun e => hs.apart p 12 _ hp (by omega) rfl (e ▸ hx)⟩
def mhE (B g X A D b : Nat) : Prop := b = g ∨ b = X ∨ b = A ∨ (b = D ∨ b < B)
def mhG (B g X A D gs b : Nat) : Prop := mhE B g X A D b ∨ b = gs
def Lo (w W : World) (A D X g gs : Nat) (F1 : Nat → Prop) (o : Nat) (d0 d : Dt) (v : Value) (H : Nat → Prop) : Prop :=
 (d = d0 ∧ W.cell? ⟨g, o, none⟩ = some v ∧ ∀ b, ¬ H b) ∨ (Ow W w.heap.size d v H ∧ ∀ b, H b → ¬ F1 b ∧ ¬ mhG w.heap.size g X A D gs b)
theorem Lo.kept {w W W' : World} {A D X g gs : Nat} {F1 : Nat → Prop} {o : Nat} {d0 d : Dt} {v : Value} {H : Nat → Prop} (h : Lo w W A D X g gs F1 o d0 d v H) (hX : g ≠ X) (hs : g ≠ gs) (hW : ∀ b, b < W.heap.size → b ≠ X → b ≠ gs → W'.heap[b]? = W.heap[b]?) : Lo w W' A D X g gs F1 o d0 d v H := by
 rcases h with ⟨e, hc, hn⟩ | ⟨ho, hn⟩
 ·exact .inl ⟨e, by rw [cell_same (hW g (block_lt_of_cell hc) hX hs)]; exact hc, hn⟩
 ·exact .inr ⟨ho.frame fun b hb hl => hW b hl (fun e => (hn b hb).2 (.inl (.inr (.inl e)))) (fun e => (hn b hb).2 (.inr e)), hn⟩
structure MhO (p : Nat) (w W : World) (A D X g gs : Nat) (F1 : Nat → Prop) (S : Nat → Sl) (x : Sl) (v6 v11 v12 : Value) : Prop where
 ex : ∃ H6 H11 H12 : Nat → Prop, Lo w W A D X g gs F1 (p * 13 + 6) (txD (S p).p.m (S p).p.S) (txD x.p.m x.p.S) v6 H6 ∧ Lo w W A D X g gs F1 (p * 13 + 11) (inD (S p).ze) (inD x.ze) v11 H11 ∧ Lo w W A D X g gs F1 (p * 13 + 12) (inD (S p).zr) (inD x.zr) v12 H12 ∧ (∀ b, H6 b → ¬ H11 b) ∧ (∀ b, H6 b → ¬ H12 b) ∧ (∀ b, H11 b → ¬ H12 b)
theorem MhO.kept {p : Nat} {w W W' : World} {A D X g gs : Nat} {F1 : Nat → Prop} {S : Nat → Sl} {x : Sl} {v6 v11 v12 : Value} (h : MhO p w W A D X g gs F1 S x v6 v11 v12) (hX : g ≠ X) (hs : g ≠ gs) (hW : ∀ b, b < W.heap.size → b ≠ X → b ≠ gs → W'.heap[b]? = W.heap[b]?) : MhO p w W' A D X g gs F1 S x v6 v11 v12 := by
 obtain ⟨H6, H11, H12, h6, h11, h12, e1, e2, e3⟩ := h.ex
 exact ⟨H6, H11, H12, h6.kept hX hs hW, h11.kept hX hs hW, h12.kept hX hs hW, e1, e2, e3⟩
theorem MhO.as {p : Nat} {w W : World} {A D X g gs : Nat} {F1 : Nat → Prop} {S : Nat → Sl} {x x' : Sl} {v6 v11 v12 : Value} (h : MhO p w W A D X g gs F1 S x v6 v11 v12) (e6 : x'.p = x.p) (e11 : x'.ze = x.ze) (e12 : x'.zr = x.zr) : MhO p w W A D X g gs F1 S x' v6 v11 v12 := ⟨by rw [e6, e11, e12]; exact h.ex⟩
structure MhX (p : Nat) (w W : World) (A C D X : Nat) (id f : Int) (g n c : Nat) (S : Nat → Sl) (F1 : Nat → Prop) (y : Sy) (a9 : Option Addr) (c9 : Nat) (x : Sl) (a6 a11 a12 : Option Addr) (c6 c11 c12 : Nat) (G6 G11 G12 : Nat → Prop) (gs : Nat) : Prop where
 nw : Nw W w.heap.size A id f g n c S F1
 k : MhC w W C D y a9 c9
 rx : Row W X 65 (slC x (.slice a6 x.p.m c6) (.slice a11 x.ze.length c11) (.slice a12 x.zr.length c12))
 t : Ow W w.heap.size (txD x.p.m x.p.S) (.slice a6 x.p.m c6) G6
 e : Ow W w.heap.size (inD x.ze) (.slice a11 x.ze.length c11) G11
 z : Ow W w.heap.size (inD x.zr) (.slice a12 x.zr.length c12) G12
 d : ∀ b, G6 b ∨ G11 b ∨ G12 b → ¬ mhG w.heap.size g X A D gs b
 fs : ¬ F1 gs
 de : ∀ b, a11 = some b → G11 b.block
 dz : ∀ b, a12 = some b → G12 b.block
 l : w.heap.size ≤ X ∧ X ≠ A ∧ X ≠ C ∧ X ≠ D ∧ ¬ F1 X ∧ X ≠ g
 s : Row W gs 87 #[]
 sx : gs ≠ X
 og : W.cell? ⟨g, p * 13 + 6, none⟩ = some (.slice a6 x.p.m c6) ∧ W.cell? ⟨g, p * 13 + 11, none⟩ = some (.slice a11 x.ze.length c11) ∧ W.cell? ⟨g, p * 13 + 12, none⟩ = some (.slice a12 x.zr.length c12) ∧ x = S p
theorem MhX.below {p : Nat} {w W W' : World} {A C D X : Nat} {id f : Int} {g n c : Nat} {S : Nat → Sl} {F1 : Nat → Prop} {y : Sy} {a9 : Option Addr} {c9 : Nat} {x : Sl} {a6 a11 a12 : Option Addr} {c6 c11 c12 : Nat} {G6 G11 G12 : Nat → Prop} {gs : Nat} (h : MhX p w W A C D X id f g n c S F1 y a9 c9 x a6 a11 a12 c6 c11 c12 G6 G11 G12 gs) (hb : Below W.heap.size W W') : MhX p w W' A C D X id f g n c S F1 y a9 c9 x a6 a11 a12 c6 c11 c12 G6 G11 G12 gs :=
 ⟨h.nw.below hb, h.k.below hb, h.rx.below hb h.rx.lt, h.t.below hb, h.e.below hb, h.z.below hb, h.d, h.fs, h.de, h.dz, h.l, h.s.below hb h.s.lt, h.sx, (hb.cell (p := ⟨g, _, none⟩) (block_lt_of_cell h.og.1)).trans h.og.1, (hb.cell (p := ⟨g, _, none⟩) (block_lt_of_cell h.og.2.1)).trans h.og.2.1, (hb.cell (p := ⟨g, _, none⟩) (block_lt_of_cell h.og.2.2.1)).trans h.og.2.2.1, h.og.2.2.2⟩
theorem MhX.gs' {p : Nat} {w W : World} {A C D X : Nat} {id f : Int} {g n c : Nat} {S : Nat → Sl} {F1 : Nat → Prop} {y : Sy} {a9 : Option Addr} {c9 : Nat} {x : Sl} {a6 a11 a12 : Option Addr} {c6 c11 c12 : Nat} {G6 G11 G12 : Nat → Prop} {gs : Nat} (h : MhX p w W A C D X id f g n c S F1 y a9 c9 x a6 a11 a12 c6 c11 c12 G6 G11 G12 gs) : g ≠ X ∧ g ≠ gs := by
 have hFg : F1 g := by obtain ⟨_, _, _, _, e, _, hs, _⟩ := h.nw.o; cases e; exact hs.head _ rfl
 exact ⟨fun e => h.l.2.2.2.2.2 e.symm, fun e => h.fs (e ▸ hFg)⟩
theorem MhX.old {p : Nat} {w W : World} {A C D X : Nat} {id f : Int} {g n c : Nat} {S : Nat → Sl} {F1 : Nat → Prop} {y : Sy} {a9 : Option Addr} {c9 : Nat} {x : Sl} {a6 a11 a12 : Option Addr} {c6 c11 c12 : Nat} {G6 G11 G12 : Nat → Prop} {gs : Nat} (h : MhX p w W A C D X id f g n c S F1 y a9 c9 x a6 a11 a12 c6 c11 c12 G6 G11 G12 gs) : MhO p w W A D X g gs F1 S x (.slice a6 x.p.m c6) (.slice a11 x.ze.length c11) (.slice a12 x.zr.length c12) :=
 ⟨fun _ => False, fun _ => False, fun _ => False, .inl ⟨by rw [h.og.2.2.2], h.og.1, fun _ k => k⟩, .inl ⟨by rw [h.og.2.2.2], h.og.2.1, fun _ k => k⟩, .inl ⟨by rw [h.og.2.2.2], h.og.2.2.1, fun _ k => k⟩, fun _ k => k.elim, fun _ k => k.elim, fun _ k => k.elim⟩
noncomputable def mhx (b : Bool) (S : Nat → Sl) (p : Nat) (y : Sy) : Sl := if b then slGot S p y.p p else if y.k = 1 then slEc S p (putI (S p).ze y.f) p else if y.k = 2 then slRd S p (putI (S p).zr y.f) p else S p
structure MhY (p : Nat) (w W : World) (A C D X : Nat) (id f : Int) (g n c : Nat) (S : Nat → Sl) (F1 : Nat → Prop) (y : Sy) (a9 : Option Addr) (c9 : Nat) (x : Sl) (m : Nat) (Y : Nat → Sy) (so : Value) (gs : Nat) : Prop where
 nw : Nw W w.heap.size A id f g n c S F1
 k : MhC w W C D y a9 c9
 rx : ∃ a6 a11 a12 c6 c11 c12, Row W X 65 (slC x (.slice a6 x.p.m c6) (.slice a11 x.ze.length c11) (.slice a12 x.zr.length c12)) ∧ Rf W (mhG w.heap.size g X A D gs) (txD x.p.m x.p.S) (.slice a6 x.p.m c6) ∧ Rf W (mhG w.heap.size g X A D gs) (inD x.ze) (.slice a11 x.ze.length c11) ∧ Rf W (mhG w.heap.size g X A D gs) (inD x.zr) (.slice a12 x.zr.length c12) ∧ MhO p w W A D X g gs F1 S x (.slice a6 x.p.m c6) (.slice a11 x.ze.length c11) (.slice a12 x.zr.length c12)
 s : Rf W (mhE w.heap.size g X A D) (sysD m Y) so
 so : m = 0 → so = .slice (some ⟨gs, 0, none⟩) 0 0
 l : w.heap.size ≤ X ∧ X ≠ A ∧ X ≠ C ∧ X ≠ D ∧ ¬ F1 X ∧ X ≠ g
 rg : m = 0 → Row W gs 87 #[]
 sx : gs ≠ X
 fs : ¬ F1 gs
theorem MhX.y {p : Nat} {w W : World} {A C D X : Nat} {id f : Int} {g n c : Nat} {S : Nat → Sl} {F1 : Nat → Prop} {y : Sy} {a9 : Option Addr} {c9 : Nat} {x : Sl} {a6 a11 a12 : Option Addr} {c6 c11 c12 : Nat} {G6 G11 G12 : Nat → Prop} {gs : Nat} (h : MhX p w W A C D X id f g n c S F1 y a9 c9 x a6 a11 a12 c6 c11 c12 G6 G11 G12 gs) (Y : Nat → Sy) : MhY p w W A C D X id f g n c S F1 y a9 c9 x 0 Y (.slice (some ⟨gs, 0, none⟩) 0 0) gs :=
 ⟨h.nw, h.k, ⟨a6, a11, a12, c6, c11, c12, h.rx, Rf.of_ow h.t (fun b k => h.d b (.inl k)), Rf.of_ow h.e (fun b k => h.d b (.inr (.inl k))), Rf.of_ow h.z (fun b k => h.d b (.inr (.inr k))), h.old⟩, fun W' _ _ => rd_none W' gs Y, fun _ => rfl, h.l, fun _ => h.s, h.sx, h.fs⟩
theorem own_blk {W : World} {B n c : Nat} {a' : Option Addr} {vs : List Value} (h : W.ownsRow B 3 1 (.slice a' n c) n vs) (b : Addr) (e : a' = some b) : B ≤ b.block := (World.ownsRow.lt h b.block (by rw [e]; rfl)).1
theorem MhX.echo {p : Nat} {w W W' : World} {A C D X : Nat} {id f : Int} {g n c : Nat} {S : Nat → Sl} {F1 : Nat → Prop} {y : Sy} {a9 : Option Addr} {c9 : Nat} {x : Sl} {a6 a11 a12 : Option Addr} {c6 c11 c12 : Nat} {G6 G11 G12 : Nat → Prop} {gs : Nat} (h : MhX p w W A C D X id f g n c S F1 y a9 c9 x a6 a11 a12 c6 c11 c12 G6 G11 G12 gs) (Y : Nat → Sy) (a' : Option Addr) (c' : Nat) (zs : List Int) (hb : Below W.heap.size W W') (hp : PutR W W' a11 c11 x.ze a' c' zs.length zs) : MhY p w (W'.setCell ⟨X, 11, none⟩ (.slice a' zs.length c')) A C D X id f g n c S F1 y a9 c9 { x with ze := zs } 0 Y (.slice (some ⟨gs, 0, none⟩) 0 0) gs := by
 have k := h.below hb
 have eX : mhG w.heap.size g X A D gs X := .inl (.inr (.inl rfl))
 have hl := h.l
 have hlt := h.rx.lt
 have hE : ∀ b, a' = some b → ¬ mhG w.heap.size g X A D gs b.block := fun b e => by
  rcases hp.2.1 with e1 | e1
  ·exact h.d _ (.inr (.inl (h.de b (e1 ▸ e))))
  ·have h1 := e1 b e
   have h2 := h.nw.r.lt
   have h3 := h.k.rd.lt
   have h4 : g < W.heap.size := by
    obtain ⟨_, _, _, _, e, ho, _, _⟩ := h.nw.o
    cases e
    rcases own_shape ho with ⟨e1, _⟩ | ⟨g1, _, e1, _, hg, _⟩
    ·cases e1
    ·cases e1
     exact (Array.getElem?_eq_some_iff.1 hg).1
   have h5 := h.s.lt
   have h6 := h.k.b.size
   intro k
   rcases k with (k | k | k | k) | k <;> omega
 refine ⟨⟨k.nw.r.other 11 _ (fun e => hl.2.1 e.symm), k.nw.o.far 11 _ hl.2.2.2.2.1, k.nw.h1, ⟨k.nw.b.1, by simpa using k.nw.b.2⟩, fun b hF => ⟨(k.nw.l1 b hF).1, by simpa using (k.nw.l1 b hF).2⟩⟩, ⟨k.k.rc.other 11 _ (fun e => hl.2.2.1 e.symm), k.k.rd.other 11 _ (fun e => hl.2.2.2.1 e.symm), below_setCell k.k.b hl.1 11 _⟩, ?_, fun W' _ _ => rd_none W' gs Y, fun _ => rfl, hl, fun _ => k.s.other 11 _ k.sx, k.sx, k.fs⟩
 have hO : MhO p w W' A D X g gs F1 S { x with ze := zs } (.slice a6 x.p.m c6) (.slice a' zs.length c') (.slice a12 x.zr.length c12) := by
  rcases hp.2.2 with e1 | e1
  ·exact ⟨fun _ => False, fun _ => False, fun _ => False, .inl ⟨by rw [k.og.2.2.2], k.og.1, fun _ q => q⟩, .inl ⟨by rw [e1.2.2, k.og.2.2.2], by rw [e1.1, e1.2.1, e1.2.2]; exact k.og.2.1, fun _ q => q⟩, .inl ⟨by rw [k.og.2.2.2], k.og.2.2.1, fun _ q => q⟩, (fun _ q => q.elim), (fun _ q => q.elim), fun _ q => q.elim⟩
  ·exact ⟨fun _ => False, (fun b => ∃ b9, a' = some b9 ∧ b = b9.block), fun _ => False, .inl ⟨by rw [k.og.2.2.2], k.og.1, fun _ q => q⟩, .inr ⟨(ow_ints e1 (fun b e => ⟨b, e, rfl⟩)).base h.k.b.size, fun b ⟨b9, e9, h9⟩ => ⟨fun hF => by have h1 := (h.nw.l1 b hF).2; have h2 := (own_blk e1 b9 e9); omega, h9 ▸ hE b9 e9⟩⟩, .inl ⟨by rw [k.og.2.2.2], k.og.2.2.1, fun _ q => q⟩, (fun _ q => q.elim), (fun _ q => q.elim), fun _ _ q => q⟩
 have hO2 := hO.kept (W' := W'.setCell ⟨X, 11, none⟩ (.slice a' zs.length c')) h.gs'.1 h.gs'.2 (fun b _ hb _ => heap_setCell_other W' ⟨X, 11, none⟩ b _ (fun e => hb e))
 exact ⟨a6, a', a12, c6, c', c12, k.rx.set 11 _, (Rf.of_ow k.t (fun b q => k.d b (.inl q))).setCell eX 11 _, (Rf.ints hp.1 hE).setCell eX 11 _, (Rf.of_ow k.z (fun b q => k.d b (.inr (.inr q)))).setCell eX 11 _, hO2⟩
theorem MhX.ready {p : Nat} {w W W' : World} {A C D X : Nat} {id f : Int} {g n c : Nat} {S : Nat → Sl} {F1 : Nat → Prop} {y : Sy} {a9 : Option Addr} {c9 : Nat} {x : Sl} {a6 a11 a12 : Option Addr} {c6 c11 c12 : Nat} {G6 G11 G12 : Nat → Prop} {gs : Nat} (h : MhX p w W A C D X id f g n c S F1 y a9 c9 x a6 a11 a12 c6 c11 c12 G6 G11 G12 gs) (Y : Nat → Sy) (a' : Option Addr) (c' : Nat) (zs : List Int) (hb : Below W.heap.size W W') (hp : PutR W W' a12 c12 x.zr a' c' zs.length zs) : MhY p w (W'.setCell ⟨X, 12, none⟩ (.slice a' zs.length c')) A C D X id f g n c S F1 y a9 c9 { x with zr := zs } 0 Y (.slice (some ⟨gs, 0, none⟩) 0 0) gs := by
 have k := h.below hb
 have eX : mhG w.heap.size g X A D gs X := .inl (.inr (.inl rfl))
 have hl := h.l
 have hlt := h.rx.lt
 have hE : ∀ b, a' = some b → ¬ mhG w.heap.size g X A D gs b.block := fun b e => by
  rcases hp.2.1 with e1 | e1
  ·exact h.d _ (.inr (.inr (h.dz b (e1 ▸ e))))
  ·have h1 := e1 b e
   have h2 := h.nw.r.lt
   have h3 := h.k.rd.lt
   have h4 : g < W.heap.size := by
    obtain ⟨_, _, _, _, e, ho, _, _⟩ := h.nw.o
    cases e
    rcases own_shape ho with ⟨e1, _⟩ | ⟨g1, _, e1, _, hg, _⟩
    ·cases e1
    ·cases e1
     exact (Array.getElem?_eq_some_iff.1 hg).1
   have h5 := h.s.lt
   have h6 := h.k.b.size
   intro k
   rcases k with (k | k | k | k) | k <;> omega
 refine ⟨⟨k.nw.r.other 12 _ (fun e => hl.2.1 e.symm), k.nw.o.far 12 _ hl.2.2.2.2.1, k.nw.h1, ⟨k.nw.b.1, by simpa using k.nw.b.2⟩, fun b hF => ⟨(k.nw.l1 b hF).1, by simpa using (k.nw.l1 b hF).2⟩⟩, ⟨k.k.rc.other 12 _ (fun e => hl.2.2.1 e.symm), k.k.rd.other 12 _ (fun e => hl.2.2.2.1 e.symm), below_setCell k.k.b hl.1 12 _⟩, ?_, fun W' _ _ => rd_none W' gs Y, fun _ => rfl, hl, fun _ => k.s.other 12 _ k.sx, k.sx, k.fs⟩
 have hO : MhO p w W' A D X g gs F1 S { x with zr := zs } (.slice a6 x.p.m c6) (.slice a11 x.ze.length c11) (.slice a' zs.length c') := by
  rcases hp.2.2 with e1 | e1
  ·exact ⟨fun _ => False, fun _ => False, fun _ => False, .inl ⟨by rw [k.og.2.2.2], k.og.1, fun _ q => q⟩, .inl ⟨by rw [k.og.2.2.2], k.og.2.1, fun _ q => q⟩, .inl ⟨by rw [e1.2.2, k.og.2.2.2], by rw [e1.1, e1.2.1, e1.2.2]; exact k.og.2.2.1, fun _ q => q⟩, (fun _ q => q.elim), (fun _ q => q.elim), fun _ q => q.elim⟩
  ·exact ⟨fun _ => False, fun _ => False, (fun b => ∃ b9, a' = some b9 ∧ b = b9.block), .inl ⟨by rw [k.og.2.2.2], k.og.1, fun _ q => q⟩, .inl ⟨by rw [k.og.2.2.2], k.og.2.1, fun _ q => q⟩, .inr ⟨(ow_ints e1 (fun b e => ⟨b, e, rfl⟩)).base h.k.b.size, fun b ⟨b9, e9, h9⟩ => ⟨fun hF => by have h1 := (h.nw.l1 b hF).2; have h2 := (own_blk e1 b9 e9); omega, h9 ▸ hE b9 e9⟩⟩, (fun _ q => q.elim), (fun _ q => q.elim), fun _ q => q.elim⟩
 have hO2 := hO.kept (W' := W'.setCell ⟨X, 12, none⟩ (.slice a' zs.length c')) h.gs'.1 h.gs'.2 (fun b _ hb _ => heap_setCell_other W' ⟨X, 12, none⟩ b _ (fun e => hb e))
 exact ⟨a6, a11, a', c6, c11, c', k.rx.set 12 _, (Rf.of_ow k.t (fun b q => k.d b (.inl q))).setCell eX 12 _, (Rf.of_ow k.e (fun b q => k.d b (.inr (.inl q)))).setCell eX 12 _, (Rf.ints hp.1 hE).setCell eX 12 _, hO2⟩
theorem MhY.gs' {p : Nat} {w W : World} {A C D X : Nat} {id f : Int} {g n c : Nat} {S : Nat → Sl} {F1 : Nat → Prop} {y : Sy} {a9 : Option Addr} {c9 : Nat} {x : Sl} {m : Nat} {Y : Nat → Sy} {so : Value} {gs : Nat} (h : MhY p w W A C D X id f g n c S F1 y a9 c9 x m Y so gs) : g ≠ X ∧ g ≠ gs := by
 have hFg : F1 g := by obtain ⟨_, _, _, _, e, _, hs, _⟩ := h.nw.o; cases e; exact hs.head _ rfl
 exact ⟨fun e => h.l.2.2.2.2.2 e.symm, fun e => h.fs (e ▸ hFg)⟩
theorem MhY.below {p : Nat} {w W W' : World} {A C D X : Nat} {id f : Int} {g n c : Nat} {S : Nat → Sl} {F1 : Nat → Prop} {y : Sy} {a9 : Option Addr} {c9 : Nat} {x : Sl} {m : Nat} {Y : Nat → Sy} {so : Value} {gs : Nat} (h : MhY p w W A C D X id f g n c S F1 y a9 c9 x m Y so gs) (hb : Below W.heap.size W W') : MhY p w W' A C D X id f g n c S F1 y a9 c9 x m Y so gs := by
 obtain ⟨a6, a11, a12, c6, c11, c12, r, h6, h11, h12, hO⟩ := h.rx
 exact ⟨h.nw.below hb, h.k.below hb, ⟨a6, a11, a12, c6, c11, c12, r.below hb r.lt, h6.below hb, h11.below hb, h12.below hb, hO.kept h.gs'.1 h.gs'.2 (fun b hl _ _ => hb.block b hl)⟩, h.s.below hb, h.so, h.l, fun e => (h.rg e).below hb (h.rg e).lt, h.sx, h.fs⟩
theorem MhY.cell {p : Nat} {w W : World} {A C D X : Nat} {id f : Int} {g n c : Nat} {S : Nat → Sl} {F1 : Nat → Prop} {y : Sy} {a9 : Option Addr} {c9 : Nat} {x x' : Sl} {m : Nat} {Y : Nat → Sy} {so : Value} {gs : Nat} (h : MhY p w W A C D X id f g n c S F1 y a9 c9 x m Y so gs) (i : Nat) (v : Value)
  (hx : ∃ a6 a11 a12 c6 c11 c12, Row (W.setCell ⟨X, i, none⟩ v) X 65 (slC x' (.slice a6 x'.p.m c6) (.slice a11 x'.ze.length c11) (.slice a12 x'.zr.length c12)) ∧ Rf (W.setCell ⟨X, i, none⟩ v) (mhG w.heap.size g X A D gs) (txD x'.p.m x'.p.S) (.slice a6 x'.p.m c6) ∧ Rf (W.setCell ⟨X, i, none⟩ v) (mhG w.heap.size g X A D gs) (inD x'.ze) (.slice a11 x'.ze.length c11) ∧ Rf (W.setCell ⟨X, i, none⟩ v) (mhG w.heap.size g X A D gs) (inD x'.zr) (.slice a12 x'.zr.length c12) ∧ MhO p w (W.setCell ⟨X, i, none⟩ v) A D X g gs F1 S x' (.slice a6 x'.p.m c6) (.slice a11 x'.ze.length c11) (.slice a12 x'.zr.length c12)) : MhY p w (W.setCell ⟨X, i, none⟩ v) A C D X id f g n c S F1 y a9 c9 x' m Y so gs := by
 have hl := h.l
 have eY : mhE w.heap.size g X A D X := .inr (.inl rfl)
 exact ⟨⟨h.nw.r.other i _ (fun e => hl.2.1 e.symm), h.nw.o.far i _ hl.2.2.2.2.1, h.nw.h1, ⟨h.nw.b.1, by simpa using h.nw.b.2⟩, fun b hF => ⟨(h.nw.l1 b hF).1, by simpa using (h.nw.l1 b hF).2⟩⟩, ⟨h.k.rc.other i _ (fun e => hl.2.2.1 e.symm), h.k.rd.other i _ (fun e => hl.2.2.2.1 e.symm), below_setCell h.k.b hl.1 i _⟩, hx, h.s.setCell eY i _, h.so, hl, fun e => (h.rg e).other i _ h.sx, h.sx, h.fs⟩
theorem MhY.readied {p : Nat} {w W : World} {A C D X : Nat} {id f : Int} {g n c : Nat} {S : Nat → Sl} {F1 : Nat → Prop} {y : Sy} {a9 : Option Addr} {c9 : Nat} {x : Sl} {m : Nat} {Y : Nat → Sy} {so : Value} {gs : Nat} (h : MhY p w W A C D X id f g n c S F1 y a9 c9 x m Y so gs) : MhY p w (W.setCell ⟨X, 9, none⟩ (.bool true)) A C D X id f g n c S F1 y a9 c9 { x with d := true } m Y so gs := by
 obtain ⟨a6, a11, a12, c6, c11, c12, r, h6, h11, h12, hO⟩ := h.rx
 have eX : mhG w.heap.size g X A D gs X := .inl (.inr (.inl rfl))
 exact h.cell 9 _ ⟨a6, a11, a12, c6, c11, c12, r.set 9 _, h6.setCell eX 9 _, h11.setCell eX 9 _, h12.setCell eX 9 _, (hO.kept h.gs'.1 h.gs'.2 (fun b _ hb _ => heap_setCell_other W ⟨X, 9, none⟩ b _ (fun e => hb e))).as rfl rfl rfl⟩
theorem MhY.done {p : Nat} {w W : World} {A C D X : Nat} {id f : Int} {g n c : Nat} {S : Nat → Sl} {F1 : Nat → Prop} {y : Sy} {a9 : Option Addr} {c9 : Nat} {x : Sl} {m : Nat} {Y : Nat → Sy} {so : Value} {gs : Nat} (h : MhY p w W A C D X id f g n c S F1 y a9 c9 x m Y so gs) : MhY p w (W.setCell ⟨X, 10, none⟩ (.bool true)) A C D X id f g n c S F1 y a9 c9 { x with o := true } m Y so gs := by
 obtain ⟨a6, a11, a12, c6, c11, c12, r, h6, h11, h12, hO⟩ := h.rx
 have eX : mhG w.heap.size g X A D gs X := .inl (.inr (.inl rfl))
 exact h.cell 10 _ ⟨a6, a11, a12, c6, c11, c12, r.set 10 _, h6.setCell eX 10 _, h11.setCell eX 10 _, h12.setCell eX 10 _, (hO.kept h.gs'.1 h.gs'.2 (fun b _ hb _ => heap_setCell_other W ⟨X, 10, none⟩ b _ (fun e => hb e))).as rfl rfl rfl⟩
theorem wpList_says {ops : Array Oper} {rest : List Oper} {o : Oper} {a : Act} {Q : Exit → Act → World → Prop} (W : World) (hgd : o.guard = none) (s z : Operand)
  (ho : o.op = .call { callee := .builtin .append, args := #[s, z], argTypes := #[83, 83] })
  {p : Nat} {w : World} {A C D X : Nat} {id f : Int} {g n c : Nat} {S : Nat → Sl} {F1 : Nat → Prop} {y : Sy} {a9 : Option Addr} {c9 : Nat} {x : Sl} {Y : Nat → Sy} {gs : Nat} (h : MhY p w W A C D X id f g n c S F1 y a9 c9 x 0 Y (.slice (some ⟨gs, 0, none⟩) 0 0) gs)
  (k : Int) (r : ByteArray) (n3 g' c' B' : Nat) (F' : Nat → Prop) (hs : a.eval s = .slice (some ⟨gs, 0, none⟩) 0 0) (hz : a.eval z = .slice (some ⟨g', 0, none⟩) n3 c') (hO : Ow W B' (sysD n3 (syA k id r)) (.slice (some ⟨g', 0, none⟩) n3 c') F') (hn : 0 < n3) (hn' : n3 ≤ 10) (hw : w.heap.size ≤ gs)
  (hK : ∀ g9 c9' w', MhY p w w' A C D X id f g n c S F1 y a9 c9 x n3 (syA k id r) (.slice (some ⟨g9, 0, none⟩) n3 c9') gs → wpList Tryz.prog ops Q rest (a.put o.dst (.slice (some ⟨g9, 0, none⟩) n3 c9')) w') :
  wpList Tryz.prog ops Q (o :: rest) a W := by
 obtain ⟨i0, hi, hz0, hz1, hz2⟩ := info_parts Tryz.infoSyZ
 obtain ⟨b0, cp, cc, G, e0, ho0, hs0, hr0⟩ := hO
 cases e0
 have rg := h.rg rfl
 have hown : W.ownsRow gs 87 10 (.slice (some ⟨gs, 0, none⟩) 0 0) 0 [] := ⟨rfl, .inr ⟨gs, 0, #[], rfl, Nat.le_refl _, rg, Nat.le_refl _, by unfold maxLen; omega, rfl, rfl⟩⟩
 have hlen : (cL 10 cc n3).length = n3 * 10 := ho0.1
 refine wpList_append_lies W hgd s z 83 ho gs 87 i0 (.agg zcY.toArray) 10 120 Tryz.underlying83 hi hz0 hz1 hz2 rfl (by decide) _ 0 [] hs hown ⟨g', 0, none⟩ n3 c' (cL 10 cc n3) hz hlen ?_ ?_ hn (by unfold maxLen; omega) (by omega) (Nat.le_of_lt rg.lt) W.heap.size rfl fun g9 cap9 w' h2 h3 h4 h5 => ?_
 ·intro j u hj
  have hlt : j < n3 * 10 := by rw [← hlen]; exact (List.getElem?_eq_some_iff.1 hj).1
  have := World.ownsRow.cellAt ho0 j hlt
  rw [Addr.add_mid, Nat.zero_add, this]
  exact hj
 ·intro u hu
  obtain ⟨j, hj, rfl⟩ := List.mem_iff_getElem.1 hu
  rw [hlen] at hj
  have hi' : j / 10 < n3 := by omega
  have hq' : j % 10 < 10 := by omega
  have e1 := cL_get 10 cc n3 (j / 10) (j % 10) hi' hq'
  have e2 : j / 10 * 10 + j % 10 = j := by omega
  rw [e2, List.getElem?_eq_getElem (by rw [hlen]; exact hj)] at e1
  injection e1 with e1
  rw [e1]
  have hv := hr0 (j / 10) (j % 10) hi' hq'
  generalize hqq : j % 10 = q at hv hq'
  generalize j / 10 = i at hv
  match q, hq' with
  | 0, _ | 1, _ | 2, _ | 3, _ | 4, _ | 5, _ | 6, _ | 7, _ | 8, _ => rw [show cc i _ = _ from hv]; rfl
  | 9, _ => obtain ⟨_, _, _, _, e, _⟩ := hv; rw [e]; rfl
 rw [Nat.zero_add, List.nil_append] at h2
 rw [Nat.zero_add]
 have og : ∀ k, k < W.heap.size → k ≠ gs → w'.heap[k]? = W.heap[k]? := fun k hk hne => h3.block k hk (fun e => hne (by injection e))
 have tne : ∀ {b : Nat} {t : TypeId} {cs : Array Value}, Row W b t cs → t ≠ 87 → b ≠ gs := fun hb ht e => by
  subst e
  have := hb.symm.trans rg
  simp at this
  exact ht this.2
 have hbel : Below w.heap.size W w' := ⟨h3.os, h3.tape, h3.output, h3.size, fun j hj => og j (by have := h.k.b.size; omega) (by omega)⟩
 have nA := tne h.nw.r (by decide)
 have nD := tne h.k.rd (by decide)
 have nC : C ≠ gs := fun e => by
  subst e
  have := h.k.rc.symm.trans rg
  simp at this
 have hFg : F1 g := by obtain ⟨_, _, _, _, e, _, hs, _⟩ := h.nw.o; cases e; exact hs.head _ rfl
 have lg : g < W.heap.size := (h.nw.l1 g hFg).2
 obtain ⟨a6, a11, a12, c6, c11, c12, r, h6, h11, h12, hO⟩ := h.rx
 have nE : ¬ mhE w.heap.size g X A D g9 := fun k => by
  rcases h4 with e | e
  ·have e' : gs = g9 := by injection e
   subst e'
   rcases k with k | k | k | k
   ·exact h.fs (k ▸ hFg)
   ·exact h.sx k
   ·exact nA k.symm
   ·rcases k with k | k
    ·exact nD k.symm
    ·omega
  ·have l1 := h.nw.r.lt
   have l2 := h.k.rd.lt
   have l3 := r.lt
   have l4 := h.k.b.size
   rcases k with k | k | k | k <;> omega
 have ot : ∀ b, ¬ mhG w.heap.size g X A D gs b → b < W.heap.size → w'.heap[b]? = W.heap[b]? := fun b hb hl => og b hl (fun e => hb (.inr e))
 refine hK g9 cap9 w' ⟨⟨(og A h.nw.r.lt nA).trans h.nw.r, h.nw.o.frame (fun b hF hl => og b hl (fun e => h.fs (e ▸ hF))), h.nw.h1, ⟨h.nw.b.1, Nat.le_trans h.nw.b.2 h3.size⟩, fun b hF => ⟨(h.nw.l1 b hF).1, Nat.lt_of_lt_of_le (h.nw.l1 b hF).2 h3.size⟩⟩, ⟨(og C h.k.rc.lt nC).trans h.k.rc, (og D h.k.rd.lt nD).trans h.k.rd, h.k.b.trans hbel⟩, ⟨a6, a11, a12, c6, c11, c12, (og X r.lt h.sx.symm).trans r, h6.turn h3.size ot, h11.turn h3.size ot, h12.turn h3.size ot, hO.kept h.gs'.1 h.gs'.2 (fun b hl _ hs => og b hl hs)⟩, ?_, fun e => by omega, h.l, fun e => by omega, h.sx, h.fs⟩
 intro W' _ t'
 refine ⟨some ⟨g9, 0, none⟩, cap9, rfl, fun i hi => ⟨g9, 0, rfl, fun q hq => ⟨cc i q, ?_, ?_⟩⟩⟩
 ·rw [cell_same (t' g9 nE h5), Nat.zero_add, World.ownsRow.cellAt h2 _ (mid_lt hi hq)]
  exact cL_get _ _ _ _ _ hi hq
 ·have hv := hr0 i q hi hq
  match q, hq with
  | 0, _ | 1, _ | 2, _ | 3, _ | 4, _ | 5, _ | 6, _ | 7, _ | 8, _ => exact hv
  | 9, _ => obtain ⟨a, cap, _, _, e, _⟩ := hv; exact ⟨a, cap, e, fun i hi => absurd hi (Nat.not_lt_zero i)⟩
theorem row_piece {W : World} {X : Nat} {x : Sl} {a6 a11 a12 : Option Addr} {c6 c11 c12 : Nat} (r : Row W X 65 (slC x (.slice a6 x.p.m c6) (.slice a11 x.ze.length c11) (.slice a12 x.zr.length c12))) (P : Pc) (v6 : Option Addr) (c6' : Nat) : Row (W.setCells X 1 [.string P.r, .int .i64 P.k, .int .i64 P.n, .int .i64 P.i, .string P.b, .slice v6 P.m c6']) X 65 (slC { x with p := P } (.slice v6 P.m c6') (.slice a11 x.ze.length c11) (.slice a12 x.zr.length c12)) := by
 simp only [World.setCells]
 have r1 : Row (W.setCell ⟨X, 1, none⟩ (.string P.r)) X 65 (slC { x with p := { x.p with r := P.r } } (.slice a6 x.p.m c6) (.slice a11 x.ze.length c11) (.slice a12 x.zr.length c12)) := r.set 1 _
 have r2 : Row ((W.setCell ⟨X, 1, none⟩ (.string P.r)).setCell ⟨X, 2, none⟩ (.int .i64 P.k)) X 65 (slC { x with p := { x.p with r := P.r, k := P.k } } (.slice a6 x.p.m c6) (.slice a11 x.ze.length c11) (.slice a12 x.zr.length c12)) := r1.set 2 _
 have r3 : Row (((W.setCell ⟨X, 1, none⟩ (.string P.r)).setCell ⟨X, 2, none⟩ (.int .i64 P.k)).setCell ⟨X, 3, none⟩ (.int .i64 P.n)) X 65 (slC { x with p := { x.p with r := P.r, k := P.k, n := P.n } } (.slice a6 x.p.m c6) (.slice a11 x.ze.length c11) (.slice a12 x.zr.length c12)) := r2.set 3 _
 have r4 : Row ((((W.setCell ⟨X, 1, none⟩ (.string P.r)).setCell ⟨X, 2, none⟩ (.int .i64 P.k)).setCell ⟨X, 3, none⟩ (.int .i64 P.n)).setCell ⟨X, 4, none⟩ (.int .i64 P.i)) X 65 (slC { x with p := { x.p with r := P.r, k := P.k, n := P.n, i := P.i } } (.slice a6 x.p.m c6) (.slice a11 x.ze.length c11) (.slice a12 x.zr.length c12)) := r3.set 4 _
 have r5 : Row (((((W.setCell ⟨X, 1, none⟩ (.string P.r)).setCell ⟨X, 2, none⟩ (.int .i64 P.k)).setCell ⟨X, 3, none⟩ (.int .i64 P.n)).setCell ⟨X, 4, none⟩ (.int .i64 P.i)).setCell ⟨X, 5, none⟩ (.string P.b)) X 65 (slC { x with p := { x.p with r := P.r, k := P.k, n := P.n, i := P.i, b := P.b } } (.slice a6 x.p.m c6) (.slice a11 x.ze.length c11) (.slice a12 x.zr.length c12)) := r4.set 5 _
 have r6 : Row ((((((W.setCell ⟨X, 1, none⟩ (.string P.r)).setCell ⟨X, 2, none⟩ (.int .i64 P.k)).setCell ⟨X, 3, none⟩ (.int .i64 P.n)).setCell ⟨X, 4, none⟩ (.int .i64 P.i)).setCell ⟨X, 5, none⟩ (.string P.b)).setCell ⟨X, 6, none⟩ (.slice v6 P.m c6')) X 65 (slC { x with p := P } (.slice v6 P.m c6') (.slice a11 x.ze.length c11) (.slice a12 x.zr.length c12)) := r5.set 6 _
 exact r6
theorem Row.there {W : World} {g : Nat} {t : TypeId} {cs : Array Value} (h : Row W g t cs) {o n : Nat} (hn : o + n ≤ cs.size) : W.there g o n := fun j hj => ⟨by have := h.cell (o + j); rw [this]; simp; omega, h.free (o + j)⟩
theorem MhY.got {p : Nat} {w W : World} {A C D X : Nat} {id f : Int} {g n c : Nat} {S : Nat → Sl} {F1 : Nat → Prop} {y : Sy} {a9 : Option Addr} {c9 : Nat} {x : Sl} {m : Nat} {Y : Nat → Sy} {so : Value} {gs : Nat} (h : MhY p w W A C D X id f g n c S F1 y a9 c9 x m Y so gs) (P : Pc) (v6 : Option Addr) (c6' : Nat) (hv : Rf W (mhG w.heap.size g X A D gs) (txD P.m P.S) (.slice v6 P.m c6')) (a6 a11 a12 : Option Addr) (c6 c11 c12 : Nat) (r : Row W X 65 (slC x (.slice a6 x.p.m c6) (.slice a11 x.ze.length c11) (.slice a12 x.zr.length c12))) (h11 : Rf W (mhG w.heap.size g X A D gs) (inD x.ze) (.slice a11 x.ze.length c11)) (h12 : Rf W (mhG w.heap.size g X A D gs) (inD x.zr) (.slice a12 x.zr.length c12)) (hO : MhO p w W A D X g gs F1 S { x with p := P } (.slice v6 P.m c6') (.slice a11 x.ze.length c11) (.slice a12 x.zr.length c12)) : MhY p w (((W.setCells X 1 [.string P.r, .int .i64 P.k, .int .i64 P.n, .int .i64 P.i, .string P.b, .slice v6 P.m c6']).setCell ⟨X, 7, none⟩ (.bool true)).setCell ⟨X, 8, none⟩ (.bool true)) A C D X id f g n c S F1 y a9 c9 { x with p := P, h := true, e := true } m Y so gs := by
 have eX : mhG w.heap.size g X A D gs X := .inl (.inr (.inl rfl))
 have eY : mhE w.heap.size g X A D X := .inr (.inl rfl)
 have hl := h.l
 simp only [World.setCells]
 have ne : ∀ i (v : Value) {W : World}, Nw W w.heap.size A id f g n c S F1 → Nw (W.setCell ⟨X, i, none⟩ v) w.heap.size A id f g n c S F1 := fun i v W k => ⟨k.r.other i _ (fun e => hl.2.1 e.symm), k.o.far i _ hl.2.2.2.2.1, k.h1, ⟨k.b.1, by simpa using k.b.2⟩, fun b hF => ⟨(k.l1 b hF).1, by simpa using (k.l1 b hF).2⟩⟩
 have nk : ∀ i (v : Value) {W : World}, MhC w W C D y a9 c9 → MhC w (W.setCell ⟨X, i, none⟩ v) C D y a9 c9 := fun i v W k => ⟨k.rc.other i _ (fun e => hl.2.2.1 e.symm), k.rd.other i _ (fun e => hl.2.2.2.1 e.symm), below_setCell k.b hl.1 i _⟩
 have r1 : Row (W.setCell ⟨X, 1, none⟩ (.string P.r)) X 65 (slC { x with p := { x.p with r := P.r } } (.slice a6 x.p.m c6) (.slice a11 x.ze.length c11) (.slice a12 x.zr.length c12)) := r.set 1 _
 have r2 : Row ((W.setCell ⟨X, 1, none⟩ (.string P.r)).setCell ⟨X, 2, none⟩ (.int .i64 P.k)) X 65 (slC { x with p := { x.p with r := P.r, k := P.k } } (.slice a6 x.p.m c6) (.slice a11 x.ze.length c11) (.slice a12 x.zr.length c12)) := r1.set 2 _
 have r3 : Row (((W.setCell ⟨X, 1, none⟩ (.string P.r)).setCell ⟨X, 2, none⟩ (.int .i64 P.k)).setCell ⟨X, 3, none⟩ (.int .i64 P.n)) X 65 (slC { x with p := { x.p with r := P.r, k := P.k, n := P.n } } (.slice a6 x.p.m c6) (.slice a11 x.ze.length c11) (.slice a12 x.zr.length c12)) := r2.set 3 _
 have r4 : Row ((((W.setCell ⟨X, 1, none⟩ (.string P.r)).setCell ⟨X, 2, none⟩ (.int .i64 P.k)).setCell ⟨X, 3, none⟩ (.int .i64 P.n)).setCell ⟨X, 4, none⟩ (.int .i64 P.i)) X 65 (slC { x with p := { x.p with r := P.r, k := P.k, n := P.n, i := P.i } } (.slice a6 x.p.m c6) (.slice a11 x.ze.length c11) (.slice a12 x.zr.length c12)) := r3.set 4 _
 have r5 : Row (((((W.setCell ⟨X, 1, none⟩ (.string P.r)).setCell ⟨X, 2, none⟩ (.int .i64 P.k)).setCell ⟨X, 3, none⟩ (.int .i64 P.n)).setCell ⟨X, 4, none⟩ (.int .i64 P.i)).setCell ⟨X, 5, none⟩ (.string P.b)) X 65 (slC { x with p := { x.p with r := P.r, k := P.k, n := P.n, i := P.i, b := P.b } } (.slice a6 x.p.m c6) (.slice a11 x.ze.length c11) (.slice a12 x.zr.length c12)) := r4.set 5 _
 have r6 : Row ((((((W.setCell ⟨X, 1, none⟩ (.string P.r)).setCell ⟨X, 2, none⟩ (.int .i64 P.k)).setCell ⟨X, 3, none⟩ (.int .i64 P.n)).setCell ⟨X, 4, none⟩ (.int .i64 P.i)).setCell ⟨X, 5, none⟩ (.string P.b)).setCell ⟨X, 6, none⟩ (.slice v6 P.m c6')) X 65 (slC { x with p := P } (.slice v6 P.m c6') (.slice a11 x.ze.length c11) (.slice a12 x.zr.length c12)) := r5.set 6 _
 have r7 : Row (((((((W.setCell ⟨X, 1, none⟩ (.string P.r)).setCell ⟨X, 2, none⟩ (.int .i64 P.k)).setCell ⟨X, 3, none⟩ (.int .i64 P.n)).setCell ⟨X, 4, none⟩ (.int .i64 P.i)).setCell ⟨X, 5, none⟩ (.string P.b)).setCell ⟨X, 6, none⟩ (.slice v6 P.m c6')).setCell ⟨X, 7, none⟩ (.bool true)) X 65 (slC { x with p := P, h := true } (.slice v6 P.m c6') (.slice a11 x.ze.length c11) (.slice a12 x.zr.length c12)) := r6.set 7 _
 have r8 : Row ((((((((W.setCell ⟨X, 1, none⟩ (.string P.r)).setCell ⟨X, 2, none⟩ (.int .i64 P.k)).setCell ⟨X, 3, none⟩ (.int .i64 P.n)).setCell ⟨X, 4, none⟩ (.int .i64 P.i)).setCell ⟨X, 5, none⟩ (.string P.b)).setCell ⟨X, 6, none⟩ (.slice v6 P.m c6')).setCell ⟨X, 7, none⟩ (.bool true)).setCell ⟨X, 8, none⟩ (.bool true)) X 65 (slC { x with p := P, h := true, e := true } (.slice v6 P.m c6') (.slice a11 x.ze.length c11) (.slice a12 x.zr.length c12)) := r7.set 8 _
 refine ⟨ne 8 _ (ne 7 _ (ne 6 _ (ne 5 _ (ne 4 _ (ne 3 _ (ne 2 _ (ne 1 _ (h.nw)))))))), nk 8 _ (nk 7 _ (nk 6 _ (nk 5 _ (nk 4 _ (nk 3 _ (nk 2 _ (nk 1 _ (h.k)))))))), ⟨v6, a11, a12, c6', c11, c12, r8, ((((((((hv.setCell eX 1 _).setCell eX 2 _).setCell eX 3 _).setCell eX 4 _).setCell eX 5 _).setCell eX 6 _).setCell eX 7 _).setCell eX 8 _), ((((((((h11.setCell eX 1 _).setCell eX 2 _).setCell eX 3 _).setCell eX 4 _).setCell eX 5 _).setCell eX 6 _).setCell eX 7 _).setCell eX 8 _), ((((((((h12.setCell eX 1 _).setCell eX 2 _).setCell eX 3 _).setCell eX 4 _).setCell eX 5 _).setCell eX 6 _).setCell eX 7 _).setCell eX 8 _), ((hO.kept h.gs'.1 h.gs'.2 (fun b _ hb _ => (heap_setCell_other _ ⟨X, 8, none⟩ b _ (fun e => hb e)).trans ((heap_setCell_other _ ⟨X, 7, none⟩ b _ (fun e => hb e)).trans ((heap_setCell_other _ ⟨X, 6, none⟩ b _ (fun e => hb e)).trans ((heap_setCell_other _ ⟨X, 5, none⟩ b _ (fun e => hb e)).trans ((heap_setCell_other _ ⟨X, 4, none⟩ b _ (fun e => hb e)).trans ((heap_setCell_other _ ⟨X, 3, none⟩ b _ (fun e => hb e)).trans ((heap_setCell_other _ ⟨X, 2, none⟩ b _ (fun e => hb e)).trans ((heap_setCell_other _ ⟨X, 1, none⟩ b _ (fun e => hb e))))))))))).as rfl rfl rfl)⟩, ((((((((h.s.setCell eY 1 _).setCell eY 2 _).setCell eY 3 _).setCell eY 4 _).setCell eY 5 _).setCell eY 6 _).setCell eY 7 _).setCell eY 8 _), h.so, hl, fun e => (((((((((h.rg e).other 1 _ h.sx).other 2 _ h.sx).other 3 _ h.sx).other 4 _ h.sx).other 5 _ h.sx).other 6 _ h.sx).other 7 _ h.sx).other 8 _ h.sx), h.sx, h.fs⟩
end Go.Proofs.YtaenoiffamgcfaaGreatDoor
