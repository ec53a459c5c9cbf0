import Derived.Test.YtaenoiffamgcfaaGreatDoorM32
import Derived.Test.YtaenoiffamgcfaaGreatDoorM27
import Derived.Test.YtaenoiffamgcfaaGreatDoorM23
import Derived.Test.YtaenoiffamgcfaaGreatDoorM8
import Derived.Test.YtaenoiffamgcfaaGreatDoorM15
import Derived.Test.YtaenoiffamgcfaaGreatDoorM6
set_option maxHeartbeats 8000000
set_option maxRecDepth 2000
open Go.ChangeShapes Go.WideShapes Go.ChangeAt Go.RowKit
namespace Go.Proofs.YtaenoiffamgcfaaGreatDoor
structure SlG (k : Nat) (s : Sl) : Prop where
 he : s.h = s.e
 r : s.r.size ≤ 4096
 pr : s.p.r.size ≤ 4096
 pb : s.p.b.size ≤ 4096
 m : s.p.m ≤ 64
 t : ∀ j, j < s.p.m → (s.p.S j).size ≤ 4096
 ze : s.ze.length ≤ k
 zr : s.zr.length ≤ k
theorem SlG.up {k : Nat} {s : Sl} (h : SlG k s) : SlG (k + 1) s := ⟨h.he, h.r, h.pr, h.pb, h.m, h.t, Nat.le_succ_of_le h.ze, Nat.le_succ_of_le h.zr⟩
theorem putI_one (zs : List Int) (x : Int) : (putI zs x).length ≤ zs.length + 1 := by
 unfold putI
 split
 ·omega
 ·simp [List.length_append, List.length_take, List.length_drop]
  omega
theorem slR_good {k : Nat} {r : ByteArray} (hr : r.size ≤ 4096) : SlG k (slR r) := ⟨rfl, hr, Nat.zero_le _, Nat.zero_le _, Nat.zero_le _, fun j hj => absurd hj (Nat.not_lt_zero j), Nat.zero_le _, Nat.zero_le _⟩
theorem slF_good {k n : Nat} {S : Nat → Sl} {r : ByteArray} (hS : ∀ i, i < n → SlG k (S i)) (hr : r.size ≤ 4096) {i : Nat} (hi : i ≤ n) : SlG k (slF S r n i) := by
 unfold slF
 split
 ·exact slR_good hr
 ·exact hS i (by omega)
theorem hvA_good {k : Nat} {S : Nat → Sl} {p : Nat} {y : Sy} {i : Nat} (hi : SlG k (S i)) (hp : SlG k (S p)) : SlG (k + 1) (hvA S p y i) := by
 unfold hvA
 split
 ·unfold slEc
  split
  ·exact ⟨hp.he, hp.r, hp.pr, hp.pb, hp.m, hp.t, Nat.le_trans (putI_one _ _) (Nat.succ_le_succ hp.ze), Nat.le_succ_of_le hp.zr⟩
  ·exact hi.up
 ·unfold slRd
  split
  ·exact ⟨hp.he, hp.r, hp.pr, hp.pb, hp.m, hp.t, Nat.le_succ_of_le hp.ze, Nat.le_trans (putI_one _ _) (Nat.succ_le_succ hp.zr)⟩
  ·exact hi.up
theorem hvB_good {k : Nat} {f : Int} {S : Nat → Sl} {p : Nat} {y : Sy} {i : Nat} (hi : SlG k (S i)) (hp : SlG k (S p)) : SlG (k + 1) (hvB f S p y i) := by
 unfold hvB
 split
 ·exact hvA_good hi hp
 ·unfold slDn
  split
  ·have h := hvA_good (y := y) hp hp
   exact ⟨h.he, h.r, h.pr, h.pb, h.m, h.t, h.ze, h.zr⟩
  ·exact hvA_good hi hp
theorem hvS_good {k : Nat} {id f : Int} {S : Nat → Sl} {p : Nat} {y : Sy} (hy : SaS y) {i : Nat} (hi : SlG k (S i)) (hp : SlG k (S p)) : SlG (k + 1) (hvS id f S p y i) := by
 unfold hvS
 split
 ·split
  ·unfold slGot
   split
   ·exact ⟨rfl, hp.r, hy.pr, hy.pb, hy.m, hy.s, Nat.le_succ_of_le hp.ze, Nat.le_succ_of_le hp.zr⟩
   ·exact hi.up
  ·exact hi.up
 ·split
  ·unfold slRy
   split
   ·have h := hvB_good (f := f) (y := y) hp hp
    exact ⟨h.he, h.r, h.pr, h.pb, h.m, h.t, h.ze, h.zr⟩
   ·exact hvB_good hi hp
  ·exact hvB_good hi hp
theorem nh_good {k : Nat} {id f : Int} {n : Nat} {S : Nat → Sl} {y : Sy} (hS : ∀ i, i < n → SlG k (S i)) (hy : SaS y) : nhN id f n S y ≤ n + 1 ∧ ∀ i, i < nhN id f n S y → SlG (k + 1) (nhS id f n S y i) := by
 have hl : hrN S y.r n ≤ n + 1 := by unfold hrN; split <;> omega
 have hp : plN S y.r n ≤ n := by have := plN_lt S y.r n; omega
 unfold nhN nhS
 cases nhB id f n S y with
 | false => exact ⟨by simp, fun i hi => (hS i (by simpa using hi)).up⟩
 | true =>
  simp only [if_true]
  exact ⟨hl, fun i hi => hvS_good hy (slF_good hS hy.r (by omega)) (slF_good hS hy.r hp)⟩
theorem SlG.k {k : Nat} {s : Sl} (h : SlG k s) (hk : k ≤ 1000) : SlK s := ⟨by have := h.r; omega, by have := h.pr; omega, by have := h.pb; omega, by have := h.m; omega, fun i hi => by have := h.t i hi; omega, by have := h.ze; omega, by have := h.zr; omega⟩
theorem nhB_of {k n : Nat} {S : Nat → Sl} {y : Sy} (hk : k ≤ 1000) (hn : n ≤ k) (h : ∀ i, i < n → SlG k (S i)) (hy : SaS y) : NhB n S y := ⟨by omega, fun i hi => (h i hi).k hk, by have := hy.r; omega, by have := hy.m; omega, by have := hy.pr; omega, by have := hy.pb; omega, fun i hi => by have := hy.s i hi; omega⟩
structure NdW (w0 W : World) (g X E : Nat) (a0 : Option Addr) (n cap : Nat) (id f : Int) (m : Nat) (v : Value) (S : Nat → Sl) (k : Nat) (F : Nat → Prop) : Prop where
 b : w0.grownBy W (some g)
 c : Cur W g a0 n cap
 x : Row W X 37 #[.int .i64 id, .int .i64 f, v]
 o : Ow W (g + 1) (slsD m S) v F
 d : ∀ b, F b → E ≤ b
 s : ∀ i, i < m → SlG k (S i)
 l : m ≤ k
 lt : g < X
 le : X < E
theorem ow_kept {W W' : World} {g E : Nat} {d : Dt} {v : Value} {F : Nat → Prop} (h : Ow W (g + 1) d v F) (hd : ∀ b, F b → E ≤ b) (hE : g < E) (hg : W.grownBy W' (some g)) : Ow W' (g + 1) d v F :=
 h.frame (fun b hb hl => hg.block b hl (fun e => by have h1 := hd b hb; injection e with e; omega))
theorem NdW.kept {w0 W W' : World} {g X E : Nat} {a0 : Option Addr} {n cap : Nat} {id f : Int} {m : Nat} {v : Value} {S : Nat → Sl} {k : Nat} {F : Nat → Prop} (h : NdW w0 W g X E a0 n cap id f m v S k F) (hg : W.grownBy W' (some g)) (hc : Cur W' g a0 n cap) : NdW w0 W' g X E a0 n cap id f m v S k F :=
 ⟨grownBy_trans h.b hg, hc, h.x.keptG hg (by have := h.lt; omega), ow_kept h.o h.d (by have := h.lt; have := h.le; omega) hg, h.d, h.s, h.l, h.lt, h.le⟩
def FrB (LB : Nat) (w6 W : World) : Prop := w6.heap.size ≤ W.heap.size ∧ ∀ b, LB ≤ b → b < w6.heap.size → W.heap[b]? = w6.heap[b]?
theorem FrB.kept {LB g : Nat} {w6 W W' : World} (h : FrB LB w6 W) (hg : W.grownBy W' (some g)) (hl : g < LB) : FrB LB w6 W' := ⟨Nat.le_trans h.1 hg.size, fun b h1 h2 => (hg.block b (by have := h.1; omega) (fun e => by injection e with e; omega)).trans (h.2 b h1 h2)⟩
theorem FrB.row {LB X : Nat} {w6 W : World} {cs : Array Value} (h : FrB LB w6 W) (hl : X < LB) : FrB LB w6 (W.setRow X cs) := ⟨by simpa using h.1, fun b h1 h2 => (setRow_other W X b cs (by omega)).trans (h.2 b h1 h2)⟩
theorem FrB.cell {LB X : Nat} {w6 W : World} (o : Nat) (v : Value) (h : FrB LB w6 W) (hl : X < LB ∨ w6.heap.size ≤ X) : FrB LB w6 (W.setCell ⟨X, o, none⟩ v) := ⟨by simpa using h.1, fun b h1 h2 => (heap_setCell_other W ⟨X, o, none⟩ b v (by show b ≠ X; omega)).trans (h.2 b h1 h2)⟩
theorem own_fr {w w' : World} {B : Nat} {t : TypeId} {sz : Nat} {a : Option Addr} {n cap : Nat} {cs : List Value} (h : w.ownsRow B t sz (.slice a n cap) n cs) (hf : ∀ b, B ≤ b → b < w.heap.size → w'.heap[b]? = w.heap[b]?) : w'.ownsRow B t sz (.slice a n cap) n cs := by
 refine ⟨h.1, ?_⟩
 rcases h.2 with h' | ⟨g, cap', cur, h1, h2, h3, h4⟩
 ·exact .inl h'
 ·refine .inr ⟨g, cap', cur, h1, h2, ?_, h4⟩
  cases h1
  exact (hf g (World.ownsRow.lt h g rfl).1 (Array.getElem?_eq_some_iff.1 h3).1).trans h3
theorem OwnP.fr {w w' : World} {B n c : Nat} {a : Option Addr} {A : Nat → Option Addr} {C : Nat → Nat} {P : Nat → Pc} (h : OwnP w B a n c A C P) (hf : ∀ b, B ≤ b → b < w.heap.size → w'.heap[b]? = w.heap[b]?) : OwnP w' B a n c A C P :=
 ⟨own_fr h.1 hf, fun i hi => own_fr (h.2.1 i hi) hf, h.2.2⟩
theorem nd_slice {w : World} {B m : Nat} {S : Nat → Sl} {v : Value} {F : Nat → Prop} (h : Ow w B (slsD m S) v F) : ∃ a c, v = .slice a m c := by
 obtain ⟨a, c, _, _, e, _⟩ := h
 exact ⟨a, c, e⟩
structure NdX (w0 w6 W : World) (g X E LB : Nat) (a0 : Option Addr) (n cap : Nat) (id f : Int) (m : Nat) (a : Option Addr) (vc : Nat) (S : Nat → Sl) (F : Nat → Prop) : Prop where
 b : w0.grownBy W (some g)
 c : Cur W g a0 n cap
 x : Row W X 37 #[.int .i64 id, .int .i64 f, .slice a m vc]
 o : Ow W (g + 1) (slsD m S) (.slice a m vc) F
 d : ∀ b, F b → E ≤ b
 fr : FrB LB w6 W
theorem NdX.kept {w0 w6 W W' : World} {g X E LB : Nat} {a0 : Option Addr} {n cap : Nat} {id f : Int} {m : Nat} {a : Option Addr} {c : Nat} {S : Nat → Sl} {F : Nat → Prop} (h : NdX w0 w6 W g X E LB a0 n cap id f m a c S F) (hg : W.grownBy W' (some g)) (hc : Cur W' g a0 n cap) (h1 : g < X) (h2 : X < E) (h3 : g < LB) : NdX w0 w6 W' g X E LB a0 n cap id f m a c S F :=
 ⟨grownBy_trans h.b hg, hc, h.x.keptG hg (by omega), ow_kept h.o h.d (by omega) hg, h.d, h.fr.kept hg h3⟩
theorem slD_d (s : Sl) (b : Bool) (q : Nat) (hq : q < 13) : (if q = 9 then Dt.val (.bool b) else slD s q) = slD { s with d := b } q := by
 match q, hq with
 | 0, _ | 1, _ | 2, _ | 3, _ | 4, _ | 5, _ | 6, _ | 7, _ | 8, _ | 9, _ | 10, _ | 11, _ | 12, _ => rfl
theorem slD_ze (s : Sl) (zs : List Int) (q : Nat) (hq : q < 13) : (if q = 11 then inD zs else slD s q) = slD { s with ze := zs } q := by
 match q, hq with
 | 0, _ | 1, _ | 2, _ | 3, _ | 4, _ | 5, _ | 6, _ | 7, _ | 8, _ | 9, _ | 10, _ | 11, _ | 12, _ => rfl
theorem slD_at {S : Nat → Sl} {s' : Sl} {d : Dt} {k i q : Nat} (h : (if q = k then d else slD (S 0) q) = slD s' q) : (if i = 0 ∧ q = k then d else slD (S i) q) = slD (if i = 0 then s' else S i) q := by
 by_cases e : i = 0
 ·subst e
  rw [if_pos rfl, ← h]
  by_cases e2 : q = k
  ·rw [if_pos ⟨rfl, e2⟩, if_pos e2]
  ·rw [if_neg (fun k => e2 k.2), if_neg e2]
 ·rw [if_neg (fun k => e k.1), if_neg e]
theorem nd_flip {w0 w6 W : World} {g X E LB : Nat} {a0 : Option Addr} {n cap : Nat} {id f : Int} {m G1 c : Nat} {S : Nat → Sl} {F : Nat → Prop} (h : NdX w0 w6 W g X E LB a0 n cap id f m (some ⟨G1, 0, none⟩) c S F) (hab : Under a0 n g) (_h1 : g < X) (h2 : X < E) (hw : w0.heap.size ≤ X) (hE : E = w6.heap.size) (hm : 0 < m) :
  W.cell? ⟨G1, 9, none⟩ = some (.bool (S 0).d) ∧ W.frozen? ⟨G1, 9, none⟩ = false ∧ ∀ b, ∃ F', NdX w0 w6 (W.setCell ⟨G1, 9, none⟩ (.bool b)) g X E LB a0 n cap id f m (some ⟨G1, 0, none⟩) c (fun i => if i = 0 then { S 0 with d := b } else S i) F' := by
 obtain ⟨y, K, cy, fz, hy, hK, hFg, hB, hl, put⟩ := Ow.focus h.o hm (show 9 < 13 by omega)
 have hEG : E ≤ G1 := h.d _ hFg
 have ey : y = .bool (S 0).d := hy
 rw [ey] at cy
 refine ⟨cy, fz 9, fun b => ⟨fun x => F x ∨ False, ?_⟩⟩
 have O := put W (.val (.bool b)) (.bool b) (fun _ => False) (fun _ _ _ _ => rfl) rfl (fun _ h => h.elim)
 exact ⟨grownCell 9 _ h.b (by omega), h.c.setc 9 _ (by omega) hab, (heap_setCell_other W ⟨G1, 9, none⟩ X _ (by show X ≠ G1; omega)).trans h.x, O.congr (fun i q _ hq => slD_at (slD_d (S 0) b q hq)), fun b hb => by
  rcases hb with hb | hb
  ·exact h.d b hb
  ·exact hb.elim, h.fr.cell 9 _ (.inr (by omega))⟩
theorem nd_echo {w0 w6 W : World} {g X E LB : Nat} {a0 : Option Addr} {n cap : Nat} {id f : Int} {m G1 c : Nat} {S : Nat → Sl} {F : Nat → Prop} (h : NdX w0 w6 W g X E LB a0 n cap id f m (some ⟨G1, 0, none⟩) c S F) (hab : Under a0 n g) (h1 : g < X) (h2 : X < E) (hw : w0.heap.size ≤ X) (hE : E = w6.heap.size) (hm : 0 < m) :
  ∃ e1 ce, W.cell? ⟨G1, 11, none⟩ = some (.slice e1 (S 0).ze.length ce) ∧ W.frozen? ⟨G1, 11, none⟩ = false ∧ W.ownsRow (g + 1) 3 1 (.slice e1 (S 0).ze.length ce) (S 0).ze.length ((S 0).ze.map (Value.int .i64)) ∧ (∀ x, e1 = some x → E ≤ x.block ∧ x.block ≠ G1) ∧ E ≤ G1 ∧ G1 < W.heap.size ∧
   ∀ W1 g2 c2, W.grownBy W1 (Value.slice e1 (S 0).ze.length ce).ownBlock → W1.ownsRow (g + 1) 3 1 (.slice (some ⟨g2, 0, none⟩) ((S 0).ze.length + 1) c2) ((S 0).ze.length + 1) (((S 0).ze ++ [0]).map (Value.int .i64)) → ((Value.slice e1 (S 0).ze.length ce).ownBlock = some g2 ∨ g2 = W.heap.size) →
    ∃ F', NdX w0 w6 (W1.setCell ⟨G1, 11, none⟩ (.slice (some ⟨g2, 0, none⟩) ((S 0).ze.length + 1) c2)) g X E LB a0 n cap id f m (some ⟨G1, 0, none⟩) c (fun i => if i = 0 then { S 0 with ze := (S 0).ze ++ [0] } else S i) F' := by
 obtain ⟨y, K, cy, fz, hy, hK, hFg, hB, hl, put⟩ := Ow.focus h.o.cut hm (show 11 < 13 by omega)
 have hEG : E ≤ G1 := h.d _ hFg.1
 obtain ⟨e1, ce, rfl, ho, hx⟩ := ints_ow (zs := (S 0).ze) hy
 have hx2 : ∀ x, e1 = some x → E ≤ x.block ∧ x.block ≠ G1 := fun x e => ⟨h.d _ (hK _ (hx x e)).1.1, (hK _ (hx x e)).2⟩
 refine ⟨e1, ce, cy, fz 11, ho, hx2, hEG, hl, fun W1 g2 c2 hg ho2 hor => ⟨fun x => (F x ∧ g + 1 ≤ x ∧ x < W.heap.size) ∨ x = g2, ?_⟩⟩
 have hob : ∀ b, some b = (Value.slice e1 (S 0).ze.length ce).ownBlock → K b := fun b eb => by
  cases e1 with
  | none => cases eb
  | some x => injection eb with eb; subst eb; exact hx x rfl
 have hblk : ∀ b, b < W.heap.size → b < E → W1.heap[b]? = W.heap[b]? := fun b hb hE => hg.block b hb (fun e => by have h3 := h.d _ (hK _ (hob b e)).1.1; omega)
 have hls : ((S 0).ze ++ [0]).length = (S 0).ze.length + 1 := by simp
 have O2 : Ow W1 (g + 1) (inD ((S 0).ze ++ [0])) (.slice (some ⟨g2, 0, none⟩) ((S 0).ze.length + 1) c2) (fun x => x = g2) := by
  have := ow_ints (w := W1) (B := g + 1) (a := some ⟨g2, 0, none⟩) (cap := c2) (zs := (S 0).ze ++ [0]) (F := fun x => x = g2) (by rw [hls]; exact ho2) (fun x e => by cases e; rfl)
  rw [hls] at this
  exact this
 have O := put W1 (inD ((S 0).ze ++ [0])) _ (fun x => x = g2) (fun b hF hnK hb => hg.block b hb (fun e => hnK (hob b e))) O2 (fun x e => by
  subst e
  rcases hor with e | e
  ·exact .inl (hob _ e.symm)
  ·exact .inr (fun k => by have := k.2.2; omega))
 have hW := h.fr.1
 have hWs := hg.size
 have hbb := h.b.size
 have hg1 : ∃ r, W.grownBy W1 (some r) ∧ g < r := by
  cases e1 with
  | none => exact ⟨G1, ⟨hg.os, hg.tape, hg.output, hg.size, fun j hj _ => hg.block j hj (fun e => by cases e)⟩, by omega⟩
  | some x => exact ⟨x.block, hg, by have := (hx2 x rfl).1; omega⟩
 obtain ⟨r, hg1, hgl⟩ := hg1
 have hg2E : E ≤ g2 := by
  rcases hor with e | e
  ·have := h.d _ (hK _ (hob _ e.symm)).1.1; omega
  ·omega
 exact ⟨grownCell 11 _ ⟨hg.os.trans h.b.os, hg.tape.trans h.b.tape, hg.output.trans h.b.output, Nat.le_trans h.b.size hg.size, fun j hj hne => (hblk j (by omega) (by omega)).trans (h.b.block j hj hne)⟩ (by omega), (h.c.far hg1 hgl hab).setc 11 _ (by omega) hab, (heap_setCell_other W1 ⟨G1, 11, none⟩ X _ (by show X ≠ G1; omega)).trans ((hblk X h.x.lt h2).trans h.x), O.congr (fun i q _ hq => slD_at (slD_ze (S 0) ((S 0).ze ++ [0]) q hq)), fun b hb => by
  rcases hb with hb | hb
  ·exact h.d b hb.1
  ·show E ≤ b; rw [hb]; exact hg2E, FrB.cell 11 _ ⟨Nat.le_trans hW hWs, fun b k1 k2 => (hblk b (by omega) (by omega)).trans (h.fr.2 b k1 k2)⟩ (.inr (by omega))⟩
theorem Cur.upto {w w' : World} {g n cap : Nat} {a : Option Addr} (h : Cur w g a n cap) (hb : Below (g + 1) w w') (hab : Under a n g) : Cur w' g a n cap := by
 obtain ⟨hn, ⟨i, hh, hi, hblk⟩, hby⟩ := h
 refine ⟨hn, ⟨i, hh, hi, ?_⟩, ?_⟩
 ·rw [hb.block g (by omega)]; exact hblk
 ·intro j hj
  obtain ⟨b, off, x, e, hbg, hc, hx⟩ := hby j hj
  have := hab (by omega) b off e
  exact ⟨b, off, x, e, hbg, (World.cell?_of_block (hb.block b (by omega))).trans hc, hx⟩
theorem slK_d {s : Sl} (h : SlK s) (b : Bool) : SlK { s with d := b } := ⟨h.1, h.2, h.3, h.4, h.5, h.6, h.7⟩
theorem slK_ze {s : Sl} (h : SlK s) (zs : List Int) (hz : zs.length ≤ 1048576) : SlK { s with ze := zs } := ⟨h.1, h.2, h.3, h.4, h.5, hz, h.7⟩
theorem nd_more {w0 w6 wq W : World} {g X E LB : Nat} {a0 : Option Addr} {n cap : Nat} {id f : Int} {m : Nat} {a : Option Addr} {c : Nat} {S S' : Nat → Sl} {F F8 : Nat → Prop} {g8 c8 : Nat} (h : NdX w0 w6 wq g X E LB a0 n cap id f m a c S F) (hab : Under a0 n g) (h1 : g < X) (h2 : X < E) (hw : w0.heap.size ≤ X) (hE : E = w6.heap.size) (h3 : X < LB)
  (o : Ow W (g + 1) (slsD (m + 1) S') (.slice (some ⟨g8, 0, none⟩) (m + 1) c8) F8) (d : ∀ b, F8 b → E ≤ b) (t : Trn wq W F) (hb : Below (g + 1) wq W) :
  Row W X 37 #[.int .i64 id, .int .i64 f, .slice a m c] ∧ NdX w0 w6 (W.setCell ⟨X, 2, none⟩ (.slice (some ⟨g8, 0, none⟩) (m + 1) c8)) g X E LB a0 n cap id f (m + 1) (some ⟨g8, 0, none⟩) c8 S' F8 := by
 have hblk : ∀ b, b < wq.heap.size → b < E → W.heap[b]? = wq.heap[b]? := fun b hb hE => t.block b hb (fun hF => by have := h.d b hF; omega)
 have hx : Row W X 37 #[.int .i64 id, .int .i64 f, .slice a m c] := (hblk X h.x.lt h2).trans h.x
 have hbs := h.b.size
 have hfs := h.fr.1
 refine ⟨hx, grownCell 2 _ ⟨t.os.trans h.b.os, t.tape.trans h.b.tape, t.output.trans h.b.output, Nat.le_trans h.b.size t.size, fun j hj hne => (hblk j (by omega) (by omega)).trans (h.b.block j hj hne)⟩ hw, (h.c.upto hb hab).setc 2 _ h1 hab, hx.set 2 _, o.frame (fun b hb _ => heap_setCell_other W ⟨X, 2, none⟩ b _ (by show b ≠ X; have := d b hb; omega)), d, FrB.cell 2 _ ⟨Nat.le_trans h.fr.1 t.size, fun b k1 k2 => (hblk b (by omega) (by omega)).trans (h.fr.2 b k1 k2)⟩ (.inl h3)⟩
def lenAt (W : World) (X : Nat) : Nat := match W.cell? ⟨X, 2, none⟩ with
 | some (.slice _ n _) => n
 | _ => 0
theorem lenAt_is {W : World} {X m c : Nat} {id f : Int} {a : Option Addr} {t : TypeId} (h : Row W X t #[.int .i64 id, .int .i64 f, .slice a m c]) : lenAt W X = m := by
 have := h.cell 2
 simp at this
 unfold lenAt
 rw [this]
end Go.Proofs.YtaenoiffamgcfaaGreatDoor
