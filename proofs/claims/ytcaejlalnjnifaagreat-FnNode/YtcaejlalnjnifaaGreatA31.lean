import Derived.Test.YtcaejlalnjnifaaGreatA15
import Derived.Test.YtcaejlalnjnifaaGreatA27
import Derived.Test.YtcaejlalnjnifaaGreatA23
import Derived.Test.YtcaejlalnjnifaaGreatA28
import Derived.Test.YtcaejlalnjnifaaGreatA26
import Derived.Test.YtcaejlalnjnifaaGreatA14
set_option maxHeartbeats 8000000
set_option maxRecDepth 2000
open Go.ChangeShapes Go.WideShapes Go.ChangeAt Go.RowKit
namespace Go.Proofs.YtcaejlalnjnifaaGreat
theorem step_snoc {P : Program} (w : World) {ops : Array Oper} {o : Oper} {a : Act} {K : Act → World → Prop} {Q : Exit → Act → World → Prop} {E : Prop} (hgd : o.guard = none) (s x : Operand) (t : TypeId)
  (ho : o.op = .call { callee := .builtin .append, args := #[s, x], argTypes := #[t, t] })
  (B : Nat) (e : TypeId) (i : TypeInfo) (z : Value) (size bytes : Nat) (ht : P.underlying t = some (.slice e)) (hi : P.info? e = some i) (hz : i.zero = some z)
  (hsize : i.size = size) (hby : i.bytes = bytes) (hzs : z.cells.size = size) (hsz : 0 < size)
  (v : Value) (n : Nat) (f : Nat → Nat → Dt) (F : Nat → Prop) (hs : a.eval s = v) (hO : Ow w B (.lst e size n f) v F)
  (ad : Addr) (c : Nat) (vs : List Value) (hx : a.eval x = .slice (some ad) 1 c) (hl : vs.length = size) (hvs : ∀ j u, vs[j]? = some u → w.cell? (ad.add j) = some u) (h1 : ∀ u ∈ vs, u.oneCell' = true)
  (d : Nat → Dt) (H : Nat → Nat → Prop) (hv : ∀ q, q < size → Ow w B (d q) (vs.getD q undef) (H q)) (hH : ∀ q x, q < size → H q x → ¬ F x) (hE : ∀ q q' x, q < size → q' < size → H q x → H q' x → q = q')
  (h63 : n + 1 ≤ maxLen) (hbytes : (n + 1) * bytes ≤ 140737488355328) (hB : B ≤ w.heap.size)
  (h : ∀ g cap w', Ow w' B (.lst e size (n + 1) (fun i => if i = n then d else f i)) (.slice (some ⟨g, 0, none⟩) (n + 1) cap) (fun x => x < w'.heap.size ∧ ((F x ∨ ∃ q, q < size ∧ H q x) ∨ w.heap.size ≤ x)) → Below B w w' → Trn w w' F → K (a.put o.dst (.slice (some ⟨g, 0, none⟩) (n + 1) cap)) w') :
  if Region.wanted o (yielded ops a.tmps) = true then Oper.wp P o a w K Q else E := by
 obtain ⟨a0, cp, cc, G, rfl, hown, hsep, hr⟩ := hO
 refine step_append_lies w hgd s x t ho B e i z size bytes ht hi hz hsize hby hzs hsz _ n _ hs hown ad 1 c vs hx (by omega) hvs h1 (by omega) h63 hbytes hB w.heap.size rfl fun g cap w' h2 h3 h4 h5 => ?_
 have hsz' := h3.size
 have hk : ∀ k, (Value.slice a0 n cp).ownBlock = some k → F k ∧ B ≤ k ∧ k < w.heap.size := fun k ek => by
  cases a0 with
  | none => cases ek
  | some y =>
   have e1 : y.block = k := by injection ek
   subst e1
   exact ⟨hsep.head y rfl, World.ownsRow.lt hown y.block rfl⟩
 refine h g cap w' (ow_snoc hsz hsep hr hl hv hH hE h2 h3 h4 (fun x hx hlt => ⟨by omega, .inl (.inl hx)⟩) (fun q x hq hx hlt => ⟨by omega, .inl (.inr ⟨q, hq, hx⟩)⟩) ⟨h5, ?_⟩) ((Below.refl _ _).grown h3 hB fun k ek => (hk k ek).2.1) ⟨h3.os, h3.tape, h3.output, h3.size, fun x hx hn => h3.block x hx fun ek => hn (hk x ek.symm).1⟩
 rcases h4 with h4 | h4
 ·exact .inl (.inl (hk g h4).1)
 ·exact .inr (by omega)
abbrev hrC (id f : Int) (g n cap p : Nat) (v : Value) : Array Value := #[.int .i64 id, .int .i64 f, .slice (some ⟨g, 0, none⟩) n cap, .pointer (some ⟨g, p * 13, none⟩), v]
structure Hr (W : World) (B Hb : Nat) (id f : Int) (g n cap p : Nat) (S : Nat → Sl) (sa : Option Addr) (m sc : Nat) (Y : Nat → Sy) (F1 F2 : Nat → Prop) : Prop where
 r : Row W Hb 156 (hrC id f g n cap p (.slice sa m sc))
 o : Ow W B (slsD n S) (.slice (some ⟨g, 0, none⟩) n cap) F1
 y : Ow W B (sysD m Y) (.slice sa m sc) F2
 d : ∀ x, F1 x → ¬ F2 x
 h1 : ¬ F1 Hb
 h2 : ¬ F2 Hb
 b : B ≤ Hb ∧ B ≤ W.heap.size
 l1 : ∀ x, F1 x → x < W.heap.size
 l2 : ∀ x, F2 x → x < W.heap.size
theorem Hr.below {W W' : World} {B Hb : Nat} {id f : Int} {g n cap p : Nat} {S : Nat → Sl} {sa : Option Addr} {m sc : Nat} {Y : Nat → Sy} {F1 F2 : Nat → Prop} (h : Hr W B Hb id f g n cap p S sa m sc Y F1 F2) (hb : Below W.heap.size W W') : Hr W' B Hb id f g n cap p S sa m sc Y F1 F2 :=
 ⟨h.r.below hb h.r.lt, h.o.below hb, h.y.below hb, h.d, h.h1, h.h2, ⟨h.b.1, Nat.le_trans h.b.2 hb.size⟩, fun x hx => Nat.lt_of_lt_of_le (h.l1 x hx) hb.size, fun x hx => Nat.lt_of_lt_of_le (h.l2 x hx) hb.size⟩
theorem Hr.said {W W' : World} {B Hb : Nat} {id f : Int} {g n cap p : Nat} {S : Nat → Sl} {sa sb : Option Addr} {m m' sc sc' : Nat} {Y Y' : Nat → Sy} {F1 F2 F8 : Nat → Prop} (h : Hr W B Hb id f g n cap p S sa m sc Y F1 F2) (o : Ow W' B (sysD m' Y') (.slice sb m' sc') F8) (t : Trn W W' F2) (hF : ∀ x, F8 x → x < W'.heap.size ∧ (F2 x ∨ W.heap.size ≤ x)) :
  Row W' Hb 156 (hrC id f g n cap p (.slice sa m sc)) ∧ Hr (W'.setCell ⟨Hb, 4, none⟩ (.slice sb m' sc')) B Hb id f g n cap p S sb m' sc' Y' F1 F8 ∧ Trn W (W'.setCell ⟨Hb, 4, none⟩ (.slice sb m' sc')) (fun x => x = Hb ∨ F2 x) := by
 have hr : Row W' Hb 156 (hrC id f g n cap p (.slice sa m sc)) := (t.block Hb h.r.lt h.h2).trans h.r
 have h8 : ¬ F8 Hb := fun k => by
  rcases (hF Hb k).2 with k | k
  ·exact h.h2 k
  ·have := h.r.lt; omega
 refine ⟨hr, ⟨hr.set 4 _, (h.o.turned t h.d).far 4 _ h.h1, o.far 4 _ h8, fun x k1 k8 => ?_, h.h1, h8, ⟨h.b.1, by simpa using Nat.le_trans h.b.2 t.size⟩, fun x k => by simpa using Nat.lt_of_lt_of_le (h.l1 x k) t.size, fun x k => by simpa using (hF x k).1⟩, (t.mono (fun _ k => .inr k)).trans (Trn.set _ 4 _ (.inl rfl))⟩
 rcases (hF x k8).2 with k | k
 ·exact h.d x k1 k
 ·have := h.l1 x k1; omega
def syA (k id : Int) (r : ByteArray) (i : Nat) : Sy := ⟨k, id, (i : Int), r, ⟨ByteArray.empty, 0, 0, 0, ByteArray.empty, 0, fun _ => ByteArray.empty⟩⟩
def syM (Y : Nat → Sy) (m : Nat) (k id : Int) (r : ByteArray) (i : Nat) : Sy := if i < m then Y i else syA k id r (i - m)
theorem slot_root {W : World} {B g n cap p : Nat} {S : Nat → Sl} {F : Nat → Prop} (h : Ow W B (slsD n S) (.slice (some ⟨g, 0, none⟩) n cap) F) (hp : p < n) : W.cell? ⟨g, p * 13, none⟩ = some (.string (S p).r) := by
 obtain ⟨b, off, y, e, hc, hr⟩ := h.rd.row hp
 cases e
 have h0 := hc 0 (by omega)
 have r0 := hr 0 (by omega)
 rw [Nat.zero_add, Nat.add_zero] at h0
 rw [h0]
 exact congrArg some r0
theorem ow_syA {W : World} {B : Nat} {k id : Int} {r : ByteArray} {i : Nat} (q : Nat) (hq : q < 10) : Ow W B (syD (syA k id r i) q) ([Value.int .i64 k, .int .i64 id, .int .i64 (i : Int), .string r, .string ⟨#[]⟩, .int .i64 0, .int .i64 0, .int .i64 0, .string ⟨#[]⟩, .slice none 0 0].getD q undef) (fun _ => False) := by
 match q, hq with
 | 0, _ | 1, _ | 2, _ | 3, _ | 4, _ | 5, _ | 6, _ | 7, _ | 8, _ => rfl
 | 9, _ => exact Ow.nil _ _ _ _ _ _
theorem say_more {Y : Nat → Sy} {m c : Nat} {k id : Int} {r : ByteArray} (i q : Nat) (_hi : i < m + c + 1) : (if i = m + c then syD (syA k id r c) else syD (syM Y m k id r i)) q = syD (syM Y m k id r i) q := by
 by_cases e : i = m + c
 ·subst e
  rw [if_pos rfl]
  unfold syM
  rw [if_neg (by omega), Nat.add_sub_cancel_left]
 ·rw [if_neg e]
theorem trn_new {w w1 w2 w3 : World} {Hb : Nat} {F F' : Nat → Prop} (t : Trn w2 w3 (fun x => x = Hb ∨ F' x)) (hF : ∀ x, F' x → F x ∨ w.heap.size ≤ x) (t1 : Trn w w1 (fun x => x = Hb ∨ F x)) (b : Below w1.heap.size w1 w2) : Trn w w3 (fun x => x = Hb ∨ F x) := by
 have t2 : Trn w w2 (fun x => x = Hb ∨ F x) := t1.trans (Trn.ofBelow _ b)
 refine ⟨t.os.trans t2.os, t.tape.trans t2.tape, t.output.trans t2.output, Nat.le_trans t2.size t.size, fun j hj hn => ?_⟩
 refine (t.block j (Nat.lt_of_lt_of_le hj t2.size) (fun k => ?_)).trans (t2.block j hj hn)
 rcases k with k | k
 ·exact hn (.inl k)
 ·rcases hF j k with k | k
  ·exact hn (.inr k)
  ·omega
abbrev syAC (k id : Int) (c : Nat) (r : ByteArray) : Array Value := #[.int .i64 k, .int .i64 id, .int .i64 (c : Int), .string r, .string ⟨#[]⟩, .int .i64 0, .int .i64 0, .int .i64 0, .string ⟨#[]⟩, .slice none 0 0]
theorem step_say {ops : Array Oper} {o : Oper} {a : Act} {K : Act → World → Prop} {Q : Exit → Act → World → Prop} {E : Prop} (w7 : World) (hgd : o.guard = none) (s x : Operand)
  (ho : o.op = .call { callee := .builtin .append, args := #[s, x], argTypes := #[34, 34] })
  (k id f : Int) (B Hb g n cap p : Nat) (S : Nat → Sl) (sa : Option Addr) (m c sc : Nat) (Y : Nat → Sy) (r : ByteArray) (F1 F2 : Nat → Prop)
  (hs : a.eval s = .slice sa (m + c) sc) (hx : a.eval x = .slice (some ⟨w7.heap.size, 0, none⟩) 1 1)
  (h7 : Hr (w7.alloc (.cells (syAC k id c r) 31)) B Hb id f g n cap p S sa (m + c) sc (syM Y m k id r) F1 F2) (hm : m + c ≤ 2000000)
  (h : ∀ g8 c8 w8 F8, Row w8 Hb 156 (hrC id f g n cap p (.slice sa (m + c) sc)) ∧ Hr (w8.setCell ⟨Hb, 4, none⟩ (.slice (some ⟨g8, 0, none⟩) (m + c + 1) c8)) B Hb id f g n cap p S (some ⟨g8, 0, none⟩) (m + c + 1) c8 (syM Y m k id r) F1 F8 ∧ Trn (w7.alloc (.cells (syAC k id c r) 31)) (w8.setCell ⟨Hb, 4, none⟩ (.slice (some ⟨g8, 0, none⟩) (m + c + 1) c8)) (fun x => x = Hb ∨ F2 x) ∧ (∀ x, F8 x → F2 x ∨ w7.heap.size < x) → K (a.put o.dst (.slice (some ⟨g8, 0, none⟩) (m + c + 1) c8)) w8) :
  if Region.wanted o (yielded ops a.tmps) = true then Oper.wp Tryz.prog o a (w7.alloc (.cells (syAC k id c r) 31)) K Q else E := by
 obtain ⟨i0, hi, hz0, hz1, hz2⟩ := info_parts Tryz.infoSyZ
 refine step_snoc _ hgd s x 34 ho B 31 i0 (.agg zcY.toArray) 10 120 Tryz.underlying34 hi hz0 hz1 hz2 rfl (by decide) (.slice sa (m + c) sc) (m + c) _ F2 hs h7.y ⟨w7.heap.size, 0, none⟩ 1 (syAC k id c r).toList hx rfl (World.news_of_block (t := 31) (fr := (0, 0)) (Row.new w7 _ _)) (by simp [Value.oneCell']) (syD (syA k id r c)) (fun _ _ => False) (fun q hq => ow_syA q hq) (fun _ _ _ h => h.elim) (fun _ _ _ _ _ h => h.elim) (by unfold maxLen; omega) (by omega) h7.b.2 fun g8 c8 w8 O8 b8 T8 => ?_
 have O9 : Ow w8 B (sysD (m + c + 1) (syM Y m k id r)) (.slice (some ⟨g8, 0, none⟩) (m + c + 1) c8) (fun x => x < w8.heap.size ∧ (F2 x ∨ w7.heap.size < x)) := (O8.mono (fun x hx => ⟨hx.1, by
  rcases hx.2 with (h | ⟨_, _, h⟩) | h
  ·exact .inl h
  ·exact h.elim
  ·have e : (w7.alloc (.cells (syAC k id c r) 31)).heap.size = w7.heap.size + 1 := by simp
   rw [e] at h
   exact .inr h⟩)).congr (fun i q hi _ => say_more i q hi)
 obtain ⟨q1, q2, q3⟩ := h7.said O9 T8 (fun x hx => ⟨hx.1, by
  have e : (w7.alloc (.cells (syAC k id c r) 31)).heap.size = w7.heap.size + 1 := by simp
  rw [e]
  exact hx.2⟩)
 exact h g8 c8 w8 _ ⟨q1, q2, q3, fun x hx => hx.2⟩
theorem MkS.put {w w1 : World} {B t sz g n cap : Nat} {G : Nat → Nat → Nat → Prop} {D : Nat → Nat → Dt} {F : Nat → Prop} (h : MkS w B t sz g n cap G D) (hs : Sep (some ⟨g, 0, none⟩) n sz G F) {i q : Nat} (hi : i < n) (hq : q < sz) (ht : Trn w w1 (G i q)) {d' : Dt} {v' : Value} {H : Nat → Prop} (ho : Ow w1 B d' v' H) (hH : ∀ x, H x → G i q x ∨ w.heap.size ≤ x) :
  Ow (w1.setCell ⟨g, i * sz + q, none⟩ v') B (.lst t sz n (fun i' q' => if i' = i ∧ q' = q then d' else D i' q')) (.slice (some ⟨g, 0, none⟩) n cap) (fun x => F x ∨ w.heap.size ≤ x) := by
 obtain ⟨c, hown, hr⟩ := h
 have hg := World.ownsRow.lt hown g rfl
 have own1 : w1.ownsRow B t sz (.slice (some ⟨g, 0, none⟩) n cap) n (cL sz c n) := by
  refine ⟨hown.1, ?_⟩
  rcases hown.2 with h' | ⟨g', cap', cur, h1, h2, h3, h4⟩
  ·exact .inl h'
  ·refine .inr ⟨g', cap', cur, h1, h2, ?_, h4⟩
   have e : g' = g := by cases h1; rfl
   subst e
   rw [ht.block g' hg.2 (hs.apart i q _ hi hq rfl)]
   exact h3
 have h1 := (World.ownsRow.stored own1 (i * sz + q) v').1
 rw [cL_set _ _ _ _ _ _ hi hq] at h1
 have hHg : ¬ H g := fun k => by
  rcases hH g k with k | k
  ·exact hs.apart i q _ hi hq rfl k
  ·omega
 refine ⟨_, cap, _, fun i' q' x => if i' = i ∧ q' = q then H x else G i' q' x ∧ x < w.heap.size, rfl, h1, ⟨fun x e => ?_, fun i' q' x hi' hq' k => ?_, fun i' q' x hi' hq' e k => ?_, fun i' q' i2 q2 x hi' hq' hi2 hq2 k k2 => ?_⟩, fun i' q' hi' hq' => ?_⟩
 ·cases e
  exact .inl (hs.head _ rfl)
 ·by_cases e : i' = i ∧ q' = q
  ·rw [if_pos e] at k
   rcases hH x k with k | k
   ·exact .inl (hs.sub i q x hi hq k)
   ·exact .inr k
  ·rw [if_neg e] at k
   exact .inl (hs.sub i' q' x hi' hq' k.1)
 ·cases e
  by_cases e : i' = i ∧ q' = q
  ·rw [if_pos e] at k
   exact hHg k
  ·rw [if_neg e] at k
   exact hs.apart i' q' _ hi' hq' rfl k.1
 ·by_cases e : i' = i ∧ q' = q <;> by_cases e2 : i2 = i ∧ q2 = q
  ·exact ⟨e.1.trans e2.1.symm, e.2.trans e2.2.symm⟩
  ·rw [if_pos e] at k
   rw [if_neg e2] at k2
   rcases hH x k with k | k
   ·have := hs.each i q i2 q2 x hi hq hi2 hq2 k k2.1
    exact absurd ⟨this.1.symm, this.2.symm⟩ e2
   ·have := k2.2; omega
  ·rw [if_neg e] at k
   rw [if_pos e2] at k2
   rcases hH x k2 with k2 | k2
   ·have := hs.each i q i' q' x hi hq hi' hq' k2 k.1
    exact absurd ⟨this.1.symm, this.2.symm⟩ e
   ·have := k.2; omega
  ·rw [if_neg e] at k
   rw [if_neg e2] at k2
   exact hs.each i' q' i2 q2 x hi' hq' hi2 hq2 k.1 k2.1
 ·by_cases e : i' = i ∧ q' = q
  ·simp only [e, and_self, if_true]
   exact ho.far _ _ hHg
  ·simp only [e, if_false]
   have h2 : Ow w1 B (D i' q') (c i' q') (fun x => G i' q' x ∧ x < w.heap.size) := ((hr i' q' hi' hq').cut.mono (fun x k => ⟨k.1, k.2.2⟩)).turned ht fun x k k2 => e (hs.each i' q' i q x hi' hq' hi hq k.1 k2)
   exact h2.far _ _ (fun k => hs.apart i' q' _ hi' hq' rfl k.1)
theorem Hr.slots {W W2 : World} {B Hb : Nat} {id f : Int} {g n cap p : Nat} {S S' : Nat → Sl} {sa : Option Addr} {m sc : Nat} {Y : Nat → Sy} {F1 F2 F' : Nat → Prop} (h : Hr W B Hb id f g n cap p S sa m sc Y F1 F2) (t : Trn W W2 F1) (o : Ow W2 B (slsD n S') (.slice (some ⟨g, 0, none⟩) n cap) F') (hF : ∀ x, F' x → F1 x ∨ W.heap.size ≤ x) :
  ∃ F1', Hr W2 B Hb id f g n cap p S' sa m sc Y F1' F2 ∧ ∀ x, F1' x → F1 x ∨ W.heap.size ≤ x := by
 have hd : ∀ x, F2 x → ¬ F1 x := fun x k2 k1 => h.d x k1 k2
 refine ⟨_, ⟨(t.block Hb h.r.lt h.h1).trans h.r, o.cut, h.y.turned t hd, fun x k1 k2 => ?_, fun k => ?_, h.h2, ⟨h.b.1, Nat.le_trans h.b.2 t.size⟩, fun x k => k.2.2, fun x k => Nat.lt_of_lt_of_le (h.l2 x k) t.size⟩, fun x k => hF x k.1⟩
 ·rcases hF x k1.1 with k | k
  ·exact h.d x k k2
  ·have := h.l2 x k2; omega
 ·rcases hF Hb k.1 with k | k
  ·exact h.h1 k
  ·have := h.r.lt; omega
def slEc (S : Nat → Sl) (p : Nat) (zs : List Int) (i : Nat) : Sl := if i = p then { S p with ze := zs } else S i
def slRd (S : Nat → Sl) (p : Nat) (zs : List Int) (i : Nat) : Sl := if i = p then { S p with zr := zs } else S i
theorem slEc_D (S : Nat → Sl) (p : Nat) (zs : List Int) (i q : Nat) (hq : q < 13) : (if i = p ∧ q = 11 then inD zs else slD (S i) q) = slD (slEc S p zs i) q := by
 unfold slEc
 by_cases e : i = p
 ·subst e
  match q, hq with
  | 0, _ | 1, _ | 2, _ | 3, _ | 4, _ | 5, _ | 6, _ | 7, _ | 8, _ | 9, _ | 10, _ | 11, _ | 12, _ => simp [slD]
 ·simp [e]
theorem slRd_D (S : Nat → Sl) (p : Nat) (zs : List Int) (i q : Nat) (hq : q < 13) : (if i = p ∧ q = 12 then inD zs else slD (S i) q) = slD (slRd S p zs i) q := by
 unfold slRd
 by_cases e : i = p
 ·subst e
  match q, hq with
  | 0, _ | 1, _ | 2, _ | 3, _ | 4, _ | 5, _ | 6, _ | 7, _ | 8, _ | 9, _ | 10, _ | 11, _ | 12, _ => simp [slD]
 ·simp [e]
theorem sayToAll_any (k id f : Int) (B Hb g n cap p : Nat) (S : Nat → Sl) (sa : Option Addr) (m sc : Nat) (Y : Nat → Sy) (F1 F2 : Nat → Prop) (n3 : Nat) (w : World) (h : Hr w B Hb id f g n cap p S sa m sc Y F1 F2) (hf : 1 ≤ f ∧ f ≤ 3) (hp : p < n) (hm : m ≤ 1048576) (hr : (S p).r.size ≤ 1048576) (hn3 : (n3 : Int) = 3 * f + 1) :
  Calls Tryz.prog 153 #[.pointer (some ⟨Hb, 0, none⟩), .int .i64 k] w fun e w' => e = .returned (.tuple #[]) ∧ ∃ sa' sc' F2', Hr w' B Hb id f g n cap p S sa' (m + n3) sc' (syM Y m k id (S p).r) F1 F2' ∧ Trn w w' (fun x => x = Hb ∨ F2 x) ∧ ∀ x, F2' x → F2 x ∨ w.heap.size ≤ x := by
 obtain ⟨r, HR⟩ : ∃ x, Hid ((S p).r = x) := ⟨_, rfl⟩
 rw [HR.out] at hr
 rw [HR.out]
 have KH : Hid (Hr w B Hb id f g n cap p S sa m sc Y F1 F2) := h
 have HP : Hid (p < n) := hp
 have KN : Hid (∀ W, Calls Tryz.prog 72 #[.int .i64 f] W fun e w' => e = .returned (.int .i64 (n3 : Int)) ∧ w' = W) := fun W => by rw [hn3]; exact nodeCount_any f W hf
 have KC : Hid (∀ W, Calls Tryz.prog 120 #[.string r] W fun e w' => e = .returned (.string r) ∧ Below W.heap.size W w') := fun W => clone_any r W hr
 have H3 : n3 ≤ 10 := by omega
 have x1 := h.r.cell 1
 simp at x1
 clear h hf hn3 hp hr
 go_enter Tryz.func153, Tryz.ntmps153
 go_wp2_with (go_at_call 72; refine Calls.mono (KN.out _) ?_; rintro e w' ⟨rfl, hw⟩; obtain rfl := hw.symm; clear hw)
 go_loopw [11] (fun vi wr => ∃ c : Nat, c ≤ n3 ∧ vi = .int .i64 (c : Int) ∧ Hid (∃ sa' sc' F2', Hr wr B Hb id f g n cap p S sa' (m + c) sc' (syM Y m k id r) F1 F2' ∧ Trn w wr (fun x => x = Hb ∨ F2 x) ∧ ∀ x, F2' x → F2 x ∨ w.heap.size ≤ x)) (fun vi _ => n3 - (intOf vi).toNat)
 case atStart => exact ⟨0, Nat.zero_le _, rfl, sa, sc, F2, ⟨KH.out.r, KH.out.o, KH.out.y.congr (fun i q hi _ => by show _ = syD (syM Y m k id r i) q; unfold syM; rw [if_pos (show i < m from hi)]), KH.out.d, KH.out.h1, KH.out.h2, KH.out.b, KH.out.l1, KH.out.l2⟩, Trn.refl _ _, fun x hx => .inl hx⟩
 case round =>
  obtain ⟨c, hc, rfl, HO'⟩ := hrel
  obtain ⟨sa', sc', F2', hH, hT, hF⟩ := HO'.out
  clear HO' x1
  by_cases hlt : c < n3
  ·have hci : (c : Int) < (n3 : Int) := by omega
   have KH1 : Hid (Hr wr B Hb id f g n cap p S sa' (m + c) sc' (syM Y m k id r) F1 F2') := hH
   have KT1 : Hid (Trn w wr (fun x => x = Hb ∨ F2 x) ∧ ∀ x, F2' x → F2 x ∨ w.heap.size ≤ x) := ⟨hT, hF⟩
   have KFC : Hid (∀ W, Below wr.heap.size wr W → (W.cell? ⟨Hb, 0, none⟩ = some (.int .i64 id) ∧ W.cell? ⟨Hb, 3, none⟩ = some (.pointer (some ⟨g, p * 13, none⟩)) ∧ W.cell? ⟨Hb, 4, none⟩ = some (.slice sa' (m + c) sc') ∧ W.cell? ⟨g, p * 13, none⟩ = some (.string r)) ∧ W.frozen? ⟨Hb, 4, none⟩ = false) := fun W hW => by
    have q := KH1.out.below hW
    have y0 := q.r.cell 0
    have y3 := q.r.cell 3
    have y4 := q.r.cell 4
    simp at y0 y3 y4
    have yr := slot_root q.o HP.out
    rw [HR.out] at yr
    exact ⟨⟨y0, y3, y4, yr⟩, q.r.free 4⟩
   obtain ⟨⟨y0, y3, y4, yr⟩, yf⟩ := KFC.out wr (Below.refl _ _)
   have HLT : Hid (c < n3 ∧ m ≤ 1048576) := ⟨hlt, hm⟩
   have hdr := below_drew wr
   have KNX : Hid (∀ w7, Below wr.heap.size wr w7 → Hr (w7.alloc (.cells (syAC k id c r) 31)) B Hb id f g n cap p S sa' (m + c) sc' (syM Y m k id r) F1 F2' ∧ Below wr.heap.size wr (w7.alloc (.cells (syAC k id c r) 31)) ∧ Hb < w7.heap.size) := fun w7 b7 => by
    have b8 : Below w7.heap.size w7 (w7.alloc (.cells (syAC k id c r) 31)) := (Below.refl _ _).alloc (Nat.le_refl _) _
    exact ⟨(KH1.out.below b7).below b8, below2 b7 b8, (KH1.out.below b7).r.lt⟩
   clear hH hT hF
   go_upto_region 3 with fail
   go_region_law ((first | (guard_hyp K7; refine step_say w7 (by rfl) _ _ (by rfl) k id f B Hb g n cap p S sa' m c sc' Y r F1 F2' (by rfl) (by rfl) ?_ ?_ ?_; exact K7.out.1; (have := HLT.out; omega); intro g8 c8 w8 F8 hK8; have K8 : Hid _ := hK8; have z4 := hK8.1.cell 4; have zf := hK8.1.free 4; simp at z4; clear hK8) | (go_simp; go_wp2_with (go_at_call 120; refine Calls.mono (KC.out _) ?_; rintro e w7 ⟨rfl, b7'⟩; have b7 := below_of_drew b7'; clear b7'; obtain ⟨⟨p0, p3, p4, pr⟩, pf⟩ := KFC.out _ b7; have K7 : Hid (Hr (w7.alloc (.cells (syAC k id c r) 31)) B Hb id f g n cap p S sa' (m + c) sc' (syM Y m k id r) F1 F2' ∧ Below wr.heap.size wr (w7.alloc (.cells (syAC k id c r) 31)) ∧ Hb < w7.heap.size) := KNX.out _ b7; have lt7 := K7.out.2.2; have q4 := K7.out.1.r.cell 4; have q0 := K7.out.1.r.cell 0; simp at q4 q0))))
   all_goals
    have KR : Hid (∃ sa' sc' F2', Hr (w8.setCell ⟨Hb, 4, none⟩ (.slice (some ⟨g8, 0, none⟩) (m + c + 1) c8)) B Hb id f g n cap p S sa' (m + (c + 1)) sc' (syM Y m k id r) F1 F2' ∧ Trn w (w8.setCell ⟨Hb, 4, none⟩ (.slice (some ⟨g8, 0, none⟩) (m + c + 1) c8)) (fun x => x = Hb ∨ F2 x) ∧ ∀ x, F2' x → F2 x ∨ w.heap.size ≤ x) := by
     obtain ⟨_, q, t, hF8⟩ := K8.out
     have hs7 := K7.out.2.1.size
     have hsw := KT1.out.1.size
     have e : (w7.alloc (.cells (syAC k id c r) 31)).heap.size = w7.heap.size + 1 := by simp
     refine ⟨_, _, _, q, trn_new t KT1.out.2 KT1.out.1 K7.out.2.1, fun x hx => ?_⟩
     rcases hF8 x hx with h | h
     ·exact KT1.out.2 x h
     ·exact .inr (by omega)
    have h1 := HLT.out.1
    go_wp2_with fail
    go_roundw
    case rel => exact ⟨c + 1, by omega, by go_num, KR⟩
    case measure => simp [intOf]; omega
  ·obtain rfl : n3 = c := by omega
   have KZ : Hid _ := (⟨sa', sc', F2', hH, hT, hF⟩ : ∃ sa' sc' F2', Hr wr B Hb id f g n cap p S sa' (m + n3) sc' (syM Y m k id r) F1 F2' ∧ Trn w wr (fun x => x = Hb ∨ F2 x) ∧ ∀ x, F2' x → F2 x ∨ w.heap.size ≤ x)
   clear hH hT hF
   go_wp2
   go_end0
   exact ⟨rfl, KZ.out⟩
theorem sToAll_any (k id f : Int) (v : Value) (r : ByteArray) (n3 : Nat) (w : World) (hf : 1 ≤ f ∧ f ≤ 3) (hn3 : (n3 : Int) = 3 * f + 1) :
  Calls Tryz.prog 53 #[ndV id f v, .int .i64 k, .string r] w fun e w' => ∃ g c, e = .returned (.slice (some ⟨g, 0, none⟩) n3 c) ∧ Ow w' w.heap.size (sysD n3 (syA k id r)) (.slice (some ⟨g, 0, none⟩) n3 c) (rng w.heap.size w'.heap.size) ∧ Below w.heap.size w w' := by
 obtain ⟨i0, hi, hz0, hz1, hz2⟩ := info_parts Tryz.infoSyZ
 obtain ⟨A, HA⟩ : ∃ x, Hid (x = w.heap.size) := ⟨_, rfl⟩
 obtain ⟨w0, HW0⟩ : ∃ x, Hid (x = w.alloc (.cells #[.int .i64 id, .int .i64 f, v] 26)) := ⟨_, rfl⟩
 have RA : Hid (Row w0 A 26 #[.int .i64 id, .int .i64 f, v]) := by show Row _ _ _ _; rw [HW0.out, HA.out]; exact Row.new w _ _
 have hb0 : Below w.heap.size w w0 := by rw [HW0.out]; exact (Below.refl _ _).alloc (Nat.le_refl _) _
 have KB0 : Hid (Below w.heap.size w w0) := hb0
 have KA : Hid (∀ W, Calls Tryz.prog 50 #[.int .i64 f] W fun e w' => e = .returned (.int .i64 (n3 : Int)) ∧ w' = W) := fun W => by rw [hn3]; exact sAllN_any f W hf
 have HM : Hid (n3 ≤ 10) := by show n3 ≤ 10; omega
 obtain ⟨w1, HW1⟩ : ∃ x, Hid (x = w0.alloc (.cells #[] 31)) := ⟨_, rfl⟩
 have hg1 : A + 1 = w0.heap.size := by rw [HW0.out, HA.out]; simp
 obtain ⟨g1, HG1⟩ : ∃ x, Hid (x = A + 1) := ⟨_, rfl⟩
 have K1 : Hid (Ow w1 w0.heap.size (sysD 0 (syA k id r)) (.slice (some ⟨g1, 0, none⟩) 0 0) (rng w0.heap.size w1.heap.size) ∧ Below w0.heap.size w0 w1) := by
  rw [HG1.out, hg1, HW1.out]
  refine ⟨⟨_, 0, fun _ _ => undef, fun _ _ _ => False, rfl, ?_, ⟨fun x e => ?_, fun _ _ _ hi => absurd hi (Nat.not_lt_zero _), fun _ _ _ hi => absurd hi (Nat.not_lt_zero _), fun _ _ _ _ _ hi => absurd hi (Nat.not_lt_zero _)⟩, fun _ _ hi => absurd hi (Nat.not_lt_zero _)⟩, (Below.refl _ _).alloc (Nat.le_refl _) _⟩
  ·have := World.ownsRow_lit (e := 31) (size := 10) (base := w0.heap.size) w0 #[] 0 (by simp) (by unfold maxLen; omega) (by simp)
   simpa [cL] using this
  ·cases e
   exact ⟨Nat.le_refl _, by simp⟩
 clear hb0 hf hn3 hg1
 go_enter Tryz.func53, Tryz.ntmps53
 go_wp2_with fail
 rw [← HW0.out, ← HA.out, ← HW1.out, ← HG1.out]
 go_loopw [7, 8] (fun vv vi wr => ∃ c g cc : Nat, c ≤ n3 ∧ vv = .slice (some ⟨g, 0, none⟩) c cc ∧ vi = .int .i64 (c : Int) ∧ Hid (Ow wr w0.heap.size (sysD c (syA k id r)) (.slice (some ⟨g, 0, none⟩) c cc) (rng w0.heap.size wr.heap.size) ∧ Below w0.heap.size w0 wr)) (fun _ vi _ => n3 - (intOf vi).toNat)
 case atStart => exact ⟨0, g1, 0, Nat.zero_le _, rfl, rfl, K1⟩
 case round =>
  obtain ⟨c, g, cc, hc, rfl, rfl, HO⟩ := hrel
  clear K1 HW1 HG1
  have RAr := RA.out.below HO.out.2 RA.out.lt
  have x0 := RAr.cell 0
  have x1 := RAr.cell 1
  simp at x0 x1
  clear RAr
  by_cases hlt : c < n3
  ·have hci : (c : Int) < (n3 : Int) := by omega
   have HLT : Hid (c < n3) := hlt
   obtain ⟨w5, HW5⟩ : ∃ x, Hid (x = wr.alloc (.cells #[.int .i64 k, .int .i64 id, .int .i64 (c : Int), .string r, .string ⟨#[]⟩, .int .i64 0, .int .i64 0, .int .i64 0, .string ⟨#[]⟩, .slice none 0 0] 31)) := ⟨_, rfl⟩
   have b5 : Below wr.heap.size wr w5 := by rw [HW5.out]; exact (Below.refl _ _).alloc (Nat.le_refl _) _
   go_wp2_with (first | (go_at_call 50; refine Calls.mono (KA.out _) ?_; rintro e w' ⟨rfl, hw⟩; obtain rfl := hw.symm; clear hw) | (at_builtin; rw [← HW5.out]; refine (show True → _ from ?_) trivial))
   intro _
   refine wpList_snoc w5 (by rfl) _ _ 34 (by rfl) w0.heap.size 31 i0 (.agg zcY.toArray) 10 120 Tryz.underlying34 hi hz0 hz1 hz2 rfl (by decide) (.slice (some ⟨g, 0, none⟩) c cc) c _ _ (by rfl) (HO.out.1.below b5) ⟨wr.heap.size, 0, none⟩ 1 [.int .i64 k, .int .i64 id, .int .i64 (c : Int), .string r, .string ⟨#[]⟩, .int .i64 0, .int .i64 0, .int .i64 0, .string ⟨#[]⟩, .slice none 0 0] (by rfl) rfl ?_ (by simp [Value.oneCell']) (syD (syA k id r c)) (fun _ _ => False) (fun q hq => ow_syA q hq) (fun _ _ _ h => h.elim) (fun _ _ _ _ _ h => h.elim) (by have := HM.out; unfold maxLen; omega) (by have := HM.out; omega) ?_ ?_
   ·rw [HW5.out]
    exact World.news_of_block (t := 31) (fr := (0, 0)) (Row.new wr _ _)
   ·exact Nat.le_trans HO.out.2.size b5.size
   intro g' c' w6 O6 b6 _
   have K6 : Hid (Ow w6 w0.heap.size (sysD (c + 1) (syA k id r)) (.slice (some ⟨g', 0, none⟩) (c + 1) c') (rng w0.heap.size w6.heap.size) ∧ Below w0.heap.size w0 w6) := by
    have h5 := HO.out.2.size
    have h6 := b5.size
    refine ⟨(O6.mono (fun x hx => ?_)).congr (fun i q _ _ => ?_), (below2 HO.out.2 b5).trans b6⟩
    ·refine ⟨?_, hx.1⟩
     rcases hx.2 with (h | ⟨_, _, h⟩) | h
     ·exact h.1
     ·exact h.elim
     ·show w0.heap.size ≤ x
      omega
    ·by_cases e : i = c
     ·subst e; simp
     ·simp [e]
   clear O6 b6 b5 x0 x1 HO HW5
   have h1 := HLT.out
   have h2 := HM.out
   go_wp2
   go_roundw
   case rel => exact ⟨c + 1, g', c', by omega, by go_num, by go_num, K6⟩
   case measure => simp [intOf]; omega
  ·obtain rfl : n3 = c := by omega
   have ZZ : Hid (Ow wr w.heap.size (sysD n3 (syA k id r)) (.slice (some ⟨g, 0, none⟩) n3 cc) (rng w.heap.size wr.heap.size) ∧ Below w.heap.size w wr) := by
    have h0 := KB0.out.size
    exact ⟨(HO.out.1.base h0).mono (fun x hx => ⟨Nat.le_trans h0 hx.1, hx.2⟩), below2 KB0.out HO.out.2⟩
   clear HO
   go_wp2_with (go_at_call 50; refine Calls.mono (KA.out _) ?_; rintro e w' ⟨rfl, hw⟩; obtain rfl := hw.symm; clear hw)
   go_ret
   exact ⟨g, cc, rfl, ZZ.out.1, ZZ.out.2⟩
theorem hearEcho_any (id f : Int) (B Hb g n cap p : Nat) (S : Nat → Sl) (sa : Option Addr) (m sc : Nat) (Y : Nat → Sy) (F1 F2 : Nat → Prop) (y : Sy) (v9 : Value) (w : World) (h : Hr w B Hb id f g n cap p S sa m sc Y F1 F2) (hp : p < n) (hz : (S p).ze.length ≤ 1048576) (hs : (S p).ze.Pairwise (· ≤ ·)) :
  Calls Tryz.prog 109 #[.pointer (some ⟨Hb, 0, none⟩), syV y v9] w fun e w' => e = .returned (.tuple #[]) ∧ ∃ F1', Hr w' B Hb id f g n cap p (slEc S p (putI (S p).ze y.f)) sa m sc Y F1' F2 ∧ Trn w w' (fun x => x = Hb ∨ F1 x ∨ F2 x) ∧ ∀ x, F1' x → F1 x ∨ w.heap.size ≤ x := by
 obtain ⟨A, HA⟩ : ∃ x, Hid (x = w.heap.size) := ⟨_, rfl⟩
 obtain ⟨w0, HW0⟩ : ∃ x, Hid (x = w.alloc (.cells (syC y v9) 31)) := ⟨_, rfl⟩
 have hb0 : Below w.heap.size w w0 := by rw [HW0.out]; exact (Below.refl _ _).alloc (Nat.le_refl _) _
 have RA : Hid (Row w0 A 31 (syC y v9)) := by show Row _ _ _ _; rw [HW0.out, HA.out]; exact Row.new w _ _
 have KH : Hid (Hr w0 B Hb id f g n cap p S sa m sc Y F1 F2) := h.below hb0
 have KB0 : Hid (Below w.heap.size w w0) := hb0
 obtain ⟨G, hsep, hmk⟩ := Ow.mk KH.out.o
 have KG : Hid (Sep (some ⟨g, 0, none⟩) n 13 G F1 ∧ MkS w0 B 42 13 g n cap G (fun i => slD (S i))) := ⟨hsep, hmk⟩
 obtain ⟨vz, cz, fz, oz⟩ := MkS.cell hmk hp (show 11 < 13 by omega)
 have oz' : Ow w0 B (inD (S p).ze) vz (G p 11) := oz
 obtain ⟨az, kz, rfl, _, _⟩ := ints_ow oz'
 obtain ⟨zs, HZ⟩ : ∃ x, Hid (putI (S p).ze y.f = x) := ⟨_, rfl⟩
 have KW : Hid (Calls Tryz.prog 154 #[.slice az (S p).ze.length kz, .int .i64 y.f] w0.drew fun e w' => ∃ a' c', e = .returned (.slice a' zs.length c') ∧ Ow w' B (inD zs) (.slice a' zs.length c') (fun x => G p 11 x ∨ w0.heap.size ≤ x) ∧ Trn w0 w' (G p 11)) := by
  have := withNode_any B az kz (S p).ze y.f (G p 11) w0.drew (oz'.below (below_drew w0)) KH.out.b.2 hz hs
  rw [HZ.out] at this
  refine Calls.mono this ?_
  rintro e w' ⟨a', c', rfl, o', t'⟩
  exact ⟨a', c', rfl, o', (Trn.drew w0 _).trans t'⟩
 rw [HZ.out]
 obtain ⟨N, HN⟩ : ∃ x, Hid ((S p).ze.length = x) := ⟨_, rfl⟩
 rw [HN.out] at KW cz
 have HP : Hid (p < n) := hp
 have y3 := KH.out.r.cell 3
 have x1 := RA.out.cell 1
 simp at y3 x1
 have KFX : Hid (∀ W, Trn w0 W (G p 11) → W.cell? ⟨Hb, 3, none⟩ = some (.pointer (some ⟨g, p * 13, none⟩)) ∧ W.cell? ⟨g, p * 13 + 11, none⟩ = some (.slice az N kz) ∧ W.frozen? ⟨g, p * 13 + 11, none⟩ = false) := fun W hW => by
  have r1 : Row W Hb 156 _ := (hW.block Hb KH.out.r.lt (fun k => KH.out.h1 (KG.out.1.sub p 11 Hb HP.out (by omega) k))).trans KH.out.r
  have q3 := r1.cell 3
  simp at q3
  have hb := hW.block g (MkS.lt KG.out.2).2 (KG.out.1.apart p 11 _ HP.out (by omega) rfl)
  exact ⟨q3, (World.cell?_of_block hb).trans cz, (World.frozen?_of_block hb).trans fz⟩
 have cz1 := cz
 clear h hb0 hsep hmk oz oz' hz hs hp
 go_enter Tryz.func109, Tryz.ntmps109
 go_wp2_with fail
 rw [← HW0.out, ← HA.out]
 go_region_with ((go_at_call 154; refine Calls.mono KW.out ?_; rintro e w7 ⟨a7, c7, rfl, o7, t7⟩; have K7 : Hid (Ow w7 B (inD zs) (.slice a7 zs.length c7) (fun x => G p 11 x ∨ w0.heap.size ≤ x) ∧ Trn w0 w7 (G p 11)) := ⟨o7, t7⟩; obtain ⟨p3, pz, pf⟩ := KFX.out _ t7; clear o7 t7))
 all_goals
  go_wp2_with fail
  go_end0
  have o8 : Ow (w7.setCell ⟨g, p * 13 + 11, none⟩ (.slice a7 zs.length c7)) B (slsD n (slEc S p zs)) (.slice (some ⟨g, 0, none⟩) n cap) (fun x => F1 x ∨ w0.heap.size ≤ x) := (MkS.put KG.out.2 KG.out.1 HP.out (by omega) K7.out.2 K7.out.1 (fun x k => k)).congr (fun i q _ hq => slEc_D S p zs i q hq)
  have t8 : Trn w0 (w7.setCell ⟨g, p * 13 + 11, none⟩ (.slice a7 zs.length c7)) F1 := (K7.out.2.mono (fun x k => KG.out.1.sub p 11 x HP.out (by omega) k)).trans (Trn.set _ _ _ (KG.out.1.head _ rfl))
  obtain ⟨F1', hh, hF⟩ := KH.out.slots t8 o8 (fun x k => k)
  refine ⟨rfl, F1', hh, (Trn.ofBelow _ KB0.out).trans (t8.mono (fun x k => .inr (.inl k))), fun x k => ?_⟩
  rcases hF x k with k | k
  ·exact .inl k
  ·exact .inr (Nat.le_trans KB0.out.size k)
theorem hearReady_any (id f : Int) (B Hb g n cap p : Nat) (S : Nat → Sl) (sa : Option Addr) (m sc : Nat) (Y : Nat → Sy) (F1 F2 : Nat → Prop) (y : Sy) (v9 : Value) (w : World) (h : Hr w B Hb id f g n cap p S sa m sc Y F1 F2) (hp : p < n) (hz : (S p).zr.length ≤ 1048576) (hs : (S p).zr.Pairwise (· ≤ ·)) :
  Calls Tryz.prog 110 #[.pointer (some ⟨Hb, 0, none⟩), syV y v9] w fun e w' => e = .returned (.tuple #[]) ∧ ∃ F1', Hr w' B Hb id f g n cap p (slRd S p (putI (S p).zr y.f)) sa m sc Y F1' F2 ∧ Trn w w' (fun x => x = Hb ∨ F1 x ∨ F2 x) ∧ ∀ x, F1' x → F1 x ∨ w.heap.size ≤ x := by
 obtain ⟨A, HA⟩ : ∃ x, Hid (x = w.heap.size) := ⟨_, rfl⟩
 obtain ⟨w0, HW0⟩ : ∃ x, Hid (x = w.alloc (.cells (syC y v9) 31)) := ⟨_, rfl⟩
 have hb0 : Below w.heap.size w w0 := by rw [HW0.out]; exact (Below.refl _ _).alloc (Nat.le_refl _) _
 have RA : Hid (Row w0 A 31 (syC y v9)) := by show Row _ _ _ _; rw [HW0.out, HA.out]; exact Row.new w _ _
 have KH : Hid (Hr w0 B Hb id f g n cap p S sa m sc Y F1 F2) := h.below hb0
 have KB0 : Hid (Below w.heap.size w w0) := hb0
 obtain ⟨G, hsep, hmk⟩ := Ow.mk KH.out.o
 have KG : Hid (Sep (some ⟨g, 0, none⟩) n 13 G F1 ∧ MkS w0 B 42 13 g n cap G (fun i => slD (S i))) := ⟨hsep, hmk⟩
 obtain ⟨vz, cz, fz, oz⟩ := MkS.cell hmk hp (show 12 < 13 by omega)
 have oz' : Ow w0 B (inD (S p).zr) vz (G p 12) := oz
 obtain ⟨az, kz, rfl, _, _⟩ := ints_ow oz'
 obtain ⟨zs, HZ⟩ : ∃ x, Hid (putI (S p).zr y.f = x) := ⟨_, rfl⟩
 have KW : Hid (Calls Tryz.prog 154 #[.slice az (S p).zr.length kz, .int .i64 y.f] w0.drew fun e w' => ∃ a' c', e = .returned (.slice a' zs.length c') ∧ Ow w' B (inD zs) (.slice a' zs.length c') (fun x => G p 12 x ∨ w0.heap.size ≤ x) ∧ Trn w0 w' (G p 12)) := by
  have := withNode_any B az kz (S p).zr y.f (G p 12) w0.drew (oz'.below (below_drew w0)) KH.out.b.2 hz hs
  rw [HZ.out] at this
  refine Calls.mono this ?_
  rintro e w' ⟨a', c', rfl, o', t'⟩
  exact ⟨a', c', rfl, o', (Trn.drew w0 _).trans t'⟩
 rw [HZ.out]
 obtain ⟨N, HN⟩ : ∃ x, Hid ((S p).zr.length = x) := ⟨_, rfl⟩
 rw [HN.out] at KW cz
 have HP : Hid (p < n) := hp
 have y3 := KH.out.r.cell 3
 have x1 := RA.out.cell 1
 simp at y3 x1
 have KFX : Hid (∀ W, Trn w0 W (G p 12) → W.cell? ⟨Hb, 3, none⟩ = some (.pointer (some ⟨g, p * 13, none⟩)) ∧ W.cell? ⟨g, p * 13 + 12, none⟩ = some (.slice az N kz) ∧ W.frozen? ⟨g, p * 13 + 12, none⟩ = false) := fun W hW => by
  have r1 : Row W Hb 156 _ := (hW.block Hb KH.out.r.lt (fun k => KH.out.h1 (KG.out.1.sub p 12 Hb HP.out (by omega) k))).trans KH.out.r
  have q3 := r1.cell 3
  simp at q3
  have hb := hW.block g (MkS.lt KG.out.2).2 (KG.out.1.apart p 12 _ HP.out (by omega) rfl)
  exact ⟨q3, (World.cell?_of_block hb).trans cz, (World.frozen?_of_block hb).trans fz⟩
 have cz1 := cz
 clear h hb0 hsep hmk oz oz' hz hs hp
 go_enter Tryz.func110, Tryz.ntmps110
 go_wp2_with fail
 rw [← HW0.out, ← HA.out]
 go_region_with ((go_at_call 154; refine Calls.mono KW.out ?_; rintro e w7 ⟨a7, c7, rfl, o7, t7⟩; have K7 : Hid (Ow w7 B (inD zs) (.slice a7 zs.length c7) (fun x => G p 12 x ∨ w0.heap.size ≤ x) ∧ Trn w0 w7 (G p 12)) := ⟨o7, t7⟩; obtain ⟨p3, pz, pf⟩ := KFX.out _ t7; clear o7 t7))
 all_goals
  go_wp2_with fail
  go_end0
  have o8 : Ow (w7.setCell ⟨g, p * 13 + 12, none⟩ (.slice a7 zs.length c7)) B (slsD n (slRd S p zs)) (.slice (some ⟨g, 0, none⟩) n cap) (fun x => F1 x ∨ w0.heap.size ≤ x) := (MkS.put KG.out.2 KG.out.1 HP.out (by omega) K7.out.2 K7.out.1 (fun x k => k)).congr (fun i q _ hq => slRd_D S p zs i q hq)
  have t8 : Trn w0 (w7.setCell ⟨g, p * 13 + 12, none⟩ (.slice a7 zs.length c7)) F1 := (K7.out.2.mono (fun x k => KG.out.1.sub p 12 x HP.out (by omega) k)).trans (Trn.set _ _ _ (KG.out.1.head _ rfl))
  obtain ⟨F1', hh, hF⟩ := KH.out.slots t8 o8 (fun x k => k)
  refine ⟨rfl, F1', hh, (Trn.ofBelow _ KB0.out).trans (t8.mono (fun x k => .inr (.inl k))), fun x k => ?_⟩
  rcases hF x k with k | k
  ·exact .inl k
  ·exact .inr (Nat.le_trans KB0.out.size k)
end Go.Proofs.YtcaejlalnjnifaaGreat
