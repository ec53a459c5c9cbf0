import Derived.Test.YtcaejlalnjnifaaGreatA8
import Derived.Test.YtcaejlalnjnifaaGreatA5
import Derived.Deep.AppendLies
set_option maxHeartbeats 8000000
set_option maxRecDepth 2000
open Go.ChangeShapes Go.WideShapes Go.ChangeAt Go.RowKit
namespace Go.Proofs.YtcaejlalnjnifaaGreat
theorem cL_snoc (sz : Nat) (c : Nat → Nat → Value) (n : Nat) (vs : List Value) (hz : 0 < sz) (hl : vs.length = sz) : cL sz c n ++ vs = cL sz (fun i q => if i = n then vs.getD q undef else c i q) (n + 1) := by
 apply List.ext_getElem?
 intro j
 by_cases hj : j < (n + 1) * sz
 ·have hd : j / sz < n + 1 := (Nat.div_lt_iff_lt_mul hz).2 hj
  have hm : j % sz < sz := Nat.mod_lt _ hz
  have h2 := cL_get sz (fun i q => if i = n then vs.getD q undef else c i q) (n + 1) (j / sz) (j % sz) hd hm
  rw [mid_eq] at h2
  rw [h2]
  by_cases hn : j < n * sz
  ·have hd' : j / sz < n := (Nat.div_lt_iff_lt_mul hz).2 hn
   have h1 := cL_get sz c n (j / sz) (j % sz) hd' hm
   rw [mid_eq] at h1
   rw [List.getElem?_append_left (by rw [cL_len]; exact hn), h1, if_neg (by omega)]
  ·have hd' : j / sz = n := by
    have : n ≤ j / sz := (Nat.le_div_iff_mul_le hz).2 (by omega)
    omega
   have he := @mid_eq sz j
   rw [hd'] at he
   rw [List.getElem?_append_right (by rw [cL_len]; omega), cL_len, if_pos hd']
   rw [show j - n * sz = j % sz by omega, List.getElem?_eq_getElem (by omega), List.getD_eq_getElem?_getD, List.getElem?_eq_getElem (by omega)]
   rfl
 ·have e : (n + 1) * sz = n * sz + sz := Nat.succ_mul n sz
  rw [List.getElem?_eq_none (by rw [List.length_append, cL_len]; omega), List.getElem?_eq_none (by rw [cL_len]; omega)]
theorem ow_snoc {w w' : World} {B t sz n g cap cp : Nat} {a : Option Addr} {c : Nat → Nat → Value} {G : Nat → Nat → Nat → Prop} {f : Nat → Nat → Dt} {F F' : Nat → Prop} {vs : List Value} {d : Nat → Dt} {H : Nat → Nat → Prop} (hz : 0 < sz)
  (hs : Sep a n sz G F) (hr : ∀ i q, i < n → q < sz → Ow w B (f i q) (c i q) (G i q))
  (hl : vs.length = sz) (hv : ∀ q, q < sz → Ow w B (d q) (vs.getD q undef) (H q)) (hH : ∀ q x, q < sz → H q x → ¬ F x) (hE : ∀ q q' x, q < sz → q' < sz → H q x → H q' x → q = q')
  (h2 : w'.ownsRow B t sz (.slice (some ⟨g, 0, none⟩) (n + 1) cap) (n + 1) (cL sz c n ++ vs)) (h3 : w.grownBy w' (Value.slice a n cp).ownBlock) (h4 : (Value.slice a n cp).ownBlock = some g ∨ g = w.heap.size)
  (hF : ∀ x, F x → x < w.heap.size → F' x) (hF' : ∀ q x, q < sz → H q x → x < w.heap.size → F' x) (hg : F' g) :
  Ow w' B (.lst t sz (n + 1) (fun i => if i = n then d else f i)) (.slice (some ⟨g, 0, none⟩) (n + 1) cap) F' := by
 rw [cL_snoc sz c n vs hz hl] at h2
 have hb' : ∀ x, x < w.heap.size → (∀ y, a = some y → x ≠ y.block) → w'.heap[x]? = w.heap[x]? := fun x hx hy => h3.block x hx fun e => by
  cases a with
  | none => cases e
  | some y => exact hy y rfl (by injection e)
 have hgn : ∀ x, x < w.heap.size → g = x → ∃ y, a = some y ∧ y.block = x := fun x hx e => by
  rcases h4 with h4 | h4
  ·cases a with
   | none => cases h4
   | some y => exact ⟨y, rfl, by injection h4 with h4; omega⟩
  ·omega
 refine ⟨_, cap, _, fun i q x => (if i = n then H q x else G i q x) ∧ B ≤ x ∧ x < w.heap.size, rfl, h2, ⟨fun x hx => by cases hx; exact hg, fun i q x hi hq hx => ?_, fun i q x hi hq ex hx => ?_, fun i q i' q' x hi hq hi' hq' hx hx' => ?_⟩, fun i q hi hq => ?_⟩
 ·obtain ⟨hx, _, hlt⟩ := hx
  by_cases e : i = n
  ·rw [if_pos e] at hx; exact hF' q x hq hx hlt
  ·rw [if_neg e] at hx; exact hF x (hs.sub i q x (by omega) hq hx) hlt
 ·cases ex
  obtain ⟨hx, _, hlt⟩ := hx
  obtain ⟨y, ey, eb⟩ := hgn g hlt rfl
  by_cases e : i = n
  ·rw [if_pos e] at hx
   exact hH q g hq hx (eb ▸ hs.head y ey)
  ·rw [if_neg e] at hx
   exact hs.apart i q y (by omega) hq ey (eb ▸ hx)
 ·obtain ⟨hx, _⟩ := hx
  obtain ⟨hx', _⟩ := hx'
  by_cases e : i = n <;> by_cases e' : i' = n
  ·rw [if_pos e] at hx; rw [if_pos e'] at hx'
   exact ⟨e.trans e'.symm, hE q q' x hq hq' hx hx'⟩
  ·rw [if_pos e] at hx; rw [if_neg e'] at hx'
   exact absurd (hs.sub i' q' x (by omega) hq' hx') (hH q x hq hx)
  ·rw [if_neg e] at hx; rw [if_pos e'] at hx'
   exact absurd (hs.sub i q x (by omega) hq hx) (hH q' x hq' hx')
  ·rw [if_neg e] at hx; rw [if_neg e'] at hx'
   exact hs.each i q i' q' x (by omega) hq (by omega) hq' hx hx'
 ·by_cases e : i = n
  ·simp only [e, if_true]
   refine (hv q hq).cut.frame fun x hx hlt => hb' x hlt fun y ey eb => hH q x hq hx.1 (eb ▸ hs.head y ey)
  ·simp only [e, if_false]
   refine (hr i q (by omega) hq).cut.frame fun x hx hlt => hb' x hlt fun y ey eb => hs.apart i q y (by omega) hq ey (eb ▸ hx.1)
theorem wpList_snoc {P : Program} (w : World) {ops : Array Oper} {rest : List Oper} {o : Oper} {a : Act} {Q : Exit → Act → World → Prop} (hgd : o.guard = none) (s x : Operand) (t : TypeId)
  (ho : o.op = .call { callee := .builtin .append, args := #[s, x], argTypes := #[t, t] })
  (B : Nat) (e : TypeId) (i : TypeInfo) (z : Value) (size bytes : Nat) (ht : P.underlying t = some (.slice e)) (hi : P.info? e = some i) (hz : i.zero = some z)
  (hsize : i.size = size) (hby : i.bytes = bytes) (hzs : z.cells.size = size) (hsz : 0 < size)
  (v : Value) (n : Nat) (f : Nat → Nat → Dt) (F : Nat → Prop) (hs : a.eval s = v) (hO : Ow w B (.lst e size n f) v F)
  (ad : Addr) (c : Nat) (vs : List Value) (hx : a.eval x = .slice (some ad) 1 c) (hl : vs.length = size) (hvs : ∀ j u, vs[j]? = some u → w.cell? (ad.add j) = some u) (h1 : ∀ u ∈ vs, u.oneCell' = true)
  (d : Nat → Dt) (H : Nat → Nat → Prop) (hv : ∀ q, q < size → Ow w B (d q) (vs.getD q undef) (H q)) (hH : ∀ q x, q < size → H q x → ¬ F x) (hE : ∀ q q' x, q < size → q' < size → H q x → H q' x → q = q')
  (h63 : n + 1 ≤ maxLen) (hbytes : (n + 1) * bytes ≤ 140737488355328) (hB : B ≤ w.heap.size)
  (h : ∀ g cap w', Ow w' B (.lst e size (n + 1) (fun i => if i = n then d else f i)) (.slice (some ⟨g, 0, none⟩) (n + 1) cap) (fun x => x < w'.heap.size ∧ ((F x ∨ ∃ q, q < size ∧ H q x) ∨ w.heap.size ≤ x)) → Below B w w' → (∀ x, x < w.heap.size → ¬ F x → w'.heap[x]? = w.heap[x]?) → wpList P ops Q rest (a.put o.dst (.slice (some ⟨g, 0, none⟩) (n + 1) cap)) w') :
  wpList P ops Q (o :: rest) a w := by
 obtain ⟨a0, cp, cc, G, rfl, hown, hsep, hr⟩ := hO
 refine wpList_append_lies w hgd s x t ho B e i z size bytes ht hi hz hsize hby hzs hsz _ n _ hs hown ad 1 c vs hx (by omega) hvs h1 (by omega) h63 hbytes hB w.heap.size rfl fun g cap w' h2 h3 h4 h5 => ?_
 have hsz' := h3.size
 have hk : ∀ k, (Value.slice a0 n cp).ownBlock = some k → F k ∧ B ≤ k ∧ k < w.heap.size := fun k ek => by
  cases a0 with
  | none => cases ek
  | some y =>
   have e1 : y.block = k := by injection ek
   subst e1
   exact ⟨hsep.head y rfl, World.ownsRow.lt hown y.block rfl⟩
 refine h g cap w' (ow_snoc hsz hsep hr hl hv hH hE h2 h3 h4 (fun x hx hlt => ⟨by omega, .inl (.inl hx)⟩) (fun q x hq hx hlt => ⟨by omega, .inl (.inr ⟨q, hq, hx⟩)⟩) ⟨h5, ?_⟩) ((Below.refl _ _).grown h3 hB fun k ek => (hk k ek).2.1) fun x hx hn => h3.block x hx fun ek => hn (hk x ek.symm).1
 rcases h4 with h4 | h4
 ·exact .inl (.inl (hk g h4).1)
 ·exact .inr (by omega)
theorem wp_snoc {P : Program} (w : World) {o : Oper} {a : Act} {K : Act → World → Prop} {Q : Exit → Act → World → Prop} (s x : Operand) (t : TypeId)
  (ho : o.op = .call { callee := .builtin .append, args := #[s, x], argTypes := #[t, t] })
  (B : Nat) (e : TypeId) (i : TypeInfo) (z : Value) (size bytes : Nat) (ht : P.underlying t = some (.slice e)) (hi : P.info? e = some i) (hz : i.zero = some z)
  (hsize : i.size = size) (hby : i.bytes = bytes) (hzs : z.cells.size = size) (hsz : 0 < size)
  (v : Value) (n : Nat) (f : Nat → Nat → Dt) (F : Nat → Prop) (hs : a.eval s = v) (hO : Ow w B (.lst e size n f) v F)
  (ad : Addr) (c : Nat) (vs : List Value) (hx : a.eval x = .slice (some ad) 1 c) (hl : vs.length = size) (hvs : ∀ j u, vs[j]? = some u → w.cell? (ad.add j) = some u) (h1 : ∀ u ∈ vs, u.oneCell' = true)
  (d : Nat → Dt) (H : Nat → Nat → Prop) (hv : ∀ q, q < size → Ow w B (d q) (vs.getD q undef) (H q)) (hH : ∀ q x, q < size → H q x → ¬ F x) (hE : ∀ q q' x, q < size → q' < size → H q x → H q' x → q = q')
  (h63 : n + 1 ≤ maxLen) (hbytes : (n + 1) * bytes ≤ 140737488355328) (hB : B ≤ w.heap.size)
  (h : ∀ g cap w', Ow w' B (.lst e size (n + 1) (fun i => if i = n then d else f i)) (.slice (some ⟨g, 0, none⟩) (n + 1) cap) (fun x => x < w'.heap.size ∧ ((F x ∨ ∃ q, q < size ∧ H q x) ∨ w.heap.size ≤ x)) → Below B w w' → Trn w w' F → K (a.put o.dst (.slice (some ⟨g, 0, none⟩) (n + 1) cap)) w') :
  o.wp P a w K Q := by
 obtain ⟨a0, cp, cc, G, rfl, hown, hsep, hr⟩ := hO
 refine wp_append_lies w s x t ho B e i z size bytes ht hi hz hsize hby hzs hsz _ n _ hs hown ad 1 c vs hx (by omega) hvs h1 (by omega) h63 hbytes hB w.heap.size rfl fun g cap w' h2 h3 h4 h5 => ?_
 have hsz' := h3.size
 have hk : ∀ k, (Value.slice a0 n cp).ownBlock = some k → F k ∧ B ≤ k ∧ k < w.heap.size := fun k ek => by
  cases a0 with
  | none => cases ek
  | some y =>
   have e1 : y.block = k := by injection ek
   subst e1
   exact ⟨hsep.head y rfl, World.ownsRow.lt hown y.block rfl⟩
 refine h g cap w' (ow_snoc hsz hsep hr hl hv hH hE h2 h3 h4 (fun x hx hlt => ⟨by omega, .inl (.inl hx)⟩) (fun q x hq hx hlt => ⟨by omega, .inl (.inr ⟨q, hq, hx⟩)⟩) ⟨h5, ?_⟩) ((Below.refl _ _).grown h3 hB fun k ek => (hk k ek).2.1) ⟨h3.os, h3.tape, h3.output, h3.size, fun x hx hn => h3.block x hx fun ek => hn (hk x ek.symm).1⟩
 rcases h4 with h4 | h4
 ·exact .inl (.inl (hk g h4).1)
 ·exact .inr (by omega)
end Go.Proofs.YtcaejlalnjnifaaGreat
