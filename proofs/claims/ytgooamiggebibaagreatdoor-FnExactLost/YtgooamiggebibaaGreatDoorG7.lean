import Derived.Test.YtgooamiggebibaaGreatDoorG5
set_option maxHeartbeats 8000000
set_option maxRecDepth 2000
open Go.ChangeShapes Go.WideShapes Go.ChangeAt Go.RowKit
namespace Go.Proofs.YtgooamiggebibaaGreatDoor
theorem heap_setCells_other (b : Nat) : ∀ (vs : List Value) (o : Nat) (w : World) (j : Nat), j ≠ b → (w.setCells b o vs).heap[j]? = w.heap[j]?
 | [], _, _, _, _ => rfl
 | v :: r, o, w, j, h => by rw [World.setCells, heap_setCells_other b r (o + 1) _ j h]; exact heap_setCell_other w ⟨b, o, none⟩ j v h
theorem size_setCells (b : Nat) : ∀ (vs : List Value) (o : Nat) (w : World), (w.setCells b o vs).heap.size = w.heap.size
 | [], _, _ => rfl
 | v :: r, o, w => by rw [World.setCells, size_setCells b r (o + 1) _]; simp
theorem os_setCells (b : Nat) : ∀ (vs : List Value) (o : Nat) (w : World), (w.setCells b o vs).os = w.os ∧ (w.setCells b o vs).tape = w.tape ∧ (w.setCells b o vs).output = w.output
 | [], _, _ => ⟨rfl, rfl, rfl⟩
 | v :: r, o, w => by rw [World.setCells]; exact os_setCells b r (o + 1) _
theorem below_setCells {B b : Nat} {w0 w : World} (h : Below B w0 w) (hB : B ≤ b) (o : Nat) (vs : List Value) : Below B w0 (w.setCells b o vs) := by
 obtain ⟨h1, h2, h3⟩ := os_setCells b vs o w
 exact h.trans ⟨h1, h2, h3, by rw [size_setCells]; exact Nat.le_refl _, fun j hj => heap_setCells_other b vs o w j (by omega)⟩
theorem trn_setCells (w : World) {F : Nat → Prop} {b : Nat} (hF : F b) (o : Nat) (vs : List Value) : Trn w (w.setCells b o vs) F := by
 obtain ⟨h1, h2, h3⟩ := os_setCells b vs o w
 exact ⟨h1, h2, h3, by rw [size_setCells]; exact Nat.le_refl _, fun j _ hn => heap_setCells_other b vs o w j (fun e => by subst e; exact hn hF)⟩
theorem own_setCells {B t sz g n cap i : Nat} (hi : i < n) : ∀ (vs : List Value) (q0 : Nat) (w : World) (c : Nat → Nat → Value), q0 + vs.length = sz → w.ownsRow B t sz (.slice (some ⟨g, 0, none⟩) n cap) n (cL sz c n) →
  (w.setCells g (i * sz + q0) vs).ownsRow B t sz (.slice (some ⟨g, 0, none⟩) n cap) n (cL sz (fun i' q' => if i' = i ∧ q0 ≤ q' then vs.getD (q' - q0) undef else c i' q') n) := by
 intro vs
 induction vs with
 | nil =>
  intro q0 w c hq ho
  have e : cL sz (fun i' q' => if i' = i ∧ q0 ≤ q' then ([] : List Value).getD (q' - q0) undef else c i' q') n = cL sz c n := cL_congr fun i' q' _ hq' => if_neg (fun h => by have := h.2; simp at hq; omega)
  rw [e]
  exact ho
 | cons v r ih =>
  intro q0 w c hq ho
  rw [World.setCells]
  have hq0 : q0 < sz := by simp at hq; omega
  have h1 := (World.ownsRow.stored ho (i * sz + q0) v).1
  rw [cL_set _ _ _ _ _ _ hi hq0] at h1
  have h2 := ih (q0 + 1) _ _ (by simp at hq; omega) h1
  rw [Nat.add_assoc]
  have e : cL sz (fun i' q' => if i' = i ∧ q0 ≤ q' then (v :: r).getD (q' - q0) undef else c i' q') n = cL sz (fun i' q' => if i' = i ∧ q0 + 1 ≤ q' then r.getD (q' - (q0 + 1)) undef else if i' = i ∧ q' = q0 then v else c i' q') n := cL_congr fun i' q' _ hq' => by
   by_cases ei : i' = i
   ·by_cases e1 : q' = q0
    ·subst e1
     rw [if_pos ⟨ei, Nat.le_refl _⟩, if_neg (by omega), if_pos ⟨ei, rfl⟩, Nat.sub_self]
     rfl
    ·by_cases e2 : q0 ≤ q'
     ·obtain ⟨k, rfl⟩ : ∃ k, q' = q0 + 1 + k := ⟨q' - (q0 + 1), by omega⟩
      rw [if_pos ⟨ei, e2⟩, if_pos ⟨ei, by omega⟩, show q0 + 1 + k - q0 = k + 1 by omega, show q0 + 1 + k - (q0 + 1) = k by omega]
      rfl
     ·rw [if_neg (by omega), if_neg (by omega), if_neg (by omega)]
   ·simp [ei]
  rw [e]
  exact h2
theorem Ow.store {w : World} {B t sz g n cap i : Nat} {f : Nat → Nat → Dt} {F F' : Nat → Prop} {vs : List Value} {d : Nat → Dt} {H : Nat → Nat → Prop} (h : Ow w B (.lst t sz n f) (.slice (some ⟨g, 0, none⟩) n cap) F) (hi : i < n) (hl : vs.length = sz)
  (hv : ∀ q, q < sz → Ow w B (d q) (vs.getD q undef) (H q)) (hH : ∀ q x, q < sz → H q x → ¬ F x) (hE : ∀ q q' x, q < sz → q' < sz → H q x → H q' x → q = q') (hF : ∀ x, F x → F' x) (hF' : ∀ q x, q < sz → H q x → F' x) :
  Ow (w.setCells g (i * sz) vs) B (.lst t sz n (fun i' => if i' = i then d else f i')) (.slice (some ⟨g, 0, none⟩) n cap) F' := by
 obtain ⟨a, cap', c, G, e, ho, hs, hr⟩ := h
 cases e
 have hg : F g := hs.head _ rfl
 have e0 := own_setCells hi vs 0 w c (by omega) ho
 rw [Nat.add_zero] at e0
 refine ⟨some ⟨g, 0, none⟩, cap, _, fun i' q' => if i' = i then H q' else G i' q', rfl, e0, ⟨fun x hx => by cases hx; exact hF _ hg, fun i' q' x hi' hq' hx => ?_, fun i' q' x hi' hq' ex hx => ?_, fun i1 q1 i2 q2 x h1 h2 h3 h4 hx hx' => ?_⟩, fun i' q' hi' hq' => ?_⟩
 ·by_cases ei : i' = i
  ·simp only [ei, if_true] at hx; exact hF' _ _ hq' hx
  ·simp only [ei, if_false] at hx; exact hF _ (hs.sub _ _ _ hi' hq' hx)
 ·cases ex
  by_cases ei : i' = i
  ·simp only [ei, if_true] at hx; exact hH _ _ hq' hx hg
  ·simp only [ei, if_false] at hx; exact hs.apart _ _ _ hi' hq' rfl hx
 ·by_cases e1 : i1 = i
  ·by_cases e2 : i2 = i
   ·simp only [e1, e2, if_true] at hx hx'
    exact ⟨by omega, hE _ _ _ h2 h4 hx hx'⟩
   ·simp only [e1, e2, if_true, if_false] at hx hx'
    exact absurd (hs.sub _ _ _ h3 h4 hx') (hH _ _ h2 hx)
  ·by_cases e2 : i2 = i
   ·simp only [e1, e2, if_true, if_false] at hx hx'
    exact absurd (hs.sub _ _ _ h1 h2 hx) (hH _ _ h4 hx')
   ·simp only [e1, e2, if_false] at hx hx'
    exact hs.each _ _ _ _ _ h1 h2 h3 h4 hx hx'
 ·have keep : ∀ {dd : Dt} {v : Value} {K : Nat → Prop}, Ow w B dd v K → (∀ x, K x → x ≠ g) → Ow (w.setCells g (i * sz) vs) B dd v K := fun ho hk => ho.frame fun x hx _ => heap_setCells_other g vs _ w x (hk x hx)
  by_cases ei : i' = i
  ·simp only [ei, true_and, Nat.zero_le, if_true, Nat.sub_zero]
   exact keep (hv q' hq') (fun x hx e => by subst e; exact hH _ _ hq' hx hg)
  ·simp only [ei, false_and, if_false]
   exact keep (hr i' q' hi' hq') (fun x hx e => by subst e; exact hs.apart _ _ _ hi' hq' rfl hx)
theorem ow_made {w : World} {B t sz g n cap : Nat} {F : Nat → Prop} {zs : List Value} {f : Nat → Dt} (ho : w.ownsRow B t sz (.slice (some ⟨g, 0, none⟩) n cap) n (cL sz (fun _ q => zs.getD q undef) n)) (hz : ∀ q, q < sz → Ow w B (f q) (zs.getD q undef) (fun _ => False)) (hF : F g) : Ow w B (.lst t sz n (fun _ => f)) (.slice (some ⟨g, 0, none⟩) n cap) F :=
 ⟨_, cap, _, fun _ _ _ => False, rfl, ho, ⟨fun x e => by cases e; exact hF, fun _ _ _ _ _ h => h.elim, fun _ _ _ _ _ _ h => h, fun _ _ _ _ _ _ _ _ _ h => h.elim⟩, fun _ q _ hq => hz q hq⟩
theorem made_cL {zs : List Value} {n : Nat} (hz : 0 < zs.length) : (madeCells zs.toArray (n * zs.length)).toList = cL zs.length (fun _ q => zs.getD q undef) n := by
 apply List.ext_getElem?
 intro j
 by_cases hj : j < n * zs.length
 ·have h1 := cL_get zs.length (fun _ q => zs.getD q undef) n (j / zs.length) (j % zs.length) ((Nat.div_lt_iff_lt_mul hz).2 hj) (Nat.mod_lt _ hz)
  rw [mid_eq] at h1
  rw [h1]
  have hl := Nat.mod_lt j hz
  simp [madeCells, hj, hl]
 ·rw [List.getElem?_eq_none (by simp [size_madeCells]; omega), List.getElem?_eq_none (by rw [cL_len]; omega)]
theorem cL_snoc (sz : Nat) (c : Nat → Nat → Value) (n : Nat) (vs : List Value) (hz : 0 < sz) (hl : vs.length = sz) : cL sz c n ++ vs = cL sz (fun i q => if i = n then vs.getD q undef else c i q) (n + 1) := by
 apply List.ext_getElem?
 intro j
 by_cases hj : j < (n + 1) * sz
 ·have hd : j / sz < n + 1 := (Nat.div_lt_iff_lt_mul hz).2 hj
  have hm : j % sz < sz := Nat.mod_lt _ hz
  have h2 := cL_get sz (fun i q => if i = n then vs.getD q undef else c i q) (n + 1) (j / sz) (j % sz) hd hm
  rw [mid_eq] at h2
  rw [h2]
  by_cases hn : j < n * sz
  ·have hd' : j / sz < n := (Nat.div_lt_iff_lt_mul hz).2 hn
   have h1 := cL_get sz c n (j / sz) (j % sz) hd' hm
   rw [mid_eq] at h1
   rw [List.getElem?_append_left (by rw [cL_len]; exact hn), h1, if_neg (by omega)]
  ·have hd' : j / sz = n := by
    have : n ≤ j / sz := (Nat.le_div_iff_mul_le hz).2 (by omega)
    omega
   have he := @mid_eq sz j
   rw [hd'] at he
   rw [List.getElem?_append_right (by rw [cL_len]; omega), cL_len, if_pos hd']
   rw [show j - n * sz = j % sz by omega, List.getElem?_eq_getElem (by omega), List.getD_eq_getElem?_getD, List.getElem?_eq_getElem (by omega)]
   rfl
 ·have e : (n + 1) * sz = n * sz + sz := Nat.succ_mul n sz
  rw [List.getElem?_eq_none (by rw [List.length_append, cL_len]; omega), List.getElem?_eq_none (by rw [cL_len]; omega)]
theorem ow_snoc {w w' : World} {B t sz n g cap cp : Nat} {a : Option Addr} {c : Nat → Nat → Value} {G : Nat → Nat → Nat → Prop} {f : Nat → Nat → Dt} {F F' : Nat → Prop} {vs : List Value} {d : Nat → Dt} {H : Nat → Nat → Prop} (hz : 0 < sz)
  (hs : Sep a n sz G F) (hr : ∀ i q, i < n → q < sz → Ow w B (f i q) (c i q) (G i q))
  (hl : vs.length = sz) (hv : ∀ q, q < sz → Ow w B (d q) (vs.getD q undef) (H q)) (hH : ∀ q x, q < sz → H q x → ¬ F x) (hE : ∀ q q' x, q < sz → q' < sz → H q x → H q' x → q = q')
  (h2 : w'.ownsRow B t sz (.slice (some ⟨g, 0, none⟩) (n + 1) cap) (n + 1) (cL sz c n ++ vs)) (h3 : w.grownBy w' (Value.slice a n cp).ownBlock) (h4 : (Value.slice a n cp).ownBlock = some g ∨ g = w.heap.size)
  (hF : ∀ x, F x → x < w.heap.size → F' x) (hF' : ∀ q x, q < sz → H q x → x < w.heap.size → F' x) (hg : F' g) :
  Ow w' B (.lst t sz (n + 1) (fun i => if i = n then d else f i)) (.slice (some ⟨g, 0, none⟩) (n + 1) cap) F' := by
 rw [cL_snoc sz c n vs hz hl] at h2
 have hb' : ∀ x, x < w.heap.size → (∀ y, a = some y → x ≠ y.block) → w'.heap[x]? = w.heap[x]? := fun x hx hy => h3.block x hx fun e => by
  cases a with
  | none => cases e
  | some y => exact hy y rfl (by injection e)
 have hgn : ∀ x, x < w.heap.size → g = x → ∃ y, a = some y ∧ y.block = x := fun x hx e => by
  rcases h4 with h4 | h4
  ·cases a with
   | none => cases h4
   | some y => exact ⟨y, rfl, by injection h4 with h4; omega⟩
  ·omega
 refine ⟨_, cap, _, fun i q x => (if i = n then H q x else G i q x) ∧ B ≤ x ∧ x < w.heap.size, rfl, h2, ⟨fun x hx => by cases hx; exact hg, fun i q x hi hq hx => ?_, fun i q x hi hq ex hx => ?_, fun i q i' q' x hi hq hi' hq' hx hx' => ?_⟩, fun i q hi hq => ?_⟩
 ·obtain ⟨hx, _, hlt⟩ := hx
  by_cases e : i = n
  ·rw [if_pos e] at hx; exact hF' q x hq hx hlt
  ·rw [if_neg e] at hx; exact hF x (hs.sub i q x (by omega) hq hx) hlt
 ·cases ex
  obtain ⟨hx, _, hlt⟩ := hx
  obtain ⟨y, ey, eb⟩ := hgn g hlt rfl
  by_cases e : i = n
  ·rw [if_pos e] at hx
   exact hH q g hq hx (eb ▸ hs.head y ey)
  ·rw [if_neg e] at hx
   exact hs.apart i q y (by omega) hq ey (eb ▸ hx)
 ·obtain ⟨hx, _⟩ := hx
  obtain ⟨hx', _⟩ := hx'
  by_cases e : i = n <;> by_cases e' : i' = n
  ·rw [if_pos e] at hx; rw [if_pos e'] at hx'
   exact ⟨e.trans e'.symm, hE q q' x hq hq' hx hx'⟩
  ·rw [if_pos e] at hx; rw [if_neg e'] at hx'
   exact absurd (hs.sub i' q' x (by omega) hq' hx') (hH q x hq hx)
  ·rw [if_neg e] at hx; rw [if_pos e'] at hx'
   exact absurd (hs.sub i q x (by omega) hq hx) (hH q' x hq' hx')
  ·rw [if_neg e] at hx; rw [if_neg e'] at hx'
   exact hs.each i q i' q' x (by omega) hq (by omega) hq' hx hx'
 ·by_cases e : i = n
  ·simp only [e, if_true]
   refine (hv q hq).cut.frame fun x hx hlt => hb' x hlt fun y ey eb => hH q x hq hx.1 (eb ▸ hs.head y ey)
  ·simp only [e, if_false]
   refine (hr i q (by omega) hq).cut.frame fun x hx hlt => hb' x hlt fun y ey eb => hs.apart i q y (by omega) hq ey (eb ▸ hx.1)
theorem wpList_snoc {P : Program} (w : World) {ops : Array Oper} {rest : List Oper} {o : Oper} {a : Act} {Q : Exit → Act → World → Prop} (hgd : o.guard = none) (s x : Operand) (t : TypeId)
  (ho : o.op = .call { callee := .builtin .append, args := #[s, x], argTypes := #[t, t] })
  (B : Nat) (e : TypeId) (i : TypeInfo) (z : Value) (size bytes : Nat) (ht : P.underlying t = some (.slice e)) (hi : P.info? e = some i) (hz : i.zero = some z)
  (hsize : i.size = size) (hby : i.bytes = bytes) (hzs : z.cells.size = size) (hsz : 0 < size)
  (v : Value) (n : Nat) (f : Nat → Nat → Dt) (F : Nat → Prop) (hs : a.eval s = v) (hO : Ow w B (.lst e size n f) v F)
  (ad : Addr) (c : Nat) (vs : List Value) (hx : a.eval x = .slice (some ad) 1 c) (hl : vs.length = size) (hvs : ∀ j u, vs[j]? = some u → w.cell? (ad.add j) = some u) (h1 : ∀ u ∈ vs, u.oneCell' = true)
  (d : Nat → Dt) (H : Nat → Nat → Prop) (hv : ∀ q, q < size → Ow w B (d q) (vs.getD q undef) (H q)) (hH : ∀ q x, q < size → H q x → ¬ F x) (hE : ∀ q q' x, q < size → q' < size → H q x → H q' x → q = q')
  (h63 : n + 1 ≤ maxLen) (hbytes : (n + 1) * bytes ≤ 140737488355328) (hB : B ≤ w.heap.size)
  (h : ∀ g cap w', Ow w' B (.lst e size (n + 1) (fun i => if i = n then d else f i)) (.slice (some ⟨g, 0, none⟩) (n + 1) cap) (fun x => x < w'.heap.size ∧ ((F x ∨ ∃ q, q < size ∧ H q x) ∨ w.heap.size ≤ x)) → Below B w w' → (∀ x, x < w.heap.size → ¬ F x → w'.heap[x]? = w.heap[x]?) → wpList P ops Q rest (a.put o.dst (.slice (some ⟨g, 0, none⟩) (n + 1) cap)) w') :
  wpList P ops Q (o :: rest) a w := by
 obtain ⟨a0, cp, cc, G, rfl, hown, hsep, hr⟩ := hO
 refine wpList_append_lies w hgd s x t ho B e i z size bytes ht hi hz hsize hby hzs hsz _ n _ hs hown ad 1 c vs hx (by omega) hvs h1 (by omega) h63 hbytes hB w.heap.size rfl fun g cap w' h2 h3 h4 h5 => ?_
 have hsz' := h3.size
 have hk : ∀ k, (Value.slice a0 n cp).ownBlock = some k → F k ∧ B ≤ k ∧ k < w.heap.size := fun k ek => by
  cases a0 with
  | none => cases ek
  | some y =>
   have e1 : y.block = k := by injection ek
   subst e1
   exact ⟨hsep.head y rfl, World.ownsRow.lt hown y.block rfl⟩
 refine h g cap w' (ow_snoc hsz hsep hr hl hv hH hE h2 h3 h4 (fun x hx hlt => ⟨by omega, .inl (.inl hx)⟩) (fun q x hq hx hlt => ⟨by omega, .inl (.inr ⟨q, hq, hx⟩)⟩) ⟨h5, ?_⟩) ((Below.refl _ _).grown h3 hB fun k ek => (hk k ek).2.1) fun x hx hn => h3.block x hx fun ek => hn (hk x ek.symm).1
 rcases h4 with h4 | h4
 ·exact .inl (.inl (hk g h4).1)
 ·exact .inr (by omega)
end Go.Proofs.YtgooamiggebibaaGreatDoor
