import Derived.Test.YtcaejlalnjnifaaGreatA31
import Derived.Test.YtcaejlalnjnifaaGreatA32
import Derived.Test.YtcaejlalnjnifaaGreatA23
import Derived.Test.YtcaejlalnjnifaaGreatA26
import Derived.Test.YtcaejlalnjnifaaGreatA27
import Derived.Deep.CutRange
set_option maxHeartbeats 8000000
set_option maxRecDepth 2000
open Go.ChangeShapes Go.WideShapes Go.ChangeAt Go.RowKit
namespace Go.Proofs.YtcaejlalnjnifaaGreat
theorem Hr.flag {W : World} {B Hb : Nat} {id f : Int} {g n cap p : Nat} {S S' : Nat → Sl} {sa : Option Addr} {m sc : Nat} {Y : Nat → Sy} {F1 F2 : Nat → Prop} (h : Hr W B Hb id f g n cap p S sa m sc Y F1 F2) (hp : p < n) (q : Nat) (hq : q < 13) (b : Bool) (hS : ∀ i q', q' < 13 → (if i = p ∧ q' = q then Dt.val (.bool b) else slD (S i) q') = slD (S' i) q') :
  ∃ F1', Hr (W.setCell ⟨g, p * 13 + q, none⟩ (.bool b)) B Hb id f g n cap p S' sa m sc Y F1' F2 ∧ (∀ x, F1' x → F1 x ∨ W.heap.size ≤ x) ∧ Trn W (W.setCell ⟨g, p * 13 + q, none⟩ (.bool b)) F1 := by
 obtain ⟨G, hsep, hmk⟩ := Ow.mk h.o
 have o8 : Ow (W.setCell ⟨g, p * 13 + q, none⟩ (.bool b)) B (slsD n S') (.slice (some ⟨g, 0, none⟩) n cap) (fun x => F1 x ∨ W.heap.size ≤ x) := (MkS.put hmk hsep hp hq (Trn.refl W _) (d' := .val (.bool b)) (v' := .bool b) (H := fun _ => False) rfl (fun x k => k.elim)).congr (fun i q' _ hq' => hS i q' hq')
 have t8 : Trn W (W.setCell ⟨g, p * 13 + q, none⟩ (.bool b)) F1 := Trn.set _ _ _ (hsep.head _ rfl)
 obtain ⟨F1', hh, hF⟩ := h.slots t8 o8 (fun x k => k)
 exact ⟨F1', hh, hF, t8⟩
theorem Hr.slotc {W : World} {B Hb : Nat} {id f : Int} {g n cap p : Nat} {S : Nat → Sl} {sa : Option Addr} {m sc : Nat} {Y : Nat → Sy} {F1 F2 : Nat → Prop} (h : Hr W B Hb id f g n cap p S sa m sc Y F1 F2) (hp : p < n) (q : Nat) (hq : q < 13) : ∃ v, W.cell? ⟨g, p * 13 + q, none⟩ = some v ∧ W.frozen? ⟨g, p * 13 + q, none⟩ = false ∧ Rd W (slD (S p) q) v := by
 obtain ⟨G, hsep, hmk⟩ := Ow.mk h.o
 obtain ⟨v, c, fz, o⟩ := MkS.cell hmk hp hq
 exact ⟨v, c, fz, o.rd⟩
def slDn (S : Nat → Sl) (p : Nat) (b : Bool) (i : Nat) : Sl := if i = p then { S p with o := b } else S i
def slRy (S : Nat → Sl) (p : Nat) (i : Nat) : Sl := if i = p then { S p with d := true } else S i
theorem slDn_D (S : Nat → Sl) (p : Nat) (b : Bool) (i q : Nat) (hq : q < 13) : (if i = p ∧ q = 10 then Dt.val (.bool b) else slD (S i) q) = slD (slDn S p b i) q := by
 unfold slDn
 by_cases e : i = p
 ·subst e
  match q, hq with
  | 0, _ | 1, _ | 2, _ | 3, _ | 4, _ | 5, _ | 6, _ | 7, _ | 8, _ | 9, _ | 10, _ | 11, _ | 12, _ => simp [slD]
 ·simp [e]
theorem slRy_D (S : Nat → Sl) (p i q : Nat) (hq : q < 13) : (if i = p ∧ q = 9 then Dt.val (.bool true) else slD (S i) q) = slD (slRy S p i) q := by
 unfold slRy
 by_cases e : i = p
 ·subst e
  match q, hq with
  | 0, _ | 1, _ | 2, _ | 3, _ | 4, _ | 5, _ | 6, _ | 7, _ | 8, _ | 9, _ | 10, _ | 11, _ | 12, _ => simp [slD]
 ·simp [e]
theorem settle0_any (id f : Int) (B Hb g n cap p : Nat) (S : Nat → Sl) (sa : Option Addr) (m sc : Nat) (Y : Nat → Sy) (F1 F2 : Nat → Prop) (st : Int) (w : World) (h : Hr w B Hb id f g n cap p S sa m sc Y F1 F2) (hf : 1 ≤ f ∧ f ≤ 3) (hp : p < n) (hst : stI f (S p).ze.length (S p).zr.length = st) :
  Calls Tryz.prog 112 #[.pointer (some ⟨Hb, 0, none⟩), .int .i64 0] w fun e w' => e = .returned (.tuple #[]) ∧ Hr w' B Hb id f g n cap p S sa m sc Y F1 F2 ∧ Trn w w' (fun x => x = Hb ∨ F1 x ∨ F2 x) := by
 obtain ⟨b1, o1, y, a6, a11, a12, c6, c11, c12, e1, hc, ey, _, _, _⟩ := slot_row h.o.rd hp
 cases e1
 have KH : Hid (Hr w B Hb id f g n cap p S sa m sc Y F1 F2) := h
 have HP : Hid (p < n) := hp
 have KS : Hid (∀ W, Below w.heap.size w W → (W.cell? ⟨Hb, 0, none⟩ = some (.int .i64 id) ∧ W.cell? ⟨Hb, 1, none⟩ = some (.int .i64 f) ∧ W.cell? ⟨Hb, 2, none⟩ = some (.slice (some ⟨g, 0, none⟩) n cap) ∧ W.cell? ⟨Hb, 3, none⟩ = some (.pointer (some ⟨g, p * 13, none⟩))) ∧ W.cell? ⟨g, p * 13, none⟩ = some (y 0) ∧ ∀ q, q < 13 → W.cell? ⟨g, p * 13 + q, none⟩ = some (y q)) := fun W hW => by
  have r := (KH.out.below hW).r
  have z0 := r.cell 0
  have z1 := r.cell 1
  have z2 := r.cell 2
  have z3 := r.cell 3
  simp at z0 z1 z2 z3
  have hq : ∀ q, q < 13 → W.cell? ⟨g, p * 13 + q, none⟩ = some (y q) := fun q hq => by
   have h1 := hc q hq
   rw [Nat.zero_add] at h1
   exact (hW.cell (block_lt_of_cell h1)).trans h1
  exact ⟨⟨z0, z1, z2, z3⟩, hq 0 (by omega), hq⟩
 have KT : Hid (∀ W, Calls Tryz.prog 118 #[ndV id f (.slice (some ⟨g, 0, none⟩) n cap), ag13 y] W fun e w' => e = .returned (.int .i64 st) ∧ Below W.heap.size W w') := fun W => by
  rw [ey, ← hst]
  exact stateOf_any id f _ (S p) _ a11 a12 _ _ c11 c12 W hf
 have hdr := below_drew w
 clear h hc ey hst hf hp
 go_enter Tryz.func112, Tryz.ntmps112
 go_wp2_with fail
 go_region_held3 (fun w' => (w'.cell? ⟨Hb, 0, none⟩ = some (.int .i64 id) ∧ w'.cell? ⟨Hb, 1, none⟩ = some (.int .i64 f) ∧ w'.cell? ⟨Hb, 2, none⟩ = some (.slice (some ⟨g, 0, none⟩) n cap) ∧ w'.cell? ⟨Hb, 3, none⟩ = some (.pointer (some ⟨g, p * 13, none⟩))) ∧ w'.cell? ⟨g, p * 13, none⟩ = some (y 0) ∧ ∀ q, q < 13 → w'.cell? ⟨g, p * 13 + q, none⟩ = some (y q)) (exact KS.out _ (by assumption)) ((go_at_call 118; refine Calls.mono (KT.out _) ?_; rintro e w7 ⟨rfl, b7'⟩; have b7 := below_of_drew b7'; clear b7'))
 have KZ : Hid (Hr w7 B Hb id f g n cap p S sa m sc Y F1 F2 ∧ Trn w w7 (fun x => x = Hb ∨ F1 x ∨ F2 x)) := ⟨KH.out.below b7, Trn.ofBelow _ b7⟩
 clear b7
 go_wp2
 go_end0
 exact ⟨rfl, KZ.out⟩
theorem settle1n_any (id f : Int) (B Hb g n cap p : Nat) (S : Nat → Sl) (sa : Option Addr) (m sc : Nat) (Y : Nat → Sy) (F1 F2 : Nat → Prop) (st : Int) (w : World) (h : Hr w B Hb id f g n cap p S sa m sc Y F1 F2) (hf : 1 ≤ f ∧ f ≤ 3) (hp : p < n) (hst : stI f (S p).ze.length (S p).zr.length = st) (hn : st < 1 ∨ (S p).d = true) :
  Calls Tryz.prog 112 #[.pointer (some ⟨Hb, 0, none⟩), .int .i64 1] w fun e w' => e = .returned (.tuple #[]) ∧ Hr w' B Hb id f g n cap p S sa m sc Y F1 F2 ∧ Trn w w' (fun x => x = Hb ∨ F1 x ∨ F2 x) := by
 obtain ⟨b1, o1, y, a6, a11, a12, c6, c11, c12, e1, hc, ey, _, _, _⟩ := slot_row h.o.rd hp
 cases e1
 have KH : Hid (Hr w B Hb id f g n cap p S sa m sc Y F1 F2) := h
 have HP : Hid (p < n) := hp
 have KS : Hid (∀ W, Below w.heap.size w W → (W.cell? ⟨Hb, 0, none⟩ = some (.int .i64 id) ∧ W.cell? ⟨Hb, 1, none⟩ = some (.int .i64 f) ∧ W.cell? ⟨Hb, 2, none⟩ = some (.slice (some ⟨g, 0, none⟩) n cap) ∧ W.cell? ⟨Hb, 3, none⟩ = some (.pointer (some ⟨g, p * 13, none⟩))) ∧ W.cell? ⟨g, p * 13, none⟩ = some (y 0) ∧ ∀ q, q < 13 → W.cell? ⟨g, p * 13 + q, none⟩ = some (y q)) := fun W hW => by
  have r := (KH.out.below hW).r
  have z0 := r.cell 0
  have z1 := r.cell 1
  have z2 := r.cell 2
  have z3 := r.cell 3
  simp at z0 z1 z2 z3
  have hq : ∀ q, q < 13 → W.cell? ⟨g, p * 13 + q, none⟩ = some (y q) := fun q hq => by
   have h1 := hc q hq
   rw [Nat.zero_add] at h1
   exact (hW.cell (block_lt_of_cell h1)).trans h1
  exact ⟨⟨z0, z1, z2, z3⟩, hq 0 (by omega), hq⟩
 have KT : Hid (∀ W, Calls Tryz.prog 118 #[ndV id f (.slice (some ⟨g, 0, none⟩) n cap), ag13 y] W fun e w' => e = .returned (.int .i64 st) ∧ Below W.heap.size W w') := fun W => by
  rw [ey, ← hst]
  exact stateOf_any id f _ (S p) _ a11 a12 _ _ c11 c12 W hf
 have hdr := below_drew w
 have yd : Hid (y 9 = .bool (S p).d) := by
  show y 9 = .bool (S p).d
  have := ag13_list ey
  simp at this
  exact this.2.2.2.2.2.2.2.2.2.1
 clear h hc ey hst hf hp
 go_enter Tryz.func112, Tryz.ntmps112
 go_wp2_with fail
 go_region_held3 (fun w' => (w'.cell? ⟨Hb, 0, none⟩ = some (.int .i64 id) ∧ w'.cell? ⟨Hb, 1, none⟩ = some (.int .i64 f) ∧ w'.cell? ⟨Hb, 2, none⟩ = some (.slice (some ⟨g, 0, none⟩) n cap) ∧ w'.cell? ⟨Hb, 3, none⟩ = some (.pointer (some ⟨g, p * 13, none⟩))) ∧ w'.cell? ⟨g, p * 13, none⟩ = some (y 0) ∧ ∀ q, q < 13 → w'.cell? ⟨g, p * 13 + q, none⟩ = some (y q)) (exact KS.out _ (by assumption)) ((go_at_call 118; refine Calls.mono (KT.out _) ?_; rintro e w7 ⟨rfl, b7'⟩; have b7 := below_of_drew b7'; clear b7'))
 have r7 := KS.out _ b7
 obtain ⟨⟨_, _, _, z3⟩, _, hz⟩ := r7
 have z9 := hz 9 (by omega)
 have ydo := yd.out
 rw [ydo] at z9
 have KZ : Hid (Hr w7 B Hb id f g n cap p S sa m sc Y F1 F2 ∧ Trn w w7 (fun x => x = Hb ∨ F1 x ∨ F2 x)) := ⟨KH.out.below b7, Trn.ofBelow _ b7⟩
 clear b7
 clear hz
 by_cases hs : 1 ≤ st
 ·have hd : (S p).d = true := by rcases hn with h | h; omega; exact h
  rw [hd] at z9 ydo
  clear hn
  go_wp2
  go_end0
  exact ⟨rfl, KZ.out⟩
 ·clear hn z9
  go_wp2
  go_end0
  exact ⟨rfl, KZ.out⟩
theorem settle1y_any (id f : Int) (B Hb g n cap p : Nat) (S : Nat → Sl) (sa : Option Addr) (m sc : Nat) (Y : Nat → Sy) (F1 F2 : Nat → Prop) (n3 : Nat) (st : Int) (w : World) (h : Hr w B Hb id f g n cap p S sa m sc Y F1 F2) (hf : 1 ≤ f ∧ f ≤ 3) (hp : p < n) (hst : stI f (S p).ze.length (S p).zr.length = st) (hs : 1 ≤ st) (hd0 : (S p).d = false) (hm : m ≤ 1048576) (hr : (S p).r.size ≤ 1048576) (hn3 : (n3 : Int) = 3 * f + 1) :
  Calls Tryz.prog 112 #[.pointer (some ⟨Hb, 0, none⟩), .int .i64 1] w fun e w' => e = .returned (.tuple #[]) ∧ ∃ sa' sc' F1' F2', Hr w' B Hb id f g n cap p (slRy S p) sa' (m + n3) sc' (syM Y m 2 id (S p).r) F1' F2' ∧ Trn w w' (fun x => x = Hb ∨ F1 x ∨ F2 x) ∧ (∀ x, F1' x → F1 x ∨ w.heap.size ≤ x) ∧ ∀ x, F2' x → F2 x ∨ w.heap.size ≤ x := by
 obtain ⟨b1, o1, y, a6, a11, a12, c6, c11, c12, e1, hc, ey, _, _, _⟩ := slot_row h.o.rd hp
 cases e1
 have KH : Hid (Hr w B Hb id f g n cap p S sa m sc Y F1 F2) := h
 have HP : Hid (p < n) := hp
 have KS : Hid (∀ W, Below w.heap.size w W → (W.cell? ⟨Hb, 0, none⟩ = some (.int .i64 id) ∧ W.cell? ⟨Hb, 1, none⟩ = some (.int .i64 f) ∧ W.cell? ⟨Hb, 2, none⟩ = some (.slice (some ⟨g, 0, none⟩) n cap) ∧ W.cell? ⟨Hb, 3, none⟩ = some (.pointer (some ⟨g, p * 13, none⟩))) ∧ W.cell? ⟨g, p * 13, none⟩ = some (y 0) ∧ ∀ q, q < 13 → W.cell? ⟨g, p * 13 + q, none⟩ = some (y q)) := fun W hW => by
  have r := (KH.out.below hW).r
  have z0 := r.cell 0
  have z1 := r.cell 1
  have z2 := r.cell 2
  have z3 := r.cell 3
  simp at z0 z1 z2 z3
  have hq : ∀ q, q < 13 → W.cell? ⟨g, p * 13 + q, none⟩ = some (y q) := fun q hq => by
   have h1 := hc q hq
   rw [Nat.zero_add] at h1
   exact (hW.cell (block_lt_of_cell h1)).trans h1
  exact ⟨⟨z0, z1, z2, z3⟩, hq 0 (by omega), hq⟩
 have KT : Hid (∀ W, Calls Tryz.prog 118 #[ndV id f (.slice (some ⟨g, 0, none⟩) n cap), ag13 y] W fun e w' => e = .returned (.int .i64 st) ∧ Below W.heap.size W w') := fun W => by
  rw [ey, ← hst]
  exact stateOf_any id f _ (S p) _ a11 a12 _ _ c11 c12 W hf
 have hdr := below_drew w
 have yd : Hid (y 9 = .bool false) := by
  show y 9 = .bool false
  have := ag13_list ey
  simp at this
  rw [← hd0]
  exact this.2.2.2.2.2.2.2.2.2.1
 have hd : Hid ((S p).d = false) := hd0
 clear hd0
 have KSA : Hid (∀ W F1', Hr W B Hb id f g n cap p (slRy S p) sa m sc Y F1' F2 → Calls Tryz.prog 153 #[.pointer (some ⟨Hb, 0, none⟩), .int .i64 2] W fun e w' => e = .returned (.tuple #[]) ∧ ∃ sa' sc' F2', Hr w' B Hb id f g n cap p (slRy S p) sa' (m + n3) sc' (syM Y m 2 id (S p).r) F1' F2' ∧ Trn W w' (fun x => x = Hb ∨ F2 x) ∧ ∀ x, F2' x → F2 x ∨ W.heap.size ≤ x) := fun W F1' hW => by
  have er : (slRy S p p).r = (S p).r := by unfold slRy; rw [if_pos rfl]
  have := sayToAll_any 2 id f B Hb g n cap p (slRy S p) sa m sc Y F1' F2 n3 W hW hf hp hm (by rw [er]; exact hr) hn3
  rw [er] at this
  exact this
 clear h hc ey hst hf hp hr hn3
 go_enter Tryz.func112, Tryz.ntmps112
 go_wp2_with fail
 go_region_held3 (fun w' => (w'.cell? ⟨Hb, 0, none⟩ = some (.int .i64 id) ∧ w'.cell? ⟨Hb, 1, none⟩ = some (.int .i64 f) ∧ w'.cell? ⟨Hb, 2, none⟩ = some (.slice (some ⟨g, 0, none⟩) n cap) ∧ w'.cell? ⟨Hb, 3, none⟩ = some (.pointer (some ⟨g, p * 13, none⟩))) ∧ w'.cell? ⟨g, p * 13, none⟩ = some (y 0) ∧ ∀ q, q < 13 → w'.cell? ⟨g, p * 13 + q, none⟩ = some (y q)) (exact KS.out _ (by assumption)) ((go_at_call 118; refine Calls.mono (KT.out _) ?_; rintro e w7 ⟨rfl, b7'⟩; have b7 := below_of_drew b7'; clear b7'))
 obtain ⟨⟨_, _, _, z3⟩, _, hz⟩ := KS.out _ b7
 have z9 := hz 9 (by omega)
 have ydo := yd.out
 rw [ydo] at z9
 obtain ⟨_, _, f9, _⟩ := (KH.out.below b7).slotc HP.out 9 (by omega)
 obtain ⟨w8, HW8⟩ : ∃ x, Hid (x = w7.setCell ⟨g, p * 13 + 9, none⟩ (.bool true)) := ⟨_, rfl⟩
 obtain ⟨F1', q8, q9, q10⟩ := (KH.out.below b7).flag HP.out 9 (by omega) true (slRy_D S p)
 rw [← HW8.out] at q8 q10
 have K8 : Hid (Below w.heap.size w w7 ∧ (∀ x, F1' x → F1 x ∨ w7.heap.size ≤ x) ∧ Trn w7 w8 F1) := ⟨b7, q9, q10⟩
 have KC8 : Hid _ := KSA.out w8 F1' q8
 clear hz b7 q8 q9 q10
 go_wp2_with fail
 rw [← HW8.out]
 refine Calls.mono KC8.out ?_
 rintro e w9 ⟨rfl, sa', sc', F2', h9, t9, hF9⟩
 have KZ : Hid (∃ sa' sc' F1' F2', Hr w9 B Hb id f g n cap p (slRy S p) sa' (m + n3) sc' (syM Y m 2 id (S p).r) F1' F2' ∧ Trn w w9 (fun x => x = Hb ∨ F1 x ∨ F2 x) ∧ (∀ x, F1' x → F1 x ∨ w.heap.size ≤ x) ∧ ∀ x, F2' x → F2 x ∨ w.heap.size ≤ x) := by
  have s7 := K8.out.1.size
  have s8 := K8.out.2.2.size
  refine ⟨sa', sc', F1', F2', h9, ((Trn.ofBelow _ K8.out.1).trans (K8.out.2.2.mono (fun x k => .inr (.inl k)))).trans (t9.mono (fun x k => by rcases k with k | k; exact .inl k; exact .inr (.inr k))), fun x k => ?_, fun x k => ?_⟩
  ·rcases K8.out.2.1 x k with k | k
   ·exact .inl k
   ·exact .inr (by omega)
  ·rcases hF9 x k with k | k
   ·exact .inl k
   ·exact .inr (by omega)
 clear h9 t9 hF9
 go_wp2
 go_end0
 exact ⟨rfl, KZ.out⟩
theorem Ow.set1 {w : World} {B t sz g n cap : Nat} {D : Nat → Nat → Dt} {F : Nat → Prop} (h : Ow w B (.lst t sz n D) (.slice (some ⟨g, 0, none⟩) n cap) F) {i q : Nat} (hi : i < n) (hq : q < sz) {d' : Dt} {v' : Value} {H : Nat → Prop} (ho : Ow w B d' v' H) (hH : ∀ x, H x → ¬ F x) :
  Ow (w.setCell ⟨g, i * sz + q, none⟩ v') B (.lst t sz n (fun i' q' => if i' = i ∧ q' = q then d' else D i' q')) (.slice (some ⟨g, 0, none⟩) n cap) (fun x => F x ∨ H x) := by
 obtain ⟨G, hs, c, hown, hr⟩ := Ow.mk h
 have h1 := (World.ownsRow.stored hown (i * sz + q) v').1
 rw [cL_set _ _ _ _ _ _ hi hq] at h1
 have hHg : ¬ H g := fun k => hH g k (hs.head _ rfl)
 refine ⟨_, cap, _, fun i' q' x => if i' = i ∧ q' = q then H x else G i' q' x, rfl, h1, ⟨fun x e => ?_, fun i' q' x hi' hq' k => ?_, fun i' q' x hi' hq' e k => ?_, fun i' q' i2 q2 x hi' hq' hi2 hq2 k k2 => ?_⟩, fun i' q' hi' hq' => ?_⟩
 ·cases e
  exact .inl (hs.head _ rfl)
 ·by_cases e : i' = i ∧ q' = q
  ·rw [if_pos e] at k
   exact .inr k
  ·rw [if_neg e] at k
   exact .inl (hs.sub i' q' x hi' hq' k)
 ·cases e
  by_cases e : i' = i ∧ q' = q
  ·rw [if_pos e] at k
   exact hHg k
  ·rw [if_neg e] at k
   exact hs.apart i' q' _ hi' hq' rfl k
 ·by_cases e : i' = i ∧ q' = q <;> by_cases e2 : i2 = i ∧ q2 = q
  ·exact ⟨e.1.trans e2.1.symm, e.2.trans e2.2.symm⟩
  ·rw [if_pos e] at k
   rw [if_neg e2] at k2
   exact absurd (hs.sub i2 q2 x hi2 hq2 k2) (hH x k)
  ·rw [if_neg e] at k
   rw [if_pos e2] at k2
   exact absurd (hs.sub i' q' x hi' hq' k) (hH x k2)
  ·rw [if_neg e] at k
   rw [if_neg e2] at k2
   exact hs.each i' q' i2 q2 x hi' hq' hi2 hq2 k k2
 ·by_cases e : i' = i ∧ q' = q
  ·simp only [e, and_self, if_true]
   exact ho.far _ _ hHg
  ·simp only [e, if_false]
   exact (hr i' q' hi' hq').far _ _ (fun k => hs.apart i' q' _ hi' hq' rfl k)
def slPi (S : Nat → Sl) (p : Nat) (x : Pc) (i : Nat) : Sl := if i = p then { S p with p := x } else S i
def slGot (S : Nat → Sl) (p : Nat) (x : Pc) (i : Nat) : Sl := if i = p then { S p with p := x, h := true, e := true } else S i
theorem ow_piece6 {w : World} {B g n cap p : Nat} {S : Nat → Sl} {F : Nat → Prop} (x : Pc) {v6 : Value} {H : Nat → Prop} (h : Ow w B (slsD n S) (.slice (some ⟨g, 0, none⟩) n cap) F) (hp : p < n) (ho : Ow w B (txD x.m x.S) v6 H) (hH : ∀ y, H y → ¬ F y) :
  Ow ((((((w.setCell ⟨g, p * 13 + 1, none⟩ (.string x.r)).setCell ⟨g, p * 13 + 2, none⟩ (.int .i64 x.k)).setCell ⟨g, p * 13 + 3, none⟩ (.int .i64 x.n)).setCell ⟨g, p * 13 + 4, none⟩ (.int .i64 x.i)).setCell ⟨g, p * 13 + 5, none⟩ (.string x.b)).setCell ⟨g, p * 13 + 6, none⟩ v6) B (slsD n (slPi S p x)) (.slice (some ⟨g, 0, none⟩) n cap) (fun y => F y ∨ H y) := by
 have hg : F g := by obtain ⟨_, _, _, _, e, _, hs, _⟩ := h; cases e; exact hs.head _ rfl
 have nH : ¬ H g := fun k => hH g k hg
 have fs : ∀ y, False → ¬ F y := fun _ k => k.elim
 have h1 := (Ow.set1 h hp (show 1 < 13 by omega) (d' := .val (.string x.r)) (v' := .string x.r) (H := fun _ => False) rfl fs).mono (F' := F) (fun _ k => k.elim id False.elim)
 have h2 := (Ow.set1 h1 hp (show 2 < 13 by omega) (d' := .val (.int .i64 x.k)) (v' := .int .i64 x.k) (H := fun _ => False) rfl fs).mono (F' := F) (fun _ k => k.elim id False.elim)
 have h3 := (Ow.set1 h2 hp (show 3 < 13 by omega) (d' := .val (.int .i64 x.n)) (v' := .int .i64 x.n) (H := fun _ => False) rfl fs).mono (F' := F) (fun _ k => k.elim id False.elim)
 have h4 := (Ow.set1 h3 hp (show 4 < 13 by omega) (d' := .val (.int .i64 x.i)) (v' := .int .i64 x.i) (H := fun _ => False) rfl fs).mono (F' := F) (fun _ k => k.elim id False.elim)
 have h5 := (Ow.set1 h4 hp (show 5 < 13 by omega) (d' := .val (.string x.b)) (v' := .string x.b) (H := fun _ => False) rfl fs).mono (F' := F) (fun _ k => k.elim id False.elim)
 have h6 := Ow.set1 h5 hp (show 6 < 13 by omega) (((((ho.far (p * 13 + 1) (.string x.r) nH).far (p * 13 + 2) (.int .i64 x.k) nH).far (p * 13 + 3) (.int .i64 x.n) nH).far (p * 13 + 4) (.int .i64 x.i) nH).far (p * 13 + 5) (.string x.b) nH) hH
 refine h6.congr (fun i q _ hq => ?_)
 show _ = slD (slPi S p x i) q
 unfold slPi
 by_cases e : i = p
 ·subst e
  match q, hq with
  | 0, _ | 1, _ | 2, _ | 3, _ | 4, _ | 5, _ | 6, _ | 7, _ | 8, _ | 9, _ | 10, _ | 11, _ | 12, _ => simp [slD]
 ·simp [e]
theorem hearPiece_n (id f : Int) (B Hb g n cap p : Nat) (S : Nat → Sl) (sa : Option Addr) (m sc : Nat) (Y : Nat → Sy) (F1 F2 : Nat → Prop) (y : Sy) (a9 : Option Addr) (c9 : Nat) (w : World) (h : Hr w B Hb id f g n cap p S sa m sc Y F1 F2) (hf : 1 ≤ f ∧ f ≤ 3) (hp : p < n) (hT : TxtAt w a9 y.p.m y.p.S) (hm : y.p.m ≤ 1048576) (hL : ∀ i, i < y.p.m → (y.p.S i).size ≤ maxLen) (hn : (S p).e = true ∨ mineB y.r id f y.p.r y.p.k y.p.n y.p.i y.p.b y.p.m y.p.S = false) :
  Calls Tryz.prog 108 #[.pointer (some ⟨Hb, 0, none⟩), syV y (.slice a9 y.p.m c9)] w fun e w' => e = .returned (.tuple #[]) ∧ Hr w' B Hb id f g n cap p S sa m sc Y F1 F2 ∧ Trn w w' (fun x => x = Hb ∨ F1 x ∨ F2 x) := by
 obtain ⟨A, HA⟩ : ∃ x, Hid (x = w.heap.size) := ⟨_, rfl⟩
 obtain ⟨w0, HW0⟩ : ∃ x, Hid (x = w.alloc (.cells (syC y (.slice a9 y.p.m c9)) 31)) := ⟨_, rfl⟩
 have hb0 : Below w.heap.size w w0 := by rw [HW0.out]; exact (Below.refl _ _).alloc (Nat.le_refl _) _
 have RA : Hid (Row w0 A 31 (syC y (.slice a9 y.p.m c9))) := by show Row _ _ _ _; rw [HW0.out, HA.out]; exact Row.new w _ _
 have KH : Hid (Hr w0 B Hb id f g n cap p S sa m sc Y F1 F2) := h.below hb0
 have KB0 : Hid (Below w.heap.size w w0) := hb0
 obtain ⟨ve, ce, _, re⟩ := KH.out.slotc hp 8 (by omega)
 have ee : ve = .bool (S p).e := re
 rw [ee] at ce
 clear ee re
 by_cases he : (S p).e = true
 ·rw [he] at ce
  have y3 := KH.out.r.cell 3
  simp at y3
  clear h hb0 hT hm hL hn he
  have KZ : Hid (∀ W, Below w0.heap.size w0 W → Hr W B Hb id f g n cap p S sa m sc Y F1 F2 ∧ Trn w W (fun x => x = Hb ∨ F1 x ∨ F2 x)) := fun W hW => ⟨KH.out.below hW, Trn.ofBelow _ (below2 KB0.out hW)⟩
  have hdr := below_drew w0
  go_enter Tryz.func108, Tryz.ntmps108
  go_wp2_with fail
  rw [← HW0.out, ← HA.out]
  go_quiet (fail)
  all_goals
   go_wp2_with fail
   refine bodyPost_ret (v := .tuple #[]) (results_none Tryz.results108 _ _ _) rfl ⟨rfl, ?_⟩
   exact KZ.out _ ⟨rfl, rfl, rfl, Nat.le_refl _, fun _ _ => rfl⟩
 ·have hmb : mineB y.r id f y.p.r y.p.k y.p.n y.p.i y.p.b y.p.m y.p.S = false := by rcases hn with k | k; exact absurd k he; exact k
  have he' : (S p).e = false := by simpa using he
  rw [he'] at ce
  have KO : Hid (∀ W, Below w0.heap.size w0 W → Calls Tryz.prog 119 #[ndV id f (.slice (some ⟨g, 0, none⟩) n cap), pcV y.p.r y.p.k y.p.n y.p.i y.p.b (.slice a9 y.p.m c9), .string y.r] W fun e w' => e = .returned (.bool false) ∧ Below W.heap.size W w') := fun W hW => by
   have := owns_any y.r id f (.slice (some ⟨g, 0, none⟩) n cap) y.p.r y.p.k y.p.n y.p.i y.p.b a9 y.p.m c9 y.p.S W ((hT.below hb0).below hW) hf hm hL
   rw [hmb] at this
   exact this
  have KS : Hid (∀ W, Below w0.heap.size w0 W → (W.cell? ⟨Hb, 0, none⟩ = some (.int .i64 id) ∧ W.cell? ⟨Hb, 1, none⟩ = some (.int .i64 f) ∧ W.cell? ⟨Hb, 2, none⟩ = some (.slice (some ⟨g, 0, none⟩) n cap) ∧ W.cell? ⟨Hb, 3, none⟩ = some (.pointer (some ⟨g, p * 13, none⟩)) ∧ W.cell? ⟨g, p * 13 + 8, none⟩ = some (.bool false)) ∧ W.cell? ⟨A, 3, none⟩ = some (.string y.r) ∧ W.cell? ⟨A, 4, none⟩ = some (.string y.p.r) ∧ W.cell? ⟨A, 5, none⟩ = some (.int .i64 y.p.k) ∧ W.cell? ⟨A, 6, none⟩ = some (.int .i64 y.p.n) ∧ W.cell? ⟨A, 7, none⟩ = some (.int .i64 y.p.i) ∧ W.cell? ⟨A, 8, none⟩ = some (.string y.p.b) ∧ W.cell? ⟨A, 9, none⟩ = some (.slice a9 y.p.m c9)) := fun W hW => by
   have r := (KH.out.below hW).r
   have z0 := r.cell 0
   have z1 := r.cell 1
   have z2 := r.cell 2
   have z3 := r.cell 3
   have ra := RA.out.below hW RA.out.lt
   have q3 := ra.cell 3
   have q4 := ra.cell 4
   have q5 := ra.cell 5
   have q6 := ra.cell 6
   have q7 := ra.cell 7
   have q8 := ra.cell 8
   have q9 := ra.cell 9
   simp at z0 z1 z2 z3 q3 q4 q5 q6 q7 q8 q9
   exact ⟨⟨z0, z1, z2, z3, (hW.cell (block_lt_of_cell ce)).trans ce⟩, q3, q4, q5, q6, q7, q8, q9⟩
  have KZ : Hid (∀ W, Below w0.heap.size w0 W → Hr W B Hb id f g n cap p S sa m sc Y F1 F2 ∧ Trn w W (fun x => x = Hb ∨ F1 x ∨ F2 x)) := fun W hW => ⟨KH.out.below hW, Trn.ofBelow _ (below2 KB0.out hW)⟩
  have hdr := below_drew w0
  clear h hb0 hT hm hL hn he he' hmb ce hf hp
  go_enter Tryz.func108, Tryz.ntmps108
  go_wp2_with fail
  rw [← HW0.out, ← HA.out]
  go_region_held3 (fun w' => (w'.cell? ⟨Hb, 0, none⟩ = some (.int .i64 id) ∧ w'.cell? ⟨Hb, 1, none⟩ = some (.int .i64 f) ∧ w'.cell? ⟨Hb, 2, none⟩ = some (.slice (some ⟨g, 0, none⟩) n cap) ∧ w'.cell? ⟨Hb, 3, none⟩ = some (.pointer (some ⟨g, p * 13, none⟩)) ∧ w'.cell? ⟨g, p * 13 + 8, none⟩ = some (.bool false)) ∧ w'.cell? ⟨A, 3, none⟩ = some (.string y.r) ∧ w'.cell? ⟨A, 4, none⟩ = some (.string y.p.r) ∧ w'.cell? ⟨A, 5, none⟩ = some (.int .i64 y.p.k) ∧ w'.cell? ⟨A, 6, none⟩ = some (.int .i64 y.p.n) ∧ w'.cell? ⟨A, 7, none⟩ = some (.int .i64 y.p.i) ∧ w'.cell? ⟨A, 8, none⟩ = some (.string y.p.b) ∧ w'.cell? ⟨A, 9, none⟩ = some (.slice a9 y.p.m c9)) (exact KS.out _ (by assumption)) ((go_at_call 119; refine Calls.mono (KO.out _ hdr) ?_; rintro e w7 ⟨rfl, b7'⟩; have b7 := below_of_drew b7'; clear b7'))
  all_goals
   have KZ7 : Hid _ := KZ.out _ b7
   go_wp2_with fail
   refine bodyPost_ret (v := .tuple #[]) (results_none Tryz.results108 _ _ _) rfl ⟨rfl, ?_⟩
   exact KZ7.out
theorem hearPiece_y (id f : Int) (B Hb g n cap p : Nat) (S : Nat → Sl) (sa : Option Addr) (m sc : Nat) (Y : Nat → Sy) (F1 F2 : Nat → Prop) (y : Sy) (a9 : Option Addr) (c9 : Nat) (n3 : Nat) (w : World) (h : Hr w B Hb id f g n cap p S sa m sc Y F1 F2) (hf : 1 ≤ f ∧ f ≤ 3) (hp : p < n) (hT : TxtAt w a9 y.p.m y.p.S) (hm : y.p.m ≤ 1048576) (hr1 : y.p.r.size ≤ 1048576) (hb1 : y.p.b.size ≤ 1048576) (hL : ∀ i, i < y.p.m → (y.p.S i).size ≤ 1048576) (he : (S p).e = false) (hmb : mineB y.r id f y.p.r y.p.k y.p.n y.p.i y.p.b y.p.m y.p.S = true) (hmm : m ≤ 1048576) (hrr : (S p).r.size ≤ 1048576) (hn3 : (n3 : Int) = 3 * f + 1) :
  Calls Tryz.prog 108 #[.pointer (some ⟨Hb, 0, none⟩), syV y (.slice a9 y.p.m c9)] w fun e w' => e = .returned (.tuple #[]) ∧ ∃ sa' sc' F1' F2', Hr w' B Hb id f g n cap p (slGot S p y.p) sa' (m + n3) sc' (syM Y m 1 id (S p).r) F1' F2' ∧ Trn w w' (fun x => x = Hb ∨ F1 x ∨ F2 x) ∧ (∀ x, F1' x → F1 x ∨ w.heap.size ≤ x) ∧ ∀ x, F2' x → F2 x ∨ w.heap.size ≤ x := by
 obtain ⟨A, HA⟩ : ∃ x, Hid (x = w.heap.size) := ⟨_, rfl⟩
 obtain ⟨w0, HW0⟩ : ∃ x, Hid (x = w.alloc (.cells (syC y (.slice a9 y.p.m c9)) 31)) := ⟨_, rfl⟩
 have hb0 : Below w.heap.size w w0 := by rw [HW0.out]; exact (Below.refl _ _).alloc (Nat.le_refl _) _
 have RA : Hid (Row w0 A 31 (syC y (.slice a9 y.p.m c9))) := by show Row _ _ _ _; rw [HW0.out, HA.out]; exact Row.new w _ _
 have KH : Hid (Hr w0 B Hb id f g n cap p S sa m sc Y F1 F2) := h.below hb0
 have KB0 : Hid (Below w.heap.size w w0) := hb0
 have HP : Hid (p < n) := hp
 obtain ⟨ve, ce, _, re⟩ := KH.out.slotc hp 8 (by omega)
 have ee : ve = .bool (S p).e := re
 rw [ee, he] at ce
 clear ee re
 have KO : Hid (∀ W, Below w0.heap.size w0 W → Calls Tryz.prog 119 #[ndV id f (.slice (some ⟨g, 0, none⟩) n cap), pcV y.p.r y.p.k y.p.n y.p.i y.p.b (.slice a9 y.p.m c9), .string y.r] W fun e w' => e = .returned (.bool true) ∧ Below W.heap.size W w') := fun W hW => by
  have := owns_any y.r id f (.slice (some ⟨g, 0, none⟩) n cap) y.p.r y.p.k y.p.n y.p.i y.p.b a9 y.p.m c9 y.p.S W ((hT.below hb0).below hW) hf hm (fun i hi => Nat.le_trans (hL i hi) (by unfold maxLen; omega))
  rw [hmb] at this
  exact this
 have KCP : Hid (∀ W, Below w0.heap.size w0 W → Calls Tryz.prog 121 #[pcV y.p.r y.p.k y.p.n y.p.i y.p.b (.slice a9 y.p.m c9)] W fun e w' => ∃ g, e = .returned (pcV y.p.r y.p.k y.p.n y.p.i y.p.b (.slice (some ⟨g, 0, none⟩) y.p.m y.p.m)) ∧ OwnT w' W.heap.size (some ⟨g, 0, none⟩) y.p.m y.p.m y.p.S ∧ Below W.heap.size W w') := fun W hW => copiedP_any _ _ _ _ _ a9 _ c9 _ W ((hT.below hb0).below hW) hm hr1 hb1 hL
 have KSA : Hid (∀ W F1', Hr W B Hb id f g n cap p (slGot S p y.p) sa m sc Y F1' F2 → Calls Tryz.prog 153 #[.pointer (some ⟨Hb, 0, none⟩), .int .i64 1] W fun e w' => e = .returned (.tuple #[]) ∧ ∃ sa' sc' F2', Hr w' B Hb id f g n cap p (slGot S p y.p) sa' (m + n3) sc' (syM Y m 1 id (S p).r) F1' F2' ∧ Trn W w' (fun x => x = Hb ∨ F2 x) ∧ ∀ x, F2' x → F2 x ∨ W.heap.size ≤ x) := fun W F1' hW => by
  have er : (slGot S p y.p p).r = (S p).r := by unfold slGot; simp
  have := sayToAll_any 1 id f B Hb g n cap p (slGot S p y.p) sa m sc Y F1' F2 n3 W hW hf hp hmm (by rw [er]; exact hrr) hn3
  rw [er] at this
  exact this
 have KS : Hid (∀ W, Below w0.heap.size w0 W → (W.cell? ⟨Hb, 0, none⟩ = some (.int .i64 id) ∧ W.cell? ⟨Hb, 1, none⟩ = some (.int .i64 f) ∧ W.cell? ⟨Hb, 2, none⟩ = some (.slice (some ⟨g, 0, none⟩) n cap) ∧ W.cell? ⟨Hb, 3, none⟩ = some (.pointer (some ⟨g, p * 13, none⟩)) ∧ W.cell? ⟨g, p * 13 + 8, none⟩ = some (.bool false)) ∧ W.cell? ⟨A, 3, none⟩ = some (.string y.r) ∧ W.cell? ⟨A, 4, none⟩ = some (.string y.p.r) ∧ W.cell? ⟨A, 5, none⟩ = some (.int .i64 y.p.k) ∧ W.cell? ⟨A, 6, none⟩ = some (.int .i64 y.p.n) ∧ W.cell? ⟨A, 7, none⟩ = some (.int .i64 y.p.i) ∧ W.cell? ⟨A, 8, none⟩ = some (.string y.p.b) ∧ W.cell? ⟨A, 9, none⟩ = some (.slice a9 y.p.m c9)) := fun W hW => by
  have r := (KH.out.below hW).r
  have z0 := r.cell 0
  have z1 := r.cell 1
  have z2 := r.cell 2
  have z3 := r.cell 3
  have ra := RA.out.below hW RA.out.lt
  have q3 := ra.cell 3
  have q4 := ra.cell 4
  have q5 := ra.cell 5
  have q6 := ra.cell 6
  have q7 := ra.cell 7
  have q8 := ra.cell 8
  have q9 := ra.cell 9
  simp at z0 z1 z2 z3 q3 q4 q5 q6 q7 q8 q9
  exact ⟨⟨z0, z1, z2, z3, (hW.cell (block_lt_of_cell ce)).trans ce⟩, q3, q4, q5, q6, q7, q8, q9⟩
 have hdr := below_drew w0
 clear h hb0 hT hm hL he hmb hr1 hb1 hmm hrr hn3
 go_enter Tryz.func108, Tryz.ntmps108
 go_wp2_with fail
 rw [← HW0.out, ← HA.out]
 go_region_held3 (fun w' => (w'.cell? ⟨Hb, 0, none⟩ = some (.int .i64 id) ∧ w'.cell? ⟨Hb, 1, none⟩ = some (.int .i64 f) ∧ w'.cell? ⟨Hb, 2, none⟩ = some (.slice (some ⟨g, 0, none⟩) n cap) ∧ w'.cell? ⟨Hb, 3, none⟩ = some (.pointer (some ⟨g, p * 13, none⟩)) ∧ w'.cell? ⟨g, p * 13 + 8, none⟩ = some (.bool false)) ∧ w'.cell? ⟨A, 3, none⟩ = some (.string y.r) ∧ w'.cell? ⟨A, 4, none⟩ = some (.string y.p.r) ∧ w'.cell? ⟨A, 5, none⟩ = some (.int .i64 y.p.k) ∧ w'.cell? ⟨A, 6, none⟩ = some (.int .i64 y.p.n) ∧ w'.cell? ⟨A, 7, none⟩ = some (.int .i64 y.p.i) ∧ w'.cell? ⟨A, 8, none⟩ = some (.string y.p.b) ∧ w'.cell? ⟨A, 9, none⟩ = some (.slice a9 y.p.m c9)) (exact KS.out _ (by assumption)) ((go_at_call 119; refine Calls.mono (KO.out _ hdr) ?_; rintro e w7 ⟨rfl, b7'⟩; have b7 := below_of_drew b7'; clear b7'))
 have K7 : Hid (Hr w7 B Hb id f g n cap p S sa m sc Y F1 F2 ∧ Below w0.heap.size w0 w7) := ⟨KH.out.below b7, b7⟩
 clear b7 ce
 go_upto_region 2 with fail
 go_cut [] from 23 to 31 (fun wx => Hid (∃ F1', Hr wx B Hb id f g n cap p (slPi S p y.p) sa m sc Y F1' F2 ∧ Trn w0 wx F1 ∧ ∀ x, F1' x → F1 x ∨ w0.heap.size ≤ x))
 case first =>
  obtain ⟨⟨_, _, _, z3, _⟩, _, z4, z5, z6, z7, z8, z9⟩ := KS.out _ K7.out.2
  have hd7 := below_drew w7
  have KC7 : Hid _ := KCP.out w7.drew (below2 K7.out.2 hd7)
  have KF : Hid (∀ W, Below w7.heap.size w7 W → (W.cell? ⟨Hb, 3, none⟩ = some (.pointer (some ⟨g, p * 13, none⟩)) ∧ (∃ v, W.cell? ⟨g, p * 13 + 1, none⟩ = some v) ∧ (∃ v, W.cell? ⟨g, p * 13 + 2, none⟩ = some v) ∧ (∃ v, W.cell? ⟨g, p * 13 + 3, none⟩ = some v) ∧ (∃ v, W.cell? ⟨g, p * 13 + 4, none⟩ = some v) ∧ (∃ v, W.cell? ⟨g, p * 13 + 5, none⟩ = some v) ∧ (∃ v, W.cell? ⟨g, p * 13 + 6, none⟩ = some v)) ∧ ∀ q, q < 13 → W.frozen? ⟨g, p * 13 + q, none⟩ = false) := fun W hW => by
   have hh := K7.out.1.below hW
   have r3 := hh.r.cell 3
   simp at r3
   have cq : ∀ q, q < 13 → ∃ v, W.cell? ⟨g, p * 13 + q, none⟩ = some v := fun q hq => by obtain ⟨v, c, _, _⟩ := hh.slotc HP.out q hq; exact ⟨v, c⟩
   have fq : ∀ q, q < 13 → W.frozen? ⟨g, p * 13 + q, none⟩ = false := fun q hq => by obtain ⟨v, _, c, _⟩ := hh.slotc HP.out q hq; exact c
   exact ⟨⟨r3, cq 1 (by omega), cq 2 (by omega), cq 3 (by omega), cq 4 (by omega), cq 5 (by omega), cq 6 (by omega)⟩, fq⟩
  go_region_with ((go_at_call 121; refine Calls.mono KC7.out ?_; rintro e w8 ⟨g6, rfl, O8, b8'⟩; have b8 := below_of_drew b8'; clear b8'; obtain ⟨⟨t3, ⟨v1, t1⟩, ⟨v2, t2⟩, ⟨v3, t33⟩, ⟨v4, t4⟩, ⟨v5, t5⟩, ⟨v6, t6⟩⟩, fz⟩ := KF.out _ b8; have f1 := fz 1 (by omega); have f2 := fz 2 (by omega); have f3 := fz 3 (by omega); have f4 := fz 4 (by omega); have f5 := fz 5 (by omega); have f6 := fz 6 (by omega); have K8 : Hid (OwnT w8 w7.heap.size (some ⟨g6, 0, none⟩) y.p.m y.p.m y.p.S ∧ Below w7.heap.size w7 w8) := ⟨O8, b8⟩; clear fz O8 b8))
  all_goals
   go_wp2_with fail
   go_meet
   have hs7 := K7.out.2.size
   have hs8 := K8.out.2.size
   have h8 := K7.out.1.below K8.out.2
   have o6 : Ow w8 B (txD y.p.m y.p.S) (.slice (some ⟨g6, 0, none⟩) y.p.m y.p.m) (fun x => x = g6) := (ow_txt K8.out.1 (fun x e => by cases e; rfl)).base K7.out.1.b.2
   have l6 := World.ownsRow.lt K8.out.1 g6 rfl
   have o8 := ow_piece6 y.p h8.o HP.out o6 (fun x e k => by have := K7.out.1.l1 x k; omega)
   obtain ⟨G, hsep, _⟩ := Ow.mk h8.o
   have hgF : F1 g := hsep.head _ rfl
   have t8 : Trn w8 _ F1 := (((((Trn.set w8 (p * 13 + 1) (.string y.p.r) hgF).trans (Trn.set _ (p * 13 + 2) (.int .i64 y.p.k) hgF)).trans (Trn.set _ (p * 13 + 3) (.int .i64 y.p.n) hgF)).trans (Trn.set _ (p * 13 + 4) (.int .i64 y.p.i) hgF)).trans (Trn.set _ (p * 13 + 5) (.string y.p.b) hgF)).trans (Trn.set _ (p * 13 + 6) (.slice (some ⟨g6, 0, none⟩) y.p.m y.p.m) hgF)
   obtain ⟨F1', hh, hF⟩ := K7.out.1.slots ((Trn.ofBelow _ K8.out.2).trans t8) o8 (fun x k => by
    rcases k with k | k
    ·exact .inl k
    ·exact .inr (by rw [k]; exact l6.1))
   refine ⟨F1', hh, ((Trn.ofBelow _ K7.out.2).trans (Trn.ofBelow _ K8.out.2)).trans t8, fun x k => ?_⟩
   rcases hF x k with k | k
   ·exact .inl k
   ·exact .inr (by omega)
 obtain ⟨F1a, ha, ta, hFa⟩ := hcut.out
 have KA : Hid (Hr wc B Hb id f g n cap p (slPi S p y.p) sa m sc Y F1a F2 ∧ Trn w0 wc F1 ∧ ∀ x, F1a x → F1 x ∨ w0.heap.size ≤ x) := ⟨ha, ta, hFa⟩
 clear hcut ha ta hFa
 obtain ⟨wb, HWB⟩ : ∃ x, x = wc := ⟨wc, rfl⟩
 subst HWB
 go_upto_region 3 with fail
 go_cut [] from 32 to 43 (fun wx => Hid (∃ F1', Hr wx B Hb id f g n cap p (slGot S p y.p) sa m sc Y F1' F2 ∧ Trn w0 wx F1 ∧ ∀ x, F1' x → F1 x ∨ w0.heap.size ≤ x))
 case first =>
  have z3 := KA.out.1.r.cell 3
  simp at z3
  obtain ⟨v7, c7, f7, _⟩ := KA.out.1.slotc HP.out 7 (by omega)
  obtain ⟨v8, c8, f8, _⟩ := KA.out.1.slotc HP.out 8 (by omega)
  obtain ⟨F1b, q1, q2, q3⟩ := KA.out.1.flag (S' := fun i => if i = p then { slPi S p y.p p with h := true } else slPi S p y.p i) HP.out 7 (by omega) true (fun i q' hq' => by
   by_cases e : i = p
   ·subst e
    match q', hq' with
    | 0, _ | 1, _ | 2, _ | 3, _ | 4, _ | 5, _ | 6, _ | 7, _ | 8, _ | 9, _ | 10, _ | 11, _ | 12, _ => simp [slD]
   ·simp [e])
  obtain ⟨F1c, r1, r2, r3⟩ := q1.flag (S' := slGot S p y.p) HP.out 8 (by omega) true (fun i q' hq' => by
   unfold slGot slPi
   by_cases e : i = p
   ·subst e
    match q', hq' with
    | 0, _ | 1, _ | 2, _ | 3, _ | 4, _ | 5, _ | 6, _ | 7, _ | 8, _ | 9, _ | 10, _ | 11, _ | 12, _ => simp [slD]
   ·simp [e])
  have KD : Hid (Hr ((wb.setCell ⟨g, p * 13 + 7, none⟩ (.bool true)).setCell ⟨g, p * 13 + 8, none⟩ (.bool true)) B Hb id f g n cap p (slGot S p y.p) sa m sc Y F1c F2 ∧ Trn wb ((wb.setCell ⟨g, p * 13 + 7, none⟩ (.bool true)).setCell ⟨g, p * 13 + 8, none⟩ (.bool true)) (fun x => F1a x ∨ F1b x) ∧ (∀ x, F1b x → F1a x ∨ wb.heap.size ≤ x) ∧ ∀ x, F1c x → F1b x ∨ wb.heap.size ≤ x) := ⟨r1, (q3.mono (fun _ k => .inl k)).trans (r3.mono (fun _ k => .inr k)), q2, fun x k => by rcases r2 x k with k | k; exact .inl k; exact .inr (by simpa using k)⟩
  have KE : Hid (∀ W, Below (wb.setCell ⟨g, p * 13 + 7, none⟩ (.bool true)).heap.size ((wb.setCell ⟨g, p * 13 + 7, none⟩ (.bool true)).setCell ⟨g, p * 13 + 8, none⟩ (.bool true)) W → ∃ F1', Hr W B Hb id f g n cap p (slGot S p y.p) sa m sc Y F1' F2 ∧ Trn w0 W F1 ∧ ∀ x, F1' x → F1 x ∨ w0.heap.size ≤ x) := fun W hW => by
   have hs : w0.heap.size ≤ wb.heap.size := KA.out.2.1.size
   have hb : Below ((wb.setCell ⟨g, p * 13 + 7, none⟩ (.bool true)).setCell ⟨g, p * 13 + 8, none⟩ (.bool true)).heap.size ((wb.setCell ⟨g, p * 13 + 7, none⟩ (.bool true)).setCell ⟨g, p * 13 + 8, none⟩ (.bool true)) W := by
    have e : ((wb.setCell ⟨g, p * 13 + 7, none⟩ (.bool true)).setCell ⟨g, p * 13 + 8, none⟩ (.bool true)).heap.size = (wb.setCell ⟨g, p * 13 + 7, none⟩ (.bool true)).heap.size := by simp
    rw [e]
    exact hW
   have tw : Trn w0 ((wb.setCell ⟨g, p * 13 + 7, none⟩ (.bool true)).setCell ⟨g, p * 13 + 8, none⟩ (.bool true)) F1 := by
    have t := KD.out.2.1
    refine ⟨t.os.trans KA.out.2.1.os, t.tape.trans KA.out.2.1.tape, t.output.trans KA.out.2.1.output, Nat.le_trans KA.out.2.1.size t.size, fun j hj hn => ?_⟩
    refine (t.block j (by omega) (fun k => ?_)).trans (KA.out.2.1.block j hj hn)
    have ha : ¬ F1a j := fun k => by rcases KA.out.2.2 j k with k | k; exact hn k; omega
    rcases k with k | k
    ·exact ha k
    ·rcases KD.out.2.2.1 j k with k | k
     ·exact ha k
     ·omega
   refine ⟨F1c, KD.out.1.below hb, tw.trans (Trn.ofBelow _ hb), fun x k => ?_⟩
   rcases KD.out.2.2.2 x k with k | k
   ·rcases KD.out.2.2.1 x k with k | k
    ·exact KA.out.2.2 x k
    ·exact .inr (by omega)
   ·exact .inr (by omega)
  clear q1 q2 q3 r1 r2 r3
  go_region
  all_goals
   go_wp2_with fail
   go_meet
   exact KE.out _ ⟨rfl, rfl, rfl, by simp, fun _ _ => rfl⟩
 obtain ⟨F1d, hd, td, hFd⟩ := hcut.out
 have KD : Hid (Trn w0 wc F1 ∧ ∀ x, F1d x → F1 x ∨ w0.heap.size ≤ x) := ⟨td, hFd⟩
 have KC9 : Hid _ := KSA.out wc F1d hd
 clear hcut hd td hFd
 go_wp2_with fail
 refine Calls.mono KC9.out ?_
 rintro e wz ⟨rfl, sa', sc', F2', hz, tz, hFz⟩
 have KZ : Hid (∃ sa' sc' F1' F2', Hr wz B Hb id f g n cap p (slGot S p y.p) sa' (m + n3) sc' (syM Y m 1 id (S p).r) F1' F2' ∧ Trn w wz (fun x => x = Hb ∨ F1 x ∨ F2 x) ∧ (∀ x, F1' x → F1 x ∨ w.heap.size ≤ x) ∧ ∀ x, F2' x → F2 x ∨ w.heap.size ≤ x) := by
  have s0 := KB0.out.size
  have s1 := KD.out.1.size
  refine ⟨sa', sc', F1d, F2', hz, ((Trn.ofBelow _ KB0.out).trans (KD.out.1.mono (fun x k => .inr (.inl k)))).trans (tz.mono (fun x k => by rcases k with k | k; exact .inl k; exact .inr (.inr k))), fun x k => ?_, fun x k => ?_⟩
  ·rcases KD.out.2 x k with k | k
   ·exact .inl k
   ·exact .inr (by omega)
  ·rcases hFz x k with k | k
   ·exact .inl k
   ·exact .inr (by omega)
 clear hz tz hFz
 go_wp2
 go_end0
 exact ⟨rfl, KZ.out⟩
theorem settle2n_any (id f : Int) (B Hb g n cap p : Nat) (S : Nat → Sl) (sa : Option Addr) (m sc : Nat) (Y : Nat → Sy) (F1 F2 : Nat → Prop) (st : Int) (w : World) (h : Hr w B Hb id f g n cap p S sa m sc Y F1 F2) (hf : 1 ≤ f ∧ f ≤ 3) (hp : p < n) (hst : stI f (S p).ze.length (S p).zr.length = st) (hn : st < 1 ∨ (S p).d = true) :
  Calls Tryz.prog 112 #[.pointer (some ⟨Hb, 0, none⟩), .int .i64 2] w fun e w' => e = .returned (.tuple #[]) ∧ ∃ F1', Hr w' B Hb id f g n cap p (slDn S p ((S p).o || decide (2 ≤ st))) sa m sc Y F1' F2 ∧ Trn w w' (fun x => x = Hb ∨ F1 x ∨ F2 x) ∧ ∀ x, F1' x → F1 x ∨ w.heap.size ≤ x := by
 obtain ⟨b1, o1, y, a6, a11, a12, c6, c11, c12, e1, hc, ey, _, _, _⟩ := slot_row h.o.rd hp
 cases e1
 have KH : Hid (Hr w B Hb id f g n cap p S sa m sc Y F1 F2) := h
 have HP : Hid (p < n) := hp
 have KS : Hid (∀ W, Below w.heap.size w W → (W.cell? ⟨Hb, 0, none⟩ = some (.int .i64 id) ∧ W.cell? ⟨Hb, 1, none⟩ = some (.int .i64 f) ∧ W.cell? ⟨Hb, 2, none⟩ = some (.slice (some ⟨g, 0, none⟩) n cap) ∧ W.cell? ⟨Hb, 3, none⟩ = some (.pointer (some ⟨g, p * 13, none⟩))) ∧ W.cell? ⟨g, p * 13, none⟩ = some (y 0) ∧ ∀ q, q < 13 → W.cell? ⟨g, p * 13 + q, none⟩ = some (y q)) := fun W hW => by
  have r := (KH.out.below hW).r
  have z0 := r.cell 0
  have z1 := r.cell 1
  have z2 := r.cell 2
  have z3 := r.cell 3
  simp at z0 z1 z2 z3
  have hq : ∀ q, q < 13 → W.cell? ⟨g, p * 13 + q, none⟩ = some (y q) := fun q hq => by
   have h1 := hc q hq
   rw [Nat.zero_add] at h1
   exact (hW.cell (block_lt_of_cell h1)).trans h1
  exact ⟨⟨z0, z1, z2, z3⟩, hq 0 (by omega), hq⟩
 have KT : Hid (∀ W, Calls Tryz.prog 118 #[ndV id f (.slice (some ⟨g, 0, none⟩) n cap), ag13 y] W fun e w' => e = .returned (.int .i64 st) ∧ Below W.heap.size W w') := fun W => by
  rw [ey, ← hst]
  exact stateOf_any id f _ (S p) _ a11 a12 _ _ c11 c12 W hf
 have hdr := below_drew w
 have yd : Hid (y 9 = .bool (S p).d) := by
  show y 9 = .bool (S p).d
  have := ag13_list ey
  simp at this
  exact this.2.2.2.2.2.2.2.2.2.1
 have yo : Hid (y 10 = .bool (S p).o) := by
  show y 10 = .bool (S p).o
  have := ag13_list ey
  simp at this
  exact this.2.2.2.2.2.2.2.2.2.2.1
 obtain ⟨bo, HBO⟩ : ∃ x, Hid ((S p).o = x) := ⟨_, rfl⟩
 obtain ⟨bn, HBN⟩ : ∃ x, Hid (((S p).o || decide (2 ≤ st)) = x) := ⟨_, rfl⟩
 rw [HBN.out]
 clear h hc ey hst hf hp
 go_enter Tryz.func112, Tryz.ntmps112
 go_wp2_with fail
 go_region_held3 (fun w' => (w'.cell? ⟨Hb, 0, none⟩ = some (.int .i64 id) ∧ w'.cell? ⟨Hb, 1, none⟩ = some (.int .i64 f) ∧ w'.cell? ⟨Hb, 2, none⟩ = some (.slice (some ⟨g, 0, none⟩) n cap) ∧ w'.cell? ⟨Hb, 3, none⟩ = some (.pointer (some ⟨g, p * 13, none⟩))) ∧ w'.cell? ⟨g, p * 13, none⟩ = some (y 0) ∧ ∀ q, q < 13 → w'.cell? ⟨g, p * 13 + q, none⟩ = some (y q)) (exact KS.out _ (by assumption)) ((go_at_call 118; refine Calls.mono (KT.out _) ?_; rintro e w7 ⟨rfl, b7'⟩; have b7 := below_of_drew b7'; clear b7'))
 obtain ⟨⟨_, _, _, z3⟩, _, hz⟩ := KS.out _ b7
 have z10 := hz 10 (by omega)
 have ydo := yd.out
 have yoo := yo.out
 rw [HBO.out] at yoo
 rw [yoo] at z10
 obtain ⟨_, _, f10, _⟩ := (KH.out.below b7).slotc HP.out 10 (by omega)
 obtain ⟨w8, HW8⟩ : ∃ x, Hid (x = (w7.setCell ⟨g, p * 13 + 10, none⟩ (.bool bn)).drew) := ⟨_, rfl⟩
 obtain ⟨F1', q8', q9, q10'⟩ := (KH.out.below b7).flag HP.out 10 (by omega) bn (slDn_D S p bn)
 have q8 : Hr w8 B Hb id f g n cap p (slDn S p bn) sa m sc Y F1' F2 := by rw [HW8.out]; exact q8'.below (below_drew _)
 have q10 : Trn w7 w8 F1 := by rw [HW8.out]; exact q10'.trans (Trn.drew _ _)
 have K8 : Hid (Below w.heap.size w w7 ∧ (∀ x, F1' x → F1 x ∨ w7.heap.size ≤ x) ∧ Trn w7 w8 F1 ∧ Hr w8 B Hb id f g n cap p (slDn S p bn) sa m sc Y F1' F2) := ⟨b7, q9, q10, q8⟩
 have x3 := q8.r.cell 3
 simp at x3
 obtain ⟨v9, x9, g9, r9⟩ := q8.slotc HP.out 9 (by omega)
 have e9 : v9 = .bool (S p).d := by
  have e : (slDn S p bn p).d = (S p).d := by unfold slDn; rw [if_pos rfl]
  have := r9
  simp only [slD, Rd, e] at this
  exact this
 rw [e9] at x9
 clear hz b7 q8 q9 q10 q8' q10' r9 e9
 have KZ : Hid (∃ F1', Hr w8 B Hb id f g n cap p (slDn S p bn) sa m sc Y F1' F2 ∧ Trn w w8 (fun x => x = Hb ∨ F1 x ∨ F2 x) ∧ ∀ x, F1' x → F1 x ∨ w.heap.size ≤ x) := by
  have s7 := K8.out.1.size
  refine ⟨F1', K8.out.2.2.2, (Trn.ofBelow _ K8.out.1).trans (K8.out.2.2.1.mono (fun x k => .inr (.inl k))), fun x k => ?_⟩
  rcases K8.out.2.1 x k with k | k
  ·exact .inl k
  ·exact .inr (by omega)
 have hbn : Hid ((bo || decide (2 ≤ st)) = bn) := by rw [← HBO.out]; exact HBN
 cases bo with
 | true =>
  obtain rfl : bn = true := by rw [← hbn.out]; rfl
  go_upto_region 4 with fail
  go_region
  all_goals
   go_upto_region 5 with fail
   rw [← HW8.out]
   clear z3 z10 f10
   by_cases hs : 1 ≤ st
   ·have hd : (S p).d = true := by rcases hn with h | h; omega; exact h
    rw [hd] at x9
    clear hn
    go_wp2
    go_end0
    exact ⟨rfl, KZ.out⟩
   ·clear hn x9
    go_wp2
    go_end0
    exact ⟨rfl, KZ.out⟩
 | false =>
  have hbe : decide (2 ≤ st) = bn := by rw [← hbn.out]; simp
  by_cases h2 : 2 ≤ st
  ·obtain rfl : bn = true := by rw [← hbe]; exact decide_eq_true h2
   clear hbe
   go_upto_region 4 with fail
   go_region
   all_goals
    go_upto_region 5 with fail
    rw [← HW8.out]
    clear z3 z10 f10
    by_cases hs : 1 ≤ st
    ·have hd : (S p).d = true := by rcases hn with h | h; omega; exact h
     rw [hd] at x9
     clear hn
     go_wp2
     go_end0
     exact ⟨rfl, KZ.out⟩
    ·clear hn x9
     go_wp2
     go_end0
     exact ⟨rfl, KZ.out⟩
  ·obtain rfl : bn = false := by rw [← hbe]; exact decide_eq_false h2
   clear hbe
   go_upto_region 4 with fail
   go_region
   all_goals
    go_upto_region 5 with fail
    rw [← HW8.out]
    clear z3 z10 f10
    by_cases hs : 1 ≤ st
    ·have hd : (S p).d = true := by rcases hn with h | h; omega; exact h
     rw [hd] at x9
     clear hn
     go_wp2
     go_end0
     exact ⟨rfl, KZ.out⟩
    ·clear hn x9
     go_wp2
     go_end0
     exact ⟨rfl, KZ.out⟩
theorem settle2y_any (id f : Int) (B Hb g n cap p : Nat) (S : Nat → Sl) (sa : Option Addr) (m sc : Nat) (Y : Nat → Sy) (F1 F2 : Nat → Prop) (n3 : Nat) (st : Int) (w : World) (h : Hr w B Hb id f g n cap p S sa m sc Y F1 F2) (hf : 1 ≤ f ∧ f ≤ 3) (hp : p < n) (hst : stI f (S p).ze.length (S p).zr.length = st) (hs : 1 ≤ st) (hd0 : (S p).d = false) (hm : m ≤ 1048576) (hr : (S p).r.size ≤ 1048576) (hn3 : (n3 : Int) = 3 * f + 1) :
  Calls Tryz.prog 112 #[.pointer (some ⟨Hb, 0, none⟩), .int .i64 2] w fun e w' => e = .returned (.tuple #[]) ∧ ∃ sa' sc' F1' F2', Hr w' B Hb id f g n cap p (slRy (slDn S p ((S p).o || decide (2 ≤ st))) p) sa' (m + n3) sc' (syM Y m 2 id (S p).r) F1' F2' ∧ Trn w w' (fun x => x = Hb ∨ F1 x ∨ F2 x) ∧ (∀ x, F1' x → F1 x ∨ w.heap.size ≤ x) ∧ ∀ x, F2' x → F2 x ∨ w.heap.size ≤ x := by
 obtain ⟨b1, o1, y, a6, a11, a12, c6, c11, c12, e1, hc, ey, _, _, _⟩ := slot_row h.o.rd hp
 cases e1
 have KH : Hid (Hr w B Hb id f g n cap p S sa m sc Y F1 F2) := h
 have HP : Hid (p < n) := hp
 have KS : Hid (∀ W, Below w.heap.size w W → (W.cell? ⟨Hb, 0, none⟩ = some (.int .i64 id) ∧ W.cell? ⟨Hb, 1, none⟩ = some (.int .i64 f) ∧ W.cell? ⟨Hb, 2, none⟩ = some (.slice (some ⟨g, 0, none⟩) n cap) ∧ W.cell? ⟨Hb, 3, none⟩ = some (.pointer (some ⟨g, p * 13, none⟩))) ∧ W.cell? ⟨g, p * 13, none⟩ = some (y 0) ∧ ∀ q, q < 13 → W.cell? ⟨g, p * 13 + q, none⟩ = some (y q)) := fun W hW => by
  have r := (KH.out.below hW).r
  have z0 := r.cell 0
  have z1 := r.cell 1
  have z2 := r.cell 2
  have z3 := r.cell 3
  simp at z0 z1 z2 z3
  have hq : ∀ q, q < 13 → W.cell? ⟨g, p * 13 + q, none⟩ = some (y q) := fun q hq => by
   have h1 := hc q hq
   rw [Nat.zero_add] at h1
   exact (hW.cell (block_lt_of_cell h1)).trans h1
  exact ⟨⟨z0, z1, z2, z3⟩, hq 0 (by omega), hq⟩
 have KT : Hid (∀ W, Calls Tryz.prog 118 #[ndV id f (.slice (some ⟨g, 0, none⟩) n cap), ag13 y] W fun e w' => e = .returned (.int .i64 st) ∧ Below W.heap.size W w') := fun W => by
  rw [ey, ← hst]
  exact stateOf_any id f _ (S p) _ a11 a12 _ _ c11 c12 W hf
 have hdr := below_drew w
 have yd : Hid (y 9 = .bool (S p).d) := by
  show y 9 = .bool (S p).d
  have := ag13_list ey
  simp at this
  exact this.2.2.2.2.2.2.2.2.2.1
 have yo : Hid (y 10 = .bool (S p).o) := by
  show y 10 = .bool (S p).o
  have := ag13_list ey
  simp at this
  exact this.2.2.2.2.2.2.2.2.2.2.1
 obtain ⟨bo, HBO⟩ : ∃ x, Hid ((S p).o = x) := ⟨_, rfl⟩
 obtain ⟨bn, HBN⟩ : ∃ x, Hid (((S p).o || decide (2 ≤ st)) = x) := ⟨_, rfl⟩
 rw [HBN.out]
 have hd : Hid ((S p).d = false) := hd0
 clear hd0
 have KSA : Hid (∀ W F1', Hr W B Hb id f g n cap p (slRy (slDn S p bn) p) sa m sc Y F1' F2 → Calls Tryz.prog 153 #[.pointer (some ⟨Hb, 0, none⟩), .int .i64 2] W fun e w' => e = .returned (.tuple #[]) ∧ ∃ sa' sc' F2', Hr w' B Hb id f g n cap p (slRy (slDn S p bn) p) sa' (m + n3) sc' (syM Y m 2 id (S p).r) F1' F2' ∧ Trn W w' (fun x => x = Hb ∨ F2 x) ∧ ∀ x, F2' x → F2 x ∨ W.heap.size ≤ x) := fun W F1' hW => by
  have er : (slRy (slDn S p bn) p p).r = (S p).r := by unfold slRy slDn; simp
  have := sayToAll_any 2 id f B Hb g n cap p (slRy (slDn S p bn) p) sa m sc Y F1' F2 n3 W hW hf hp hm (by rw [er]; exact hr) hn3
  rw [er] at this
  exact this
 clear h hc ey hst hf hp hr hn3
 go_enter Tryz.func112, Tryz.ntmps112
 go_wp2_with fail
 go_region_held3 (fun w' => (w'.cell? ⟨Hb, 0, none⟩ = some (.int .i64 id) ∧ w'.cell? ⟨Hb, 1, none⟩ = some (.int .i64 f) ∧ w'.cell? ⟨Hb, 2, none⟩ = some (.slice (some ⟨g, 0, none⟩) n cap) ∧ w'.cell? ⟨Hb, 3, none⟩ = some (.pointer (some ⟨g, p * 13, none⟩))) ∧ w'.cell? ⟨g, p * 13, none⟩ = some (y 0) ∧ ∀ q, q < 13 → w'.cell? ⟨g, p * 13 + q, none⟩ = some (y q)) (exact KS.out _ (by assumption)) ((go_at_call 118; refine Calls.mono (KT.out _) ?_; rintro e w7 ⟨rfl, b7'⟩; have b7 := below_of_drew b7'; clear b7'))
 obtain ⟨⟨_, _, _, z3⟩, _, hz⟩ := KS.out _ b7
 have z10 := hz 10 (by omega)
 have ydo := yd.out
 have yoo := yo.out
 rw [HBO.out] at yoo
 rw [yoo] at z10
 obtain ⟨_, _, f10, _⟩ := (KH.out.below b7).slotc HP.out 10 (by omega)
 obtain ⟨w8, HW8⟩ : ∃ x, Hid (x = (w7.setCell ⟨g, p * 13 + 10, none⟩ (.bool bn)).drew) := ⟨_, rfl⟩
 obtain ⟨F1', q8', q9, q10'⟩ := (KH.out.below b7).flag HP.out 10 (by omega) bn (slDn_D S p bn)
 have q8 : Hr w8 B Hb id f g n cap p (slDn S p bn) sa m sc Y F1' F2 := by rw [HW8.out]; exact q8'.below (below_drew _)
 have q10 : Trn w7 w8 F1 := by rw [HW8.out]; exact q10'.trans (Trn.drew _ _)
 have K8 : Hid (Below w.heap.size w w7 ∧ (∀ x, F1' x → F1 x ∨ w7.heap.size ≤ x) ∧ Trn w7 w8 F1 ∧ Hr w8 B Hb id f g n cap p (slDn S p bn) sa m sc Y F1' F2) := ⟨b7, q9, q10, q8⟩
 have x3 := q8.r.cell 3
 simp at x3
 obtain ⟨v9, x9, g9, r9⟩ := q8.slotc HP.out 9 (by omega)
 have e9 : v9 = .bool (S p).d := by
  have e : (slDn S p bn p).d = (S p).d := by unfold slDn; rw [if_pos rfl]
  have := r9
  simp only [slD, Rd, e] at this
  exact this
 rw [e9, hd.out] at x9
 clear hz b7 q8 q9 q10 q8' q10' r9 e9
 obtain ⟨w9, HW9⟩ : ∃ x, Hid (x = w8.setCell ⟨g, p * 13 + 9, none⟩ (.bool true)) := ⟨_, rfl⟩
 obtain ⟨F1x, q8, q9, q10⟩ := K8.out.2.2.2.flag HP.out 9 (by omega) true (slRy_D (slDn S p bn) p)
 rw [← HW9.out] at q8 q10
 have K9 : Hid ((∀ x, F1x x → F1' x ∨ w8.heap.size ≤ x) ∧ Trn w8 w9 F1') := ⟨q9, q10⟩
 have KC9 : Hid _ := KSA.out w9 F1x q8
 have KFIN : Hid (∀ wz sa' sc' F2', Hr wz B Hb id f g n cap p (slRy (slDn S p bn) p) sa' (m + n3) sc' (syM Y m 2 id (S p).r) F1x F2' → Trn w9 wz (fun x => x = Hb ∨ F2 x) → (∀ x, F2' x → F2 x ∨ w9.heap.size ≤ x) → ∃ sa' sc' F1' F2', Hr wz B Hb id f g n cap p (slRy (slDn S p bn) p) sa' (m + n3) sc' (syM Y m 2 id (S p).r) F1' F2' ∧ Trn w wz (fun x => x = Hb ∨ F1 x ∨ F2 x) ∧ (∀ x, F1' x → F1 x ∨ w.heap.size ≤ x) ∧ ∀ x, F2' x → F2 x ∨ w.heap.size ≤ x) := fun wz sa' sc' F2' hz tz hFz => by
  have s7 := K8.out.1.size
  have s8 := K8.out.2.2.1.size
  have s9 := K9.out.2.size
  have t89 : Trn w w9 (fun x => x = Hb ∨ F1 x ∨ F2 x) := by
   have t8 : Trn w w8 (fun x => x = Hb ∨ F1 x ∨ F2 x) := (Trn.ofBelow _ K8.out.1).trans (K8.out.2.2.1.mono (fun x k => .inr (.inl k)))
   refine ⟨K9.out.2.os.trans t8.os, K9.out.2.tape.trans t8.tape, K9.out.2.output.trans t8.output, Nat.le_trans t8.size K9.out.2.size, fun j hj hn => ?_⟩
   refine (K9.out.2.block j (Nat.lt_of_lt_of_le hj t8.size) (fun k => ?_)).trans (t8.block j hj hn)
   rcases K8.out.2.1 j k with k | k
   ·exact hn (.inr (.inl k))
   ·omega
  refine ⟨sa', sc', F1x, F2', hz, t89.trans (tz.mono (fun x k => by rcases k with k | k; exact .inl k; exact .inr (.inr k))), fun x k => ?_, fun x k => ?_⟩
  ·rcases K9.out.1 x k with k | k
   ·rcases K8.out.2.1 x k with k | k
    ·exact .inl k
    ·exact .inr (by omega)
   ·exact .inr (by omega)
  ·rcases hFz x k with k | k
   ·exact .inl k
   ·exact .inr (by omega)
 clear q8 q9 q10
 have hbn : Hid ((bo || decide (2 ≤ st)) = bn) := by rw [← HBO.out]; exact HBN
 cases bo with
 | true =>
  obtain rfl : bn = true := by rw [← hbn.out]; rfl
  go_upto_region 4 with fail
  go_region
  all_goals
   go_upto_region 5 with fail
   rw [← HW8.out]
   clear z3 z10 f10
   go_wp2_with fail
   rw [← HW9.out]
   refine Calls.mono KC9.out ?_
   rintro e wz ⟨rfl, sa', sc', F2', hz, tz, hFz⟩
   have KZ : Hid _ := KFIN.out wz sa' sc' F2' hz tz hFz
   clear hz tz hFz
   go_wp2
   go_end0
   exact ⟨rfl, KZ.out⟩
 | false =>
  have hbe : decide (2 ≤ st) = bn := by rw [← hbn.out]; simp
  by_cases h2 : 2 ≤ st
  ·obtain rfl : bn = true := by rw [← hbe]; exact decide_eq_true h2
   clear hbe
   go_upto_region 4 with fail
   go_region
   all_goals
    go_upto_region 5 with fail
    rw [← HW8.out]
    clear z3 z10 f10
    go_wp2_with fail
    rw [← HW9.out]
    refine Calls.mono KC9.out ?_
    rintro e wz ⟨rfl, sa', sc', F2', hz, tz, hFz⟩
    have KZ : Hid _ := KFIN.out wz sa' sc' F2' hz tz hFz
    clear hz tz hFz
    go_wp2
    go_end0
    exact ⟨rfl, KZ.out⟩
  ·obtain rfl : bn = false := by rw [← hbe]; exact decide_eq_false h2
   clear hbe
   go_upto_region 4 with fail
   go_region
   all_goals
    go_upto_region 5 with fail
    rw [← HW8.out]
    clear z3 z10 f10
    go_wp2_with fail
    rw [← HW9.out]
    refine Calls.mono KC9.out ?_
    rintro e wz ⟨rfl, sa', sc', F2', hz, tz, hFz⟩
    have KZ : Hid _ := KFIN.out wz sa' sc' F2' hz tz hFz
    clear hz tz hFz
    go_wp2
    go_end0
    exact ⟨rfl, KZ.out⟩
end Go.Proofs.YtcaejlalnjnifaaGreat
