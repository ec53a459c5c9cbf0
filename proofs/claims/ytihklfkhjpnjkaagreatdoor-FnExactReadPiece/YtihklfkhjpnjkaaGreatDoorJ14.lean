import Derived.Test.YtihklfkhjpnjkaaGreatDoorJ5
import Derived.Test.YtihklfkhjpnjkaaGreatDoorJ8
import Derived.Deep.AppendLies
import Derived.Test.YtihklfkhjpnjkaaGreatDoorJ2
import Derived.Deep.Matrix
import Derived.Shelf.Abstract
import Derived.Test.YtihklfkhjpnjkaaGreatDoorJ9
import Derived.Lib.BufferWrite
import Derived.Laws.CopyOwn
import Derived.Deep.RegionLaw
import Derived.Laws.IdiomStrings
set_option maxHeartbeats 8000000
set_option maxRecDepth 2000
open Go.ChangeShapes Go.WideShapes Go.ChangeAt Go.RowKit
namespace Go.Proofs.YtihklfkhjpnjkaaGreatDoor
def cW (b : Bool) (v o : Value) : Value := if b = true then v else o
theorem cW_y (v o : Value) : cW true v o = v := rfl
structure ApS (w1 W : World) (X : Nat) (r : ByteArray) (k n i : Int) (b : ByteArray) (S : Nat → ByteArray) (a : Option Addr) (c cap : Nat) (z : ByteArray) (x y : Value) (l4 l5 l7 : Bool) : Prop where
 fb : Below w1.heap.size w1 W
 fo : w1.heap.size ≤ X
 fl : X < W.heap.size
 fn : l4 = true → ∃ Y, x = .slice (some ⟨Y, 0, none⟩) 1 1 ∧ (l5 = false → W.heap[Y]? = some (.cells #[.string z] 9 (0, 0)))
 fp : l5 = false → Row W X 33 (pcC r k n i b (.slice a c cap)) ∧ OwnT W (X + 1) a c cap S
 fq : l5 = true → ∃ g cp, y = .slice (some ⟨g, 0, none⟩) (c + 1) cp ∧ OwnT W (X + 1) (some ⟨g, 0, none⟩) (c + 1) cp S ∧ (l7 = false → Row W X 33 (pcC r k n i b (.slice a c cap))) ∧ (l7 = true → Row W X 33 (pcC r k n i b y))
theorem ApS.start {w1 W : World} {X : Nat} {r : ByteArray} {k n i : Int} {b : ByteArray} {S : Nat → ByteArray} {a : Option Addr} {c cap : Nat} {z : ByteArray} {x y : Value}  (hb : Below w1.heap.size w1 W) (hX : w1.heap.size ≤ X) (hr : Row W X 33 (pcC r k n i b (.slice a c cap))) (ho : OwnT W (X + 1) a c cap S) : ApS w1 W X r k n i b S a c cap z x y false false false :=
 ⟨hb, hX, hr.lt, (fun h => by cases h), fun _ => ⟨hr, ho⟩, (fun h => by cases h)⟩
theorem ApS.old {w1 W : World} {X : Nat} {r : ByteArray} {k n i : Int} {b : ByteArray} {S : Nat → ByteArray} {a : Option Addr} {c cap : Nat} {z : ByteArray} {x y : Value} {l4 l7 : Bool} (h : ApS w1 W X r k n i b S a c cap z x y l4 false l7) : W.cell? ⟨X, 5, none⟩ = some (.slice a c cap) := by
 have := (h.fp rfl).1.cell 5
 simpa using this
theorem ApS.below {w1 W : World} {X : Nat} {r : ByteArray} {k n i : Int} {b : ByteArray} {S : Nat → ByteArray} {a : Option Addr} {c cap : Nat} {z : ByteArray} {x y : Value} {l7 : Bool} (h : ApS w1 W X r k n i b S a c cap z x y false false l7) {W' : World} (hb : Below W.heap.size W W') : ApS w1 W' X r k n i b S a c cap z x y false false l7 :=
 ⟨h.fb.trans (hb.mono h.fb.size), h.fo, Nat.lt_of_lt_of_le h.fl hb.size, (fun h => by cases h), fun _ => ⟨(h.fp rfl).1.below hb h.fl, (h.fp rfl).2.below hb⟩, (fun h => by cases h)⟩
theorem ApS.build {w1 W : World} {X : Nat} {r : ByteArray} {k n i : Int} {b : ByteArray} {S : Nat → ByteArray} {a : Option Addr} {c cap : Nat} {z : ByteArray} {x y : Value} {l7 : Bool} (h : ApS w1 W X r k n i b S a c cap z x y false false l7) : ApS w1 (W.alloc (.cells #[.string z] 9)) X r k n i b S a c cap z (.slice (some ⟨W.heap.size, 0, none⟩) 1 1) y true false l7 := by
 have hb : Below W.heap.size W (W.alloc (.cells #[.string z] 9)) := (Below.refl _ _).alloc (Nat.le_refl _) _
 have h1 := h.below hb
 exact ⟨h1.fb, h1.fo, h1.fl, fun _ => ⟨W.heap.size, rfl, fun _ => heap_alloc_new W _⟩, h1.fp, (fun h => by cases h)⟩
theorem ApS.put {w1 W : World} {X : Nat} {r : ByteArray} {k n i : Int} {b : ByteArray} {S : Nat → ByteArray} {a : Option Addr} {c cap : Nat} {z : ByteArray} {x y : Value}  (h : ApS w1 W X r k n i b S a c cap z x y true false false) (hz : S c = z) {g cp : Nat} {W' : World} (ho : W'.ownsRow (X + 1) 9 1 (.slice (some ⟨g, 0, none⟩) (c + 1) cp) (c + 1) (sL S c ++ [.string z])) (hg : W.grownBy W' (Value.slice a c cap).ownBlock) : ApS w1 W' X r k n i b S a c cap z x (.slice (some ⟨g, 0, none⟩) (c + 1) cp) true true false := by
 obtain ⟨hr, hO⟩ := h.fp rfl
 have hl := World.ownsRow.lt hO
 have hne : some X ≠ (Value.slice a c cap).ownBlock := fun e => by have := (hl X e.symm).1; omega
 have hwX := h.fo
 have hbs := h.fb.size
 obtain ⟨Y, hY, _⟩ := h.fn rfl
 refine ⟨h.fb.grown hg hbs (fun k hk => by have := (hl k hk).1; omega), h.fo, Nat.lt_of_lt_of_le h.fl hg.size, fun _ => ⟨Y, hY, (fun h => by cases h)⟩, (fun h => by cases h), fun _ => ⟨g, cp, rfl, ?_, fun _ => (hg.block X h.fl hne).trans hr, (fun h => by cases h)⟩⟩
 show World.ownsRow _ _ _ _ _ _ _
 rw [sL_snoc, hz]
 exact ho
theorem ApS.store {w1 W : World} {X : Nat} {r : ByteArray} {k n i : Int} {b : ByteArray} {S : Nat → ByteArray} {a : Option Addr} {c cap : Nat} {z : ByteArray} {x y : Value} {l4 : Bool} (h : ApS w1 W X r k n i b S a c cap z x y l4 true false) (hl4 : l4 = true) : ApS w1 (W.setCell ⟨X, 5, none⟩ y) X r k n i b S a c cap z x y l4 true true := by
 obtain ⟨g, cp, hy, hO, hr, _⟩ := h.fq rfl
 obtain ⟨Y, hY, _⟩ := h.fn hl4
 have hr1 := (hr rfl).set 5 y
 refine ⟨h.fb.setCell h.fo _, h.fo, ?_, fun _ => ⟨Y, hY, (fun h => by cases h)⟩, (fun h => by cases h), fun _ => ⟨g, cp, hy, hO.setFar (by omega), (fun h => by cases h), fun _ => ?_⟩⟩
 ·exact hr1.lt
 ·simpa using hr1
def hds (A : Nat → Option Addr) (L C : Nat → Nat) (n : Nat) : List Value := (List.range n).map fun i => Value.slice (A i) (L i) (C i)
section
variable {k : IntKind} {T TT : Nat} {w w' : World} {B E : Nat} {a : Option Addr} {n cap : Nat} {A : Nat → Option Addr} {L C : Nat → Nat} {Z : Nat → Nat → Int}
end
end Go.Proofs.YtihklfkhjpnjkaaGreatDoor
namespace Go.Proofs.YtihklfkhjpnjkaaGreatDoor
open Go.Proofs.YtihklfkhjpnjkaaGreatDoor.Gp (m m_lt m_comm m_assoc m_xor xor_m m_zero zero_m m_one one_m m_nat m_ne xor_self xor_left xor_can xor_eq xor_lt)
def txt (f : Nat → Nat) (l : Nat) : ByteArray := strOfNums (eI f l)
def blen (s k : Nat) : Nat := (s + 2 + k - 1) / k
def frm (s : ByteArray) (q : Nat) : Nat := if q = 0 then s.size / 256 else if q = 1 then s.size % 256 else tat s (q - 2)
def pcs (W : Nat → Nat) (l i p : Nat) : Nat := W (i * l + p)
def enc (s : ByteArray) (k i p : Nat) : Nat := pcs (frm s) (blen s.size k) i p
def tells (W : Nat → Nat) (N k : Nat) : Prop := 2 ≤ N ∧ W 0 * 256 + W 1 ≤ 2000 ∧ N = k * blen (W 0 * 256 + W 1) k ∧ ∀ q, W 0 * 256 + W 1 + 2 ≤ q → q < N → W q = 0
def told (W : Nat → Nat) : ByteArray := txt (fun q => W (q + 2)) (W 0 * 256 + W 1)
end Go.Proofs.YtihklfkhjpnjkaaGreatDoor
namespace Go.Proofs.YtihklfkhjpnjkaaGreatDoor
theorem TurnM.wide {w w' : World} {B E b e : Nat} (h : TurnM w w' b e) (hb : B ≤ b) (he : e ≤ E) : TurnM w w' B E := ⟨h.os, h.tape, h.output, h.size, fun j hj hr => h.block j hj (by omega)⟩
def side (n : Int) : Bool := decide (1 ≤ n ∧ n ≤ 16)
def sprOk (k n : Int) : Bool := side n && decide (1 ≤ k ∧ k ≤ n)
section
variable {k : IntKind} {T TT : Nat} {w w' : World} {B E : Nat} {n cap : Nat} {A : Nat → Option Addr} {L C : Nat → Nat} {Z : Nat → Nat → Int}
end
end Go.Proofs.YtihklfkhjpnjkaaGreatDoor
namespace Go.Proofs.YtihklfkhjpnjkaaGreatDoor
theorem sprOk_parts {k n : Int} (h : sprOk k n = true) : 1 ≤ k ∧ k ≤ n ∧ n ≤ 16 := by
 have : (1 ≤ n ∧ n ≤ 16) ∧ 1 ≤ k ∧ k ≤ n := by simpa [sprOk, side] using h
 omega
theorem s4Ok_any (k n : Int) (w : World) : Calls Tryz.prog 59 #[.int .i64 k, .int .i64 n] w fun e w' => e = .returned (.bool (sprOk k n)) ∧ w' = w := by
 have HE : Hid (sprOk k n = (inB n 1 16 && inB k 1 n)) := by show _ = _; unfold sprOk side inB; rfl
 cases h1 : inB n 1 16 with
 | false =>
  have HF : Hid (sprOk k n = false) := by show _ = _; rw [HE.out, h1]; rfl
  go_enter Tryz.func59, Tryz.ntmps59
  go_wp2_with (go_at_call 60; refine (sIn_any _ _ _ _).mono ?_; rintro e w' ⟨rfl, hw⟩; obtain rfl := hw.symm)
  go_ret
  exact ⟨ret_bool HF.out.symm, rfl⟩
 | true =>
  have HF : Hid (sprOk k n = inB k 1 n) := by show _ = _; rw [HE.out, h1]; rfl
  generalize inB k 1 n = b at HF
  obtain ⟨b, hb⟩ : ∃ b, inB k 1 n = b := ⟨_, rfl⟩
  go_enter Tryz.func59, Tryz.ntmps59
  go_wp2_with (go_at_call 60; refine (sIn_any _ _ _ _).mono ?_; rintro e w' ⟨rfl, hw⟩; obtain rfl := hw.symm)
  go_ret
  exact ⟨ret_bool (by rw [HE.out, h1]; simp [hb]), rfl⟩
end Go.Proofs.YtihklfkhjpnjkaaGreatDoor
