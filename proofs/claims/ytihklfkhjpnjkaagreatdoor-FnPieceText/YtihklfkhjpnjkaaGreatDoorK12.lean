import Derived.Test.YtihklfkhjpnjkaaGreatDoorK10
import Derived.Test.YtihklfkhjpnjkaaGreatDoorK9
import Derived.Deep.AppendLies
import Derived.Test.YtihklfkhjpnjkaaGreatDoorK4
import Derived.Test.YtihklfkhjpnjkaaGreatDoorRows
import Derived.Test.YtihklfkhjpnjkaaGreatDoorK5
set_option maxHeartbeats 8000000
set_option maxRecDepth 2000
open Go.ChangeShapes Go.WideShapes Go.ChangeAt Go.RowKit
namespace Go.Proofs.YtihklfkhjpnjkaaGreatDoor
def Under (a : Option Addr) (n g : Nat) : Prop := 0 < n → ∀ b off, a = some ⟨b, off, none⟩ → b < g
theorem CodeAt.under {w : World} {a : Option Addr} {n g : Nat} (h : CodeAt w a n) (hg : w.heap.size ≤ g) : Under a n g := by
 intro hn b off e
 obtain ⟨b', off', x, e', hc, _⟩ := h.2 0 hn
 rw [e] at e'
 simp at e'
 have := block_lt_of_cell hc
 simp at this
 omega
theorem Cur.far {w w' : World} {g n cap r : Nat} {a : Option Addr} (h : Cur w g a n cap) (hg : w.grownBy w' (some r)) (hr : g < r) (hab : Under a n g) : Cur w' g a n cap := by
 obtain ⟨hn, ⟨i, hh, hi, hblk⟩, hby⟩ := h
 refine ⟨hn, ⟨i, hh, hi, ?_⟩, ?_⟩
 ·rw [hg.block g (Array.getElem?_eq_some_iff.1 hblk).1 (by simp; omega)]; exact hblk
 ·intro j hj
  obtain ⟨b, off, x, e, hbg, hc, hx⟩ := hby j hj
  have := hab (by omega) b off e
  exact ⟨b, off, x, e, hbg, hg.cell hc (by simp; omega), hx⟩
theorem grown_new {w0 w w' : World} {g r : Nat} (h : w0.grownBy w (some g)) (k : w.grownBy w' (some r)) (hr : w0.heap.size ≤ r) : w0.grownBy w' (some g) :=
 ⟨k.os.trans h.os, k.tape.trans h.tape, k.output.trans h.output, Nat.le_trans h.size k.size, fun j hj hn => (k.block j (Nat.lt_of_lt_of_le hj h.size) (by simp; omega)).trans (h.block j hj hn)⟩
theorem bytes_any (g n cap : Nat) (a : Option Addr) (m : Nat) (w : World) (hc : Cur w g a n cap) (hab : Under a n g) (hm : m ≤ 4000) :
  Calls Tryz.prog 46 #[.pointer (some ⟨g, 0, none⟩), .int .i64 (m : Int)] w fun e w' => ∃ s : ByteArray, s.size = m ∧ e = .returned (.string s) ∧ w.grownBy w' (some g) ∧ Cur w' g a n cap := by
 obtain ⟨i0, hi, hz0, hz1, hz2⟩ := info_parts Tryz.infoByte
 have hgl := hc.lt
 go_enter Tryz.func46, Tryz.ntmps46
 go_wp2
 have ho1 : (w.alloc (.cells #[] 5)).ownsRow w.heap.size 5 1 (.slice (some ⟨w.heap.size, 0, none⟩) 0 0) 0 (([] : List Int).map (Value.int .u8)) :=
  World.ownsRow_lit w #[] 0 (Nat.le_refl _) (by unfold maxLen; omega) rfl
 go_loopw [5, 6] (fun v i wr => ∃ (k gg cap2 : Nat) (xs : List Int), k ≤ m ∧ i = .int .i64 k ∧ v = .slice (some ⟨gg, 0, none⟩) k cap2 ∧ w.heap.size ≤ gg ∧ wr.ownsRow w.heap.size 5 1 (.slice (some ⟨gg, 0, none⟩) k cap2) k (xs.map (Value.int .u8)) ∧ w.grownBy wr (some g) ∧ Cur wr g a n cap) (fun _ i _ => m - (intOf i).toNat)
 case atStart => exact ⟨0, _, _, [], Nat.zero_le _, rfl, rfl, Nat.le_refl _, ho1, World.grownBy_alloc _ _ _, hc.alloc _⟩
 case round =>
  obtain ⟨k, gg, cap2, xs, hk, rfl, rfl, hgg, hown, hgr, hcr⟩ := hrel
  clear ho1 hc
  by_cases hlt : k < m
  ·have hlti : (k : Int) < (m : Int) := by omega
   go_wp2_with fail
   refine (belowN_any g n cap a _ _ hcr).mono ?_
   rintro e w1 ⟨x, x0, x1, _, rfl, hg1, hc1⟩
   have x2 := x1 (by omega)
   have hown1 := hown.kept hg1 (.inr (by simp [Value.ownBlock]; omega))
   have hs1 : w.heap.size ≤ w1.heap.size := Nat.le_trans hgr.size hg1.size
   clear hown hcr x1
   go_wp2_with (at_builtin; refine wpList_append_lies _ (by rfl) _ _ 22 (by rfl) w.heap.size 5 i0 (.int .u8 0) 1 1 Tryz.underlying22 hi hz0 hz1 hz2 rfl (by decide) (.slice (some ⟨gg, 0, none⟩) k cap2) k _ (by rfl) (hown1.alloc _) ⟨w1.heap.size, 0, none⟩ 1 1 [.int .u8 x] (by rfl) (by rfl) (World.news_of_block (cs := #[.int .u8 x]) (t := 5) (fr := (0, 0)) (heap_alloc_new w1 _)) (by simp [Value.oneCell']) (by omega) (by unfold maxLen; omega) (by omega) (by simp; omega) (w1.heap.size + 1) (by simp) ?_; intro g2 cap3 w2 hown2 hgrow hat hltg)
   have hgrow' : (w1.alloc (.cells #[.int .u8 x] 5)).grownBy w2 (some gg) := hgrow
   go_roundw
   case rel => exact ⟨k + 1, g2, cap3, xs ++ [x], by omega, by go_num, rfl, (hown2.lt g2 rfl).1, by rw [List.map_append]; exact hown2, grown_new (grownBy_trans (grownBy_trans hgr hg1) (World.grownBy_alloc w1 _ _)) hgrow' hgg, (hc1.alloc _).far hgrow' (by omega) hab⟩
   case measure => simp [intOf]; omega
  ·have e : k = m := by omega
   subst e
   have hl : xs.length = k := by simpa using hown.1
   have HL : Hid (xs.length = k) := hl
   clear hl
   have hcv := run_convert_bytes_arg (P := Tryz.prog) wr 22 5 Tryz.underlying22 Tryz.underlying5 gg 0 k cap2 xs HL.out (fun i hi => by
    rw [Nat.zero_add, hown.cellAt i (by omega)]
    simp [HL.out, hi]) 9 Tryz.underlying9
   go_wp2
   go_ret
   exact ⟨_, by rw [strOfNums_size]; exact HL.out, rfl, hgr, hcr⟩
theorem below_g {w w1 w' : World} {g : Nat} (hb1 : Below w.heap.size w w1) (hg : w.heap.size ≤ g) (h : w1.grownBy w' (some g)) : Below w.heap.size w w' :=
 hb1.trans (below_of_grownBy h hg hb1.size)
abbrev pcC (r : ByteArray) (k n i : Int) (b : ByteArray) (v : Value) : Array Value := #[.string r, .int .i64 k, .int .i64 n, .int .i64 i, .string b, v]
abbrev pcV (r : ByteArray) (k n i : Int) (b : ByteArray) (v : Value) : Value := .agg (pcC r k n i b v)
theorem Tryz.infoPc : (Tryz.prog.info? 33).map (·.size) = some 6 := by kernel_rfl
theorem OwnT.setFar {w : World} {B g o : Nat} {a : Option Addr} {n c : Nat} {S : Nat → ByteArray} {v : Value} (h : OwnT w B a n c S) (hB : g < B) : OwnT (w.setCell ⟨g, o, none⟩ v) B a n c S :=
 own_kept h (grown_set _ _ _ _) (fun x e => by subst e; have := (World.ownsRow.lt h x.block rfl).1; omega)
def cW (b : Bool) (v o : Value) : Value := if b = true then v else o
theorem cW_y (v o : Value) : cW true v o = v := rfl
structure ApS (w1 W : World) (X : Nat) (r : ByteArray) (k n i : Int) (b : ByteArray) (S : Nat → ByteArray) (a : Option Addr) (c cap : Nat) (z : ByteArray) (x y : Value) (l4 l5 l7 : Bool) : Prop where
 fb : Below w1.heap.size w1 W
 fo : w1.heap.size ≤ X
 fl : X < W.heap.size
 fn : l4 = true → ∃ Y, x = .slice (some ⟨Y, 0, none⟩) 1 1 ∧ (l5 = false → W.heap[Y]? = some (.cells #[.string z] 9 (0, 0)))
 fp : l5 = false → Row W X 33 (pcC r k n i b (.slice a c cap)) ∧ OwnT W (X + 1) a c cap S
 fq : l5 = true → ∃ g cp, y = .slice (some ⟨g, 0, none⟩) (c + 1) cp ∧ OwnT W (X + 1) (some ⟨g, 0, none⟩) (c + 1) cp S ∧ (l7 = false → Row W X 33 (pcC r k n i b (.slice a c cap))) ∧ (l7 = true → Row W X 33 (pcC r k n i b y))
theorem ApS.start {w1 W : World} {X : Nat} {r : ByteArray} {k n i : Int} {b : ByteArray} {S : Nat → ByteArray} {a : Option Addr} {c cap : Nat} {z : ByteArray} {x y : Value}  (hb : Below w1.heap.size w1 W) (hX : w1.heap.size ≤ X) (hr : Row W X 33 (pcC r k n i b (.slice a c cap))) (ho : OwnT W (X + 1) a c cap S) : ApS w1 W X r k n i b S a c cap z x y false false false :=
 ⟨hb, hX, hr.lt, (fun h => by cases h), fun _ => ⟨hr, ho⟩, (fun h => by cases h)⟩
theorem ApS.old {w1 W : World} {X : Nat} {r : ByteArray} {k n i : Int} {b : ByteArray} {S : Nat → ByteArray} {a : Option Addr} {c cap : Nat} {z : ByteArray} {x y : Value} {l4 l7 : Bool} (h : ApS w1 W X r k n i b S a c cap z x y l4 false l7) : W.cell? ⟨X, 5, none⟩ = some (.slice a c cap) := by
 have := (h.fp rfl).1.cell 5
 simpa using this
theorem ApS.below {w1 W : World} {X : Nat} {r : ByteArray} {k n i : Int} {b : ByteArray} {S : Nat → ByteArray} {a : Option Addr} {c cap : Nat} {z : ByteArray} {x y : Value} {l7 : Bool} (h : ApS w1 W X r k n i b S a c cap z x y false false l7) {W' : World} (hb : Below W.heap.size W W') : ApS w1 W' X r k n i b S a c cap z x y false false l7 :=
 ⟨h.fb.trans (hb.mono h.fb.size), h.fo, Nat.lt_of_lt_of_le h.fl hb.size, (fun h => by cases h), fun _ => ⟨(h.fp rfl).1.below hb h.fl, (h.fp rfl).2.below hb⟩, (fun h => by cases h)⟩
theorem ApS.build {w1 W : World} {X : Nat} {r : ByteArray} {k n i : Int} {b : ByteArray} {S : Nat → ByteArray} {a : Option Addr} {c cap : Nat} {z : ByteArray} {x y : Value} {l7 : Bool} (h : ApS w1 W X r k n i b S a c cap z x y false false l7) : ApS w1 (W.alloc (.cells #[.string z] 9)) X r k n i b S a c cap z (.slice (some ⟨W.heap.size, 0, none⟩) 1 1) y true false l7 := by
 have hb : Below W.heap.size W (W.alloc (.cells #[.string z] 9)) := (Below.refl _ _).alloc (Nat.le_refl _) _
 have h1 := h.below hb
 exact ⟨h1.fb, h1.fo, h1.fl, fun _ => ⟨W.heap.size, rfl, fun _ => heap_alloc_new W _⟩, h1.fp, (fun h => by cases h)⟩
theorem ApS.put {w1 W : World} {X : Nat} {r : ByteArray} {k n i : Int} {b : ByteArray} {S : Nat → ByteArray} {a : Option Addr} {c cap : Nat} {z : ByteArray} {x y : Value}  (h : ApS w1 W X r k n i b S a c cap z x y true false false) (hz : S c = z) {g cp : Nat} {W' : World} (ho : W'.ownsRow (X + 1) 9 1 (.slice (some ⟨g, 0, none⟩) (c + 1) cp) (c + 1) (sL S c ++ [.string z])) (hg : W.grownBy W' (Value.slice a c cap).ownBlock) : ApS w1 W' X r k n i b S a c cap z x (.slice (some ⟨g, 0, none⟩) (c + 1) cp) true true false := by
 obtain ⟨hr, hO⟩ := h.fp rfl
 have hl := World.ownsRow.lt hO
 have hne : some X ≠ (Value.slice a c cap).ownBlock := fun e => by have := (hl X e.symm).1; omega
 have hwX := h.fo
 have hbs := h.fb.size
 obtain ⟨Y, hY, _⟩ := h.fn rfl
 refine ⟨h.fb.grown hg hbs (fun k hk => by have := (hl k hk).1; omega), h.fo, Nat.lt_of_lt_of_le h.fl hg.size, fun _ => ⟨Y, hY, (fun h => by cases h)⟩, (fun h => by cases h), fun _ => ⟨g, cp, rfl, ?_, fun _ => (hg.block X h.fl hne).trans hr, (fun h => by cases h)⟩⟩
 show World.ownsRow _ _ _ _ _ _ _
 rw [sL_snoc, hz]
 exact ho
theorem ApS.store {w1 W : World} {X : Nat} {r : ByteArray} {k n i : Int} {b : ByteArray} {S : Nat → ByteArray} {a : Option Addr} {c cap : Nat} {z : ByteArray} {x y : Value} {l4 : Bool} (h : ApS w1 W X r k n i b S a c cap z x y l4 true false) (hl4 : l4 = true) : ApS w1 (W.setCell ⟨X, 5, none⟩ y) X r k n i b S a c cap z x y l4 true true := by
 obtain ⟨g, cp, hy, hO, hr, _⟩ := h.fq rfl
 obtain ⟨Y, hY, _⟩ := h.fn hl4
 have hr1 := (hr rfl).set 5 y
 refine ⟨h.fb.setCell h.fo _, h.fo, ?_, fun _ => ⟨Y, hY, (fun h => by cases h)⟩, (fun h => by cases h), fun _ => ⟨g, cp, hy, hO.setFar (by omega), (fun h => by cases h), fun _ => ?_⟩⟩
 ·exact hr1.lt
 ·simpa using hr1
end Go.Proofs.YtihklfkhjpnjkaaGreatDoor
