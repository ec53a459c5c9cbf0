import Derived.Test.YtodnodekheaacaaGreatDoorG6
import Derived.Deep.Strs
import Derived.Deep.MidRow
import Derived.Deep.RegionHeld3
import Derived.Deep.AppendLies
import Derived.Test.YtodnodekheaacaaGreatDoorG5
import Derived.Test.YtodnodekheaacaaGreatDoorRows
set_option maxHeartbeats 8000000
set_option maxRecDepth 2000
open Go.ChangeShapes Go.WideShapes Go.ChangeAt Go.RowKit
namespace Go.Proofs.YtodnodekheaacaaGreatDoor
theorem Tryz.infoStr : (Tryz.prog.info? 9).map (fun i => (i.zero, i.size, i.bytes)) = some (some (.string ByteArray.empty), 1, 16) := by kernel_rfl
def TxtAt (w : World) (a : Option Addr) (n : Nat) (S : Nat → ByteArray) : Prop := ∀ i, i < n → ∃ b off, a = some ⟨b, off, none⟩ ∧ w.cell? ⟨b, off + i, none⟩ = some (.string (S i))
theorem TxtAt.below {w w' : World} {a : Option Addr} {n : Nat} {S : Nat → ByteArray} (h : TxtAt w a n S) (hb : Below w.heap.size w w') : TxtAt w' a n S := fun i hi => by
 obtain ⟨b, off, e, hc⟩ := h i hi
 exact ⟨b, off, e, (hb.cell (p := ⟨b, off + i, none⟩) (block_lt_of_cell hc)).trans hc⟩
theorem TxtAt.less {w : World} {a : Option Addr} {n m : Nat} {S : Nat → ByteArray} (h : TxtAt w a n S) (hm : m ≤ n) : TxtAt w a m S := fun i hi => h i (by omega)
theorem TxtAt.some {w : World} {a : Option Addr} {n : Nat} {S : Nat → ByteArray} (h : TxtAt w a n S) (hn : 0 < n) : ∃ b off, a = some ⟨b, off, none⟩ ∧ ∀ i, i < n → w.cell? ⟨b, off + i, none⟩ = .some (.string (S i)) := by
 obtain ⟨b, off, e, _⟩ := h 0 hn
 refine ⟨b, off, e, fun i hi => ?_⟩
 obtain ⟨b', off', e', hc⟩ := h i hi
 rw [e] at e'
 simp at e'
 obtain ⟨rfl, rfl⟩ := e'
 exact hc
def sL (S : Nat → ByteArray) (n : Nat) : List Value := (List.range n).map fun i => Value.string (S i)
theorem sL_len (S : Nat → ByteArray) (n : Nat) : (sL S n).length = n := by simp [sL]
theorem sL_get (S : Nat → ByteArray) (n i : Nat) (h : i < n) : (sL S n)[i]? = some (Value.string (S i)) := by simp [sL, h]
theorem sL_congr {S S' : Nat → ByteArray} {n : Nat} (h : ∀ i, i < n → S i = S' i) : sL S n = sL S' n := by
 unfold sL
 apply List.map_congr_left
 intro i hi
 rw [h i (List.mem_range.1 hi)]
theorem sL_snoc (S : Nat → ByteArray) (n : Nat) : sL S (n + 1) = sL S n ++ [Value.string (S n)] := by
 unfold sL
 rw [List.range_succ, List.map_append]
 rfl
theorem sL_set (S : Nat → ByteArray) (n k : Nat) (s : ByteArray) (h : k < n) : (sL S n).set k (.string s) = sL (fun i => if i = k then s else S i) n := by
 apply List.ext_getElem?
 intro i
 rw [List.getElem?_set]
 by_cases hi : i < n
 ·by_cases e : k = i
  ·subst e; simp [sL, h]
  ·simp [sL, hi, e, Ne.symm e]
 ·by_cases e : k = i
  ·omega
  ·rw [if_neg e, List.getElem?_eq_none (by rw [sL_len]; omega), List.getElem?_eq_none (by rw [sL_len]; omega)]
theorem sL_empty (n : Nat) : sL (fun _ => ByteArray.empty) n = List.replicate n (Value.string ByteArray.empty) := by
 apply List.ext_getElem?
 intro i
 by_cases hi : i < n
 ·rw [sL_get _ _ _ hi]; simp [hi]
 ·rw [List.getElem?_eq_none (by rw [sL_len]; omega), List.getElem?_eq_none (by simp; omega)]
def OwnT (w : World) (B : Nat) (a : Option Addr) (n cap : Nat) (S : Nat → ByteArray) : Prop := w.ownsRow B 9 1 (.slice a n cap) n (sL S n)
theorem OwnT.at {w : World} {B : Nat} {a : Option Addr} {n cap : Nat} {S : Nat → ByteArray} (h : OwnT w B a n cap S) : TxtAt w a n S := by
 intro i hi
 rcases own_shape h with ⟨rfl, rfl, rfl⟩ | ⟨g, cur, rfl, _⟩
 ·omega
 ·exact ⟨g, 0, rfl, by rw [Nat.zero_add, h.cellAt i (by omega), sL_get _ _ _ hi]⟩
theorem OwnT.below {w w' : World} {B : Nat} {a : Option Addr} {n cap : Nat} {S : Nat → ByteArray} (h : OwnT w B a n cap S) (hb : Below w.heap.size w w') : OwnT w' B a n cap S := ownsRow_below h hb
theorem OwnT.congr {w : World} {B : Nat} {a : Option Addr} {n cap : Nat} {S S' : Nat → ByteArray} (h : OwnT w B a n cap S) (e : ∀ i, i < n → S i = S' i) : OwnT w B a n cap S' := by
 unfold OwnT at *
 rw [← sL_congr e]
 exact h
theorem OwnT.base {w : World} {B B' : Nat} {a : Option Addr} {n cap : Nat} {S : Nat → ByteArray} (h : OwnT w B a n cap S) (hB : B' ≤ B) : OwnT w B' a n cap S := own_base h hB
theorem OwnT.nil (w : World) (B : Nat) (S : Nat → ByteArray) : OwnT w B none 0 0 S := World.ownsRow_nil w B _ _
theorem litT (w : World) (S : Nat → ByteArray) : OwnT (w.alloc (.cells #[] 9)) w.heap.size (some ⟨w.heap.size, 0, none⟩) 0 0 S :=
 World.ownsRow_lit w #[] 0 (Nat.le_refl _) (by unfold maxLen; omega) rfl
def ResT (w w' : World) (v : Value) (n : Nat) (S : Nat → ByteArray) : Prop := ∃ a cap, v = .slice a n cap ∧ OwnT w' w.heap.size a n cap S
theorem ResT.none (w w' : World) (S : Nat → ByteArray) : ResT w w' (.slice none 0 0) 0 S := ⟨_, _, rfl, OwnT.nil _ _ _⟩
theorem ResT.congr {w w' : World} {v : Value} {n : Nat} {S S' : Nat → ByteArray} (h : ResT w w' v n S) (e : ∀ i, i < n → S i = S' i) : ResT w w' v n S' := by
 obtain ⟨a, cap, rfl, ho⟩ := h
 exact ⟨a, cap, rfl, ho.congr e⟩
theorem ba_beq (s : ByteArray) : (s.toList == s.toList) = true := by simp
theorem ba_ne {s u : ByteArray} (h : s ≠ u) : (s.toList == u.toList) = false := by
 rw [ByteArray.toList_eq, ByteArray.toList_eq]
 simp only [beq_eq_false_iff_ne, ne_eq]
 intro e
 exact h (ByteArray.ext (Array.toList_inj.1 e))
theorem sameT_same (a b : Option Addr) (n ca cb : Nat) (S : Nat → ByteArray) (w : World) (ha : TxtAt w a n S) (hb : TxtAt w b n S) (hn : n ≤ 1048576) :
  Calls Tryz.prog 39 #[.slice a n ca, .slice b n cb] w fun e w' => e = .returned (.bool true) ∧ Below w.heap.size w w' := by
 go_enter Tryz.func39, Tryz.ntmps39
 go_wp2
 go_loopw [5] (fun i wr => ∃ k : Nat, k ≤ n ∧ i = .int .i64 k ∧ Below w.heap.size w wr) (fun i _ => n - (intOf i).toNat)
 case atStart => exact ⟨0, Nat.zero_le _, rfl, Below.refl _ _⟩
 case round =>
  obtain ⟨k, hk, rfl, hbel⟩ := hrel
  have ha' := ha.below hbel
  have hb' := hb.below hbel
  clear ha hb
  by_cases hlt : k < n
  ·obtain ⟨ba, oa, rfl, hca⟩ := ha' k hlt
   obtain ⟨bb, ob, rfl, hcb⟩ := hb' k hlt
   have hlti : (k : Int) < (n : Int) := by omega
   clear ha' hb'
   generalize S k = s at hca hcb
   have hbq := ba_beq s
   go_wp2
   go_quiet (fail)
   go_wp2
   go_roundw
   case rel => exact ⟨k + 1, by omega, by go_num, below_drewN hbel _⟩
   case measure => simp [intOf]; omega
  ·go_wp2
   go_ret
   exact ⟨rfl, hbel⟩
abbrev pcC (r : ByteArray) (k n i : Int) (b : ByteArray) (v : Value) : Array Value := #[.string r, .int .i64 k, .int .i64 n, .int .i64 i, .string b, v]
abbrev pcV (r : ByteArray) (k n i : Int) (b : ByteArray) (v : Value) : Value := .agg (pcC r k n i b v)
theorem Tryz.infoPc : (Tryz.prog.info? 30).map (·.size) = some 6 := by kernel_rfl
theorem OwnT.setFar {w : World} {B g o : Nat} {a : Option Addr} {n c : Nat} {S : Nat → ByteArray} {v : Value} (h : OwnT w B a n c S) (hB : g < B) : OwnT (w.setCell ⟨g, o, none⟩ v) B a n c S :=
 own_kept h (grown_set _ _ _ _) (fun x e => by subst e; have := (World.ownsRow.lt h x.block rfl).1; omega)
end Go.Proofs.YtodnodekheaacaaGreatDoor
