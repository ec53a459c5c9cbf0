import Derived.Test.YtodnodekheaacaaGreatDoorI15
import Derived.Test.YtodnodekheaacaaGreatDoorI7
set_option maxHeartbeats 8000000
set_option maxRecDepth 2000
namespace Go.Proofs.YtodnodekheaacaaGreatDoor
open Go.ChangeShapes Go.WideShapes Go.ChangeAt Go.RowKit Go.Shelf
open Gt (hf up nb pl)
def pfB (n : Nat) (S : Nat → ByteArray) (i : Int) : Bool := lvB n S && inT i (n : Int)
def pfR (n : Nat) (S : Nat → ByteArray) (i : Int) : Nat := if pfB n S i = true then pl i.toNat n else 0
def pfF (n : Nat) (S : Nat → ByteArray) (i : Int) : Nat → ByteArray := Gt.pf n S i.toNat
structure Kp (X : Nat → Prop) (W W' : World) : Prop where
 os : W'.os = W.os
 tape : W'.tape = W.tape
 output : W'.output = W.output
 size : W.heap.size ≤ W'.heap.size
 block : ∀ j, j < W.heap.size → ¬ X j → W'.heap[j]? = W.heap[j]?
theorem Kp.trans {X : Nat → Prop} {A B C : World} (h : Kp X A B) (k : Kp X B C) : Kp X A C :=
 ⟨k.os.trans h.os, k.tape.trans h.tape, k.output.trans h.output, Nat.le_trans h.size k.size, fun j hj hx => (k.block j (Nat.lt_of_lt_of_le hj h.size) hx).trans (h.block j hj hx)⟩
theorem Kp.below {X : Nat → Prop} {A B : World} (h : Below A.heap.size A B) : Kp X A B := ⟨h.os, h.tape, h.output, h.size, fun j hj _ => h.block j hj⟩
theorem Kp.grown {X : Nat → Prop} {A B : World} {g : Nat} (h : A.grownBy B (some g)) (hx : X g) : Kp X A B := ⟨h.os, h.tape, h.output, h.size, fun j hj hn => h.block j hj (fun e => by cases e; exact hn hx)⟩
theorem Kp.set {X : Nat → Prop} (A : World) (g i : Nat) (v : Value) (hx : X g) : Kp X A (A.setCell ⟨g, i, none⟩ v) := Kp.grown (grown_set A g i v) hx
theorem Kp.base {X : Nat → Prop} {N : Nat} {w A B : World} (h : Kp X A B) (hb : Below N w A) (hN : N ≤ A.heap.size) (hx : ∀ j, j < N → ¬ X j) : Below N w B :=
 hb.trans ⟨h.os, h.tape, h.output, h.size, fun j hj => h.block j (by omega) (hx j hj)⟩
theorem app_one {W9 : World} {Bm Bs Bl G c cp : Nat} {vs vl : Array Value} {O : Nat → ByteArray} (z : ByteArray) (ho : OwnT W9 Bm (some ⟨G, 0, none⟩) c cp O) (rs : Row W9 Bs 147 vs) (rl : Row W9 Bl 28 vl) (hs : G ≠ Bs) (hl : G ≠ Bl) (hc : c ≤ 64) :
  ∃ g3 c3 w3, (Builtin.append_ #[28, 28] 28 #[.slice (some ⟨G, 0, none⟩) c cp, .slice (some ⟨W9.heap.size, 0, none⟩) 1 1]).run Tryz.prog (W9.alloc (.cells #[.string z] 9)) = .ok (.slice (some ⟨g3, 0, none⟩) (c + 1) c3) w3 ∧
   Hid (OwnT w3 Bm (some ⟨g3, 0, none⟩) (c + 1) c3 (fun j => if j = c then z else O j) ∧ Row w3 Bs 147 vs ∧ Row w3 Bl 28 vl ∧ (g3 = G ∨ W9.heap.size < g3) ∧ Kp (fun j => j = G ∨ j = Bs ∨ j = Bl) W9 w3) := by
 obtain ⟨i0, hi, hz0, hz1, hz2⟩ := info_parts Tryz.infoStr
 have hb := (World.ownsRow.lt ho _ rfl)
 obtain ⟨g3, c3, w3, hrun, hown3, hgrow3, hat3, hlt3⟩ := run_append_lies (P := Tryz.prog) (W9.alloc (.cells #[.string z] 9)) 28 28 Bm 9 i0 (.string ByteArray.empty) 1 16 Tryz.underlying28 hi hz0 hz1 hz2 rfl (by decide) (.slice (some ⟨G, 0, none⟩) c cp) c _ (World.ownsRow.alloc ho _) ⟨W9.heap.size, 0, none⟩ 1 1 [.string z] (by rfl) (World.news_of_block (cs := #[.string z]) (t := 9) (fr := (0, 0)) (heap_alloc_new W9 _)) (by simp [Value.oneCell']) (by omega) (by unfold maxLen; omega) (by omega) (by simp; omega) (W9.heap.size + 1) (by simp)
 have hgr : (W9.alloc (.cells #[.string z] 9)).grownBy w3 (some G) := hgrow3
 refine ⟨g3, c3, w3, hrun, ?_, (rs.alloc _).grown hgr (Ne.symm hs), (rl.alloc _).grown hgr (Ne.symm hl), ?_, ?_⟩
 ·have hx : sL (fun j => if j = c then z else O j) (c + 1) = sL O c ++ [Value.string z] := by
   rw [sL_snoc, sL_congr (S' := O) (fun i hi => by rw [if_neg (by omega)])]
   simp
  unfold OwnT
  rw [hx]
  exact hown3
 ·rcases hat3 with h | h
  ·left; have h' : some G = some g3 := h; cases h'; rfl
  ·right; omega
 ·exact (Kp.below ((Below.refl _ W9).alloc (Nat.le_refl _) _)).trans (Kp.grown hgr (.inl rfl))
theorem proof_no (a : Option Addr) (n cap : Nat) (S : Nat → ByteArray) (i : Int) (w : World) (h : TxtAt w a n S) (hn : n ≤ 1048576) (hL : ∀ i, i < n → (S i).size ≤ maxLen) (hno : pfB n S i = false) :
  Calls Tryz.prog 71 #[.slice a n cap, .int .i64 i] w fun e w' => ∃ v, e = .returned (.tuple #[v, .bool false]) ∧ ResT w w' v 0 (pfF n S i) ∧ Below w.heap.size w w' := by
 have KL : Hid (∃ (T : Nat → ByteArray) (m : Nat), Calls Tryz.prog 104 #[.slice a n cap] w fun e w' => e = .returned (.tuple #[RwV T m, .bool (lvB n S)]) ∧ Below w.heap.size w w') := by
  cases hB : lvB n S with
  | false => exact ⟨_, _, leafRow_no a n cap S w h hn hL hB⟩
  | true => exact ⟨_, _, leafRow_yes a n cap S w h hB⟩
 obtain ⟨T, m, KL2⟩ := KL.out
 have KC : Hid (Calls Tryz.prog 104 #[.slice a n cap] w fun e w' => e = .returned (.tuple #[RwV T m, .bool (lvB n S)]) ∧ Below w.heap.size w w') := KL2
 clear KL KL2 h hL
 obtain ⟨F, HF⟩ : ∃ F, Hid (pfF n S i = F) := ⟨_, rfl⟩
 rw [HF.out]
 unfold pfB at hno
 have KT : Hid (∀ w0, Calls Tryz.prog 105 #[SpV i (n : Int)] w0 fun e w' => e = .returned (.bool (inT i (n : Int))) ∧ Below w0.heap.size w0 w') := fun w0 => isInTree_any i (n : Int) w0
 cases hB : lvB n S with
 | false =>
  rw [hB] at KC
  go_enter Tryz.func71, Tryz.ntmps71
  go_wp2_with fail
  refine KC.out.mono ?_
  rintro e w1 ⟨rfl, hb1⟩
  have HS : Hid ((w1.alloc (.cells (rowC noT 0) 143)).setRow w1.heap.size (rowC T m) = w1.alloc (.cells (rowC T m) 143)) := setRow_alloc _ _ _ _
  go_wp2_with (first | (refine p_alloc (by rfl) (by rfl) ?_) | (refine p_store (by rfl) _ _ (by rfl) w1.heap.size (by rfl) T m (by rfl) noT 0 (Row.new w1 _ _) ?_; rw [HS.out]))
  go_ret2
  have HL := litT ((w1.alloc (.cells (rowC T m) 143)).alloc (.cells #[.int .i64 i, .int .i64 (n : Int)] 147)) F
  simp only [World.size_alloc] at HL
  exact ⟨_, rfl, ⟨_, _, rfl, HL.base (by have := hb1.size; omega)⟩, ((hb1.alloc hb1.size _).alloc (by simp; have := hb1.size; omega) _).alloc (by simp; have := hb1.size; omega) _⟩
 | true =>
  rw [hB] at KC hno
  have hin : inT i (n : Int) = false := by simpa using hno
  rw [hin] at KT
  go_enter Tryz.func71, Tryz.ntmps71
  go_wp2_with fail
  refine KC.out.mono ?_
  rintro e w1 ⟨rfl, hb1⟩
  have HS : Hid ((w1.alloc (.cells (rowC noT 0) 143)).setRow w1.heap.size (rowC T m) = w1.alloc (.cells (rowC T m) 143)) := setRow_alloc _ _ _ _
  go_wp2_with (first | (refine p_alloc (by rfl) (by rfl) ?_) | (refine p_store (by rfl) _ _ (by rfl) w1.heap.size (by rfl) T m (by rfl) noT 0 (Row.new w1 _ _) ?_; rw [HS.out]) | (go_at_call 105; refine (KT.out _).mono ?_; rintro e w5 ⟨rfl, hb5⟩))
  go_ret2
  have hb := below2 ((hb1.alloc hb1.size (.cells (rowC T m) 143)).alloc (by simp; have := hb1.size; omega) _) hb5
  exact ⟨_, rfl, ⟨_, _, rfl, (litT _ F).base (by have := hb.size; omega)⟩, hb.alloc hb.size _⟩
end Go.Proofs.YtodnodekheaacaaGreatDoor
