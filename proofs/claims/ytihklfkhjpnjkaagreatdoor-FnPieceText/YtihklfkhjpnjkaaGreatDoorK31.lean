import Derived.Test.YtihklfkhjpnjkaaGreatDoorK24
import Derived.Test.YtihklfkhjpnjkaaGreatDoorK27
import Derived.Test.YtihklfkhjpnjkaaGreatDoorK26
import Derived.Test.YtihklfkhjpnjkaaGreatDoorK12
import Derived.Test.YtihklfkhjpnjkaaGreatDoorK22
import Derived.Test.YtihklfkhjpnjkaaGreatDoorK20
import Derived.Lib.CountLaws
import Derived.Lib.Split
import Derived.Lib.AtoiAll
import Derived.Test.YtihklfkhjpnjkaaGreatDoorK28
import Derived.Test.YtihklfkhjpnjkaaGreatDoorK9
import Derived.Test.YtihklfkhjpnjkaaGreatDoorK18
import Derived.Test.YtihklfkhjpnjkaaGreatDoorK6
import Derived.Deep.RegionHeld3
import Derived.Test.YtihklfkhjpnjkaaGreatDoorK13
set_option maxHeartbeats 8000000
set_option maxRecDepth 2000
open Go.ChangeShapes Go.WideShapes Go.ChangeAt Go.RowKit
namespace Go.Proofs.YtihklfkhjpnjkaaGreatDoor
def kOk (k n : Int) (b : ByteArray) : Prop := 1 ≤ k ∧ k ≤ n ∧ n ≤ 16 ∧ 1 ≤ b.size ∧ b.size ≤ 2002
instance (k n : Int) (b : ByteArray) : Decidable (kOk k n b) := by unfold kOk; exact inferInstance
noncomputable def okP (r : ByteArray) (k n i : Int) (b : ByteArray) (m : Nat) (S : Nat → ByteArray) : Bool := if kOk k n b then pvB r (plf k n i b) i n m S else false
theorem okP_no {r : ByteArray} {k n i : Int} {b : ByteArray} {m : Nat} {S : Nat → ByteArray} (h : ¬ kOk k n b) : okP r k n i b m S = false := if_neg h
theorem okP_yes {r : ByteArray} {k n i : Int} {b : ByteArray} {m : Nat} {S : Nat → ByteArray} (h : kOk k n b) : okP r k n i b m S = pvB r (plf k n i b) i n m S := if_pos h
theorem pvB_out {r x : ByteArray} {i n : Int} {m : Nat} {S : Nat → ByteArray} (h : ¬ (0 ≤ i ∧ i ≤ n - 1)) : pvB r x i n m S = false := by
 unfold pvB
 cases hB : prB x i n m S with
 | false => rfl
 | true =>
  obtain ⟨_, h2, _⟩ := prB_parts hB
  have := plI_in (i := i) (n := n) (by omega)
  simp [inT] at this
  omega
theorem pvB_parts {r x : ByteArray} {i n : Int} {m : Nat} {S : Nat → ByteArray} (h : pvB r x i n m S = true) : 0 ≤ i ∧ i < n ∧ n ≤ 64 ∧ r.size = 16 ∧ m ≤ 6 ∧ ∀ j, j < m → (S j).size = 16 := by
 unfold pvB at h
 rw [Bool.and_eq_true] at h
 obtain ⟨h1, h2⟩ := h
 obtain ⟨h3, h4, h5⟩ := prB_parts h1
 have h6 := plI_in (i := i) (n := n) (by omega)
 have h7 : 0 ≤ i ∧ i < n ∧ n ≤ 64 := by simp [inT] at h6; omega
 have h8 : plI i n ≤ 6 := by
  unfold plI
  rw [if_pos h6]
  have := Gt.pl_le 6 i.toNat n.toNat (by omega)
  omega
 refine ⟨h7.1, h7.2.1, h7.2.2, ?_, by omega, h5⟩
 have h9 := of_decide_eq_true h2
 rw [← h9]
 unfold prS
 rw [if_pos h1]
 exact Gt.pr_size _ _ _ h3
theorem sprOk_is {k n : Int} (h1 : 1 ≤ k) (h2 : k ≤ n) (h3 : n ≤ 16) : sprOk k n = true := by unfold sprOk side; simp; omega
theorem pieceOk_any (r : ByteArray) (k n i : Int) (b : ByteArray) (a : Option Addr) (m cap : Nat) (S : Nat → ByteArray) (w : World) (h : TxtAt w a m S) (hm : m ≤ 1048576) (hL : ∀ i, i < m → (S i).size ≤ maxLen) :
  Calls Tryz.prog 13 #[pcV r k n i b (.slice a m cap)] w fun e w' => e = .returned (.bool (okP r k n i b m S)) ∧ Below w.heap.size w w' := by
 obtain ⟨sz, hsz⟩ : ∃ sz, b.size = sz := ⟨_, rfl⟩
 have hb0 : Below w.heap.size w (w.alloc (.cells (pcC r k n i b (.slice a m cap)) 33)) := (Below.refl _ _).alloc (Nat.le_refl _) _
 have HB0 : Hid (Below w.heap.size w (w.alloc (.cells (pcC r k n i b (.slice a m cap)) 33))) := hb0
 by_cases c1 : k < 1
 ·rw [okP_no (by unfold kOk; omega)]
  clear h hL hb0
  go_enter Tryz.func13, Tryz.ntmps13
  go_wp2
  go_ret
  exact ⟨rfl, HB0.out⟩
 by_cases c2 : n < k
 ·rw [okP_no (by unfold kOk; omega)]
  clear h hL hb0
  go_enter Tryz.func13, Tryz.ntmps13
  go_wp2
  go_ret
  exact ⟨rfl, HB0.out⟩
 by_cases c3 : 16 < n
 ·rw [okP_no (by unfold kOk; omega)]
  clear h hL hb0
  go_enter Tryz.func13, Tryz.ntmps13
  go_wp2
  go_ret
  exact ⟨rfl, HB0.out⟩
 by_cases c4 : (sz : Int) < 1
 ·rw [okP_no (by unfold kOk; omega)]
  clear h hL hb0
  go_enter Tryz.func13, Tryz.ntmps13
  go_wp2
  go_ret
  exact ⟨rfl, HB0.out⟩
 by_cases c5 : 2002 < (sz : Int)
 ·rw [okP_no (by unfold kOk; omega)]
  clear h hL hb0
  go_enter Tryz.func13, Tryz.ntmps13
  go_wp2
  go_ret
  exact ⟨rfl, HB0.out⟩
 rw [okP_yes (by unfold kOk; omega)]
 obtain ⟨w0, HW0⟩ : ∃ x, Hid (x = w.alloc (.cells (pcC r k n i b (.slice a m cap)) 33)) := ⟨_, rfl⟩
 obtain ⟨B, HB⟩ : ∃ x, Hid (x = w.heap.size) := ⟨_, rfl⟩
 rw [← HW0.out] at HB0 hb0
 have HR : Hid (Row w0 B 33 (pcC r k n i b (.slice a m cap))) := by show Row _ _ _ _; rw [HW0.out, HB.out]; exact Row.new w _ _
 have KL : Hid (∀ W, Calls Tryz.prog 17 #[.int .i64 k, .int .i64 n, .int .i64 i, .string b] W fun e w' => e = .returned (.string (plf k n i b)) ∧ Below W.heap.size W w') := fun W => pieceLeaf_any k n i b W (by omega)
 have KP : Hid (∀ W, Below w0.heap.size w0 W → Calls Tryz.prog 36 #[.string r, .string (plf k n i b), .int .i64 i, .int .i64 n, .slice a m cap] W fun e w' => e = .returned (.bool (pvB r (plf k n i b) i n m S)) ∧ Below W.heap.size W w') := fun W hW => proved_any r (plf k n i b) i n a m cap S W ((h.below hb0).below hW) hm hL
 generalize plf k n i b = x at KL KP ⊢
 generalize pvB r x i n m S = ans at KP ⊢
 have q0 := HR.out.cell 0
 have q1 := HR.out.cell 1
 have q2 := HR.out.cell 2
 have q3 := HR.out.cell 3
 have q4 := HR.out.cell 4
 have q5 := HR.out.cell 5
 have lB := HR.out.lt
 simp at q0 q1 q2 q3 q4 q5
 clear h hL hb0
 go_enter Tryz.func13, Tryz.ntmps13
 go_wp2_with fail
 rw [← HW0.out, ← HB.out]
 go_region_held3 (fun w' => w'.cell? ⟨B, 0, none⟩ = some (.string r) ∧ w'.cell? ⟨B, 1, none⟩ = some (.int .i64 k) ∧ w'.cell? ⟨B, 2, none⟩ = some (.int .i64 n) ∧ w'.cell? ⟨B, 3, none⟩ = some (.int .i64 i) ∧ w'.cell? ⟨B, 4, none⟩ = some (.string b) ∧ w'.cell? ⟨B, 5, none⟩ = some (.slice a m cap)) (go_keep) ((first | (go_at_call 17; refine Calls.mono (KL.out _) ?_; rintro e w5 ⟨rfl, hb5'⟩; have hb5 := below_of_drew hb5'; clear hb5'; have p0 := (hb5.cell (p := ⟨B, 0, none⟩) lB).trans q0; have p1 := (hb5.cell (p := ⟨B, 1, none⟩) lB).trans q1; have p2 := (hb5.cell (p := ⟨B, 2, none⟩) lB).trans q2; have p3 := (hb5.cell (p := ⟨B, 3, none⟩) lB).trans q3; have p4 := (hb5.cell (p := ⟨B, 4, none⟩) lB).trans q4; have p5 := (hb5.cell (p := ⟨B, 5, none⟩) lB).trans q5) | (guard_hyp hb5; go_at_call 36; refine Calls.mono (KP.out _ hb5) ?_; rintro e w6 ⟨rfl, hb6⟩; have hb56 := below2 hb5 hb6; have u0 := (hb56.cell (p := ⟨B, 0, none⟩) lB).trans q0; have u1 := (hb56.cell (p := ⟨B, 1, none⟩) lB).trans q1; have u2 := (hb56.cell (p := ⟨B, 2, none⟩) lB).trans q2; have u3 := (hb56.cell (p := ⟨B, 3, none⟩) lB).trans q3; have u4 := (hb56.cell (p := ⟨B, 4, none⟩) lB).trans q4; have u5 := (hb56.cell (p := ⟨B, 5, none⟩) lB).trans q5)))
 all_goals
  go_wp2
  go_ret
  exact ⟨rfl, HB0.out.trans ((below2 hb5 hb6).mono HB0.out.size)⟩
theorem sPieceOk_any (r : ByteArray) (k n i : Int) (b : ByteArray) (a : Option Addr) (m cap : Nat) (S : Nat → ByteArray) (w : World) (h : TxtAt w a m S) (hm : m ≤ 1048576) (hL : ∀ i, i < m → (S i).size ≤ maxLen) :
  Calls Tryz.prog 23 #[pcV r k n i b (.slice a m cap)] w fun e w' => e = .returned (.bool (okP r k n i b m S)) ∧ Below w.heap.size w w' := by
 obtain ⟨sz, hsz⟩ : ∃ sz, b.size = sz := ⟨_, rfl⟩
 have hb0 : Below w.heap.size w (w.alloc (.cells (pcC r k n i b (.slice a m cap)) 33)) := (Below.refl _ _).alloc (Nat.le_refl _) _
 have HB0 : Hid (Below w.heap.size w (w.alloc (.cells (pcC r k n i b (.slice a m cap)) 33))) := hb0
 have KO : Hid (∀ W, Calls Tryz.prog 59 #[.int .i64 k, .int .i64 n] W fun e w' => e = .returned (.bool (sprOk k n)) ∧ w' = W) := fun W => s4Ok_any k n W
 have KI : Hid (∀ x y z W, Calls Tryz.prog 60 #[.int .i64 x, .int .i64 y, .int .i64 z] W fun e w' => e = .returned (.bool (inB x y z)) ∧ w' = W) := fun x y z W => sIn_any x y z W
 cases c1 : sprOk k n with
 | false =>
  rw [okP_no (by unfold kOk; intro hk; rw [sprOk_is hk.1 hk.2.1 hk.2.2.1] at c1; cases c1)]
  rw [c1] at KO
  clear h hL hb0
  go_enter Tryz.func23, Tryz.ntmps23
  go_wp2_with (go_at_call 59; refine (KO.out _).mono ?_; rintro e w' ⟨rfl, hw⟩; obtain rfl := hw.symm)
  go_ret
  exact ⟨rfl, HB0.out⟩
 | true =>
 rw [c1] at KO
 obtain ⟨k1, k2, k3⟩ := sprOk_parts c1
 have hwn : IntKind.i64.wrap (n - 1) = n - 1 := by rw [IntKind.wrap_i64]; omega
 cases c2 : inB i 0 (n - 1) with
 | false =>
  rw [show okP r k n i b m S = false by unfold okP; rw [pvB_out (by simp [inB] at c2; omega)]; simp]
  have KI2 : Hid (∀ W, Calls Tryz.prog 60 #[.int .i64 i, .int .i64 0, .int .i64 (n - 1)] W fun e w' => e = .returned (.bool false) ∧ w' = W) := fun W => by have := KI.out i 0 (n - 1) W; rw [c2] at this; exact this
  clear h hL hb0 k1 k2 k3
  go_enter Tryz.func23, Tryz.ntmps23
  go_wp2_with (first | (go_at_call 59; refine (KO.out _).mono ?_; rintro e w' ⟨rfl, hw⟩; obtain rfl := hw.symm) | (go_at_call 60; refine (KI2.out _).mono ?_; rintro e w' ⟨rfl, hw⟩; obtain rfl := hw.symm))
  go_ret
  exact ⟨rfl, HB0.out⟩
 | true =>
 have KI2 : Hid (∀ W, Calls Tryz.prog 60 #[.int .i64 i, .int .i64 0, .int .i64 (n - 1)] W fun e w' => e = .returned (.bool true) ∧ w' = W) := fun W => by have := KI.out i 0 (n - 1) W; rw [c2] at this; exact this
 cases c3 : inB (sz : Int) 1 2002 with
 | false =>
  rw [okP_no (by unfold kOk; simp [inB] at c3; omega)]
  have KI3 : Hid (∀ W, Calls Tryz.prog 60 #[.int .i64 (sz : Int), .int .i64 1, .int .i64 2002] W fun e w' => e = .returned (.bool false) ∧ w' = W) := fun W => by have := KI.out (sz : Int) 1 2002 W; rw [c3] at this; exact this
  clear h hL hb0 k1 k2 k3
  go_enter Tryz.func23, Tryz.ntmps23
  go_wp2_with fail
  refine (KO.out _).mono ?_
  rintro e w' ⟨rfl, hw⟩
  obtain rfl := hw.symm
  clear hw
  go_wp2_with fail
  refine (KI2.out _).mono ?_
  rintro e w' ⟨rfl, hw⟩
  obtain rfl := hw.symm
  clear hw
  go_wp2_with fail
  refine (KI3.out _).mono ?_
  rintro e w' ⟨rfl, hw⟩
  obtain rfl := hw.symm
  clear hw
  go_wp2
  go_ret
  exact ⟨rfl, HB0.out⟩
 | true =>
 have KI3 : Hid (∀ W, Calls Tryz.prog 60 #[.int .i64 (sz : Int), .int .i64 1, .int .i64 2002] W fun e w' => e = .returned (.bool true) ∧ w' = W) := fun W => by have := KI.out (sz : Int) 1 2002 W; rw [c3] at this; exact this
 have c34 : 1 ≤ sz ∧ sz ≤ 2002 := by simp [inB] at c3; omega
 rw [okP_yes (by unfold kOk; omega)]
 obtain ⟨w0, HW0⟩ : ∃ x, Hid (x = w.alloc (.cells (pcC r k n i b (.slice a m cap)) 33)) := ⟨_, rfl⟩
 obtain ⟨B, HB⟩ : ∃ x, Hid (x = w.heap.size) := ⟨_, rfl⟩
 rw [← HW0.out] at HB0 hb0
 have HR : Hid (Row w0 B 33 (pcC r k n i b (.slice a m cap))) := by show Row _ _ _ _; rw [HW0.out, HB.out]; exact Row.new w _ _
 have KL : Hid (∀ W, Calls Tryz.prog 18 #[.int .i64 k, .int .i64 n, .int .i64 i, .string b] W fun e w' => e = .returned (.string (plf k n i b)) ∧ Below W.heap.size W w') := fun W => sPieceLeaf_any k n i b W (by omega)
 have KP : Hid (∀ W, Below w0.heap.size w0 W → Calls Tryz.prog 61 #[.string r, .string (plf k n i b), .int .i64 i, .int .i64 n, .slice a m cap] W fun e w' => e = .returned (.bool (pvB r (plf k n i b) i n m S)) ∧ Below W.heap.size W w') := fun W hW => sProved_any r (plf k n i b) i n a m cap S W ((h.below hb0).below hW) hm hL
 generalize plf k n i b = x at KL KP ⊢
 generalize pvB r x i n m S = ans at KP ⊢
 have q0 := HR.out.cell 0
 have q1 := HR.out.cell 1
 have q2 := HR.out.cell 2
 have q3 := HR.out.cell 3
 have q4 := HR.out.cell 4
 have q5 := HR.out.cell 5
 have lB := HR.out.lt
 simp at q0 q1 q2 q3 q4 q5
 clear h hL hb0 k1 k2 k3 c34 KI
 go_enter Tryz.func23, Tryz.ntmps23
 go_wp2_with fail
 refine (KO.out _).mono ?_
 rintro e w' ⟨rfl, hw⟩
 obtain rfl := hw.symm
 clear hw
 go_wp2_with fail
 refine (KI2.out _).mono ?_
 rintro e w' ⟨rfl, hw⟩
 obtain rfl := hw.symm
 clear hw
 go_wp2_with fail
 refine (KI3.out _).mono ?_
 rintro e w' ⟨rfl, hw⟩
 obtain rfl := hw.symm
 clear hw
 go_wp2_with fail
 rw [← HW0.out, ← HB.out]
 go_region_held3 (fun w' => w'.cell? ⟨B, 0, none⟩ = some (.string r) ∧ w'.cell? ⟨B, 1, none⟩ = some (.int .i64 k) ∧ w'.cell? ⟨B, 2, none⟩ = some (.int .i64 n) ∧ w'.cell? ⟨B, 3, none⟩ = some (.int .i64 i) ∧ w'.cell? ⟨B, 4, none⟩ = some (.string b) ∧ w'.cell? ⟨B, 5, none⟩ = some (.slice a m cap)) (go_keep) ((first | (go_at_call 18; refine Calls.mono (KL.out _) ?_; rintro e w5 ⟨rfl, hb5'⟩; have hb5 := below_of_drew hb5'; clear hb5'; have p0 := (hb5.cell (p := ⟨B, 0, none⟩) lB).trans q0; have p1 := (hb5.cell (p := ⟨B, 1, none⟩) lB).trans q1; have p2 := (hb5.cell (p := ⟨B, 2, none⟩) lB).trans q2; have p3 := (hb5.cell (p := ⟨B, 3, none⟩) lB).trans q3; have p4 := (hb5.cell (p := ⟨B, 4, none⟩) lB).trans q4; have p5 := (hb5.cell (p := ⟨B, 5, none⟩) lB).trans q5) | (guard_hyp hb5; go_at_call 61; refine Calls.mono (KP.out _ hb5) ?_; rintro e w6 ⟨rfl, hb6⟩; have hb56 := below2 hb5 hb6; have u0 := (hb56.cell (p := ⟨B, 0, none⟩) lB).trans q0; have u1 := (hb56.cell (p := ⟨B, 1, none⟩) lB).trans q1; have u2 := (hb56.cell (p := ⟨B, 2, none⟩) lB).trans q2; have u3 := (hb56.cell (p := ⟨B, 3, none⟩) lB).trans q3; have u4 := (hb56.cell (p := ⟨B, 4, none⟩) lB).trans q4; have u5 := (hb56.cell (p := ⟨B, 5, none⟩) lB).trans q5)))
 all_goals
  go_wp2
  go_ret
  exact ⟨rfl, HB0.out.trans ((below2 hb5 hb6).mono HB0.out.size)⟩
def wd : List UInt8 → List UInt8 → List (List UInt8)
 | acc, [] => [acc]
 | acc, c :: l => if c = 32 then acc :: wd [] l else wd (acc ++ [c]) l
theorem wd_app (u : List UInt8) : ∀ acc y, wd acc (u ++ 32 :: y) = wd acc u ++ wd [] y := by
 induction u with
 | nil => intro acc y; simp [wd]
 | cons c u ih =>
  intro acc y
  show (if c = 32 then acc :: wd [] (u ++ 32 :: y) else wd (acc ++ [c]) (u ++ 32 :: y)) = (if c = 32 then acc :: wd [] u else wd (acc ++ [c]) u) ++ _
  split
  ·rw [ih]; rfl
  ·rw [ih]
theorem wd_no (l : List UInt8) : ∀ acc, (32 : UInt8) ∉ l → wd acc l = [acc ++ l] := by
 induction l with
 | nil => intro acc _; simp [wd]
 | cons c l ih =>
  intro acc h
  have hc : ¬ c = 32 := fun e => h (by simp [e])
  show (if c = 32 then _ else _) = _
  rw [if_neg hc, ih _ (fun e => h (by simp [e]))]
  simp
theorem wd_sum (l : List UInt8) : ∀ acc, ((wd acc l).map List.length).sum + (wd acc l).length = acc.length + l.length + 1 := by
 induction l with
 | nil => intro acc; simp [wd]
 | cons c l ih =>
  intro acc
  show (((if c = 32 then acc :: wd [] l else wd (acc ++ [c]) l)).map List.length).sum + (if c = 32 then acc :: wd [] l else wd (acc ++ [c]) l).length = _
  split
  ·have := ih []
   simp at this ⊢
   omega
  ·have := ih (acc ++ [c])
   simp at this ⊢
   omega
theorem idx_no (l : List UInt8) (h : (32 : UInt8) ∉ l) : Lib.indexByte l 32 = -1 := by
 induction l with
 | nil => rfl
 | cons c l ih =>
  have hc : ¬ (c == 32) = true := fun e => h (by simp [eq_of_beq e])
  unfold Lib.indexByte
  rw [if_neg hc, ih (fun e => h (by simp [e]))]
  rfl
theorem idx_hit (x r : List UInt8) (h : (32 : UInt8) ∉ x) : Lib.indexByte (x ++ 32 :: r) 32 = (x.length : Int) := by
 induction x with
 | nil => simp [Lib.indexByte]
 | cons c x ih =>
  have hc : ¬ (c == 32) = true := fun e => h (by simp [eq_of_beq e])
  have := ih (fun e => h (by simp [e]))
  show Lib.indexByte (c :: (x ++ 32 :: r)) 32 = _
  unfold Lib.indexByte
  have hn : ¬ ((x.length : Int) == -1) = true := fun e => by have := eq_of_beq e; omega
  rw [if_neg hc, this, if_neg hn]
  simp
theorem split_wd : ∀ (n : Nat) (l : List UInt8), l.length ≤ n → Lib.splitK [32] 0 (Lib.count l [32]) l = wd [] l ∧ (wd [] l).length = Lib.count l [32] + 1 := by
 intro n
 induction n with
 | zero =>
  intro l hl
  have : l = [] := List.length_eq_zero_iff.1 (by omega)
  subst this
  have h1 : Lib.index ([] : List UInt8) [32] = -1 := by rw [Lib.index_one]; rfl
  rw [Lib.count_miss h1]
  exact ⟨rfl, rfl⟩
 | succ n ih =>
  intro l hl
  by_cases h : (32 : UInt8) ∈ l
  ·obtain ⟨x, r, rfl, hx⟩ := List.eq_append_cons_of_mem h
   have h1 : Lib.index (x ++ 32 :: r) [32] = (x.length : Int) := by rw [Lib.index_one, idx_hit _ _ hx]
   have hd : (x ++ 32 :: r).drop (x.length + 1) = r := by
    rw [List.drop_append]
    simp
   rw [Lib.count_hit (by simp) h1, wd_app, wd_no _ _ hx]
   have hd' : (x ++ 32 :: r).drop (x.length + [(32 : UInt8)].length) = r := hd
   rw [hd', Nat.add_comm 1]
   obtain ⟨i1, i2⟩ := ih r (by simp at hl; omega)
   have hne : ¬ (Lib.index (x ++ 32 :: r) [32] == -1) = true := fun e => by have := eq_of_beq e; omega
   have ht : (x ++ 32 :: r).take (((x.length : Int)).toNat + 0) = x := by simp
   refine ⟨?_, by simp [i2]⟩
   show (if _ then _ else _) = _
   rw [if_neg hne, h1, ht]
   have hd2 : (x ++ 32 :: r).drop (((x.length : Int)).toNat + [(32 : UInt8)].length) = r := hd
   rw [hd2, i1]
   simp
  ·have h1 : Lib.index l [32] = -1 := by rw [Lib.index_one, idx_no l h]
   rw [Lib.count_miss h1, wd_no l [] h]
   exact ⟨rfl, rfl⟩
def wds (s : ByteArray) : List ByteArray := (wd [] s.data.toList).map fun l => ⟨l.toArray⟩
def wn (s : ByteArray) : Nat := (wds s).length
def wq (s : ByteArray) (i : Nat) : ByteArray := (wds s).getD i ByteArray.empty
theorem split_wds (s : ByteArray) : Lib.splitB ⟨#[32]⟩ 0 (Lib.countB s ⟨#[32]⟩) s = wds s ∧ Lib.countB s ⟨#[32]⟩ + 1 = wn s := by
 obtain ⟨h1, h2⟩ := split_wd s.data.toList.length s.data.toList (Nat.le_refl _)
 have h3 := Lib.splitB_data ⟨#[32]⟩ 0 (Lib.countB s ⟨#[32]⟩) s
 have h4 : Lib.countB s ⟨#[32]⟩ = Lib.count s.data.toList [32] := rfl
 refine ⟨?_, by unfold wn wds; rw [h4]; simp [h2]⟩
 have h5 : (Lib.splitB ⟨#[32]⟩ 0 (Lib.countB s ⟨#[32]⟩) s).map (·.data.toList) = wd [] s.data.toList := by rw [h3, h4]; exact h1
 have h6 := congrArg (List.map fun l : List UInt8 => (⟨l.toArray⟩ : ByteArray)) h5
 rw [List.map_map] at h6
 have h7 : ((fun l : List UInt8 => (⟨l.toArray⟩ : ByteArray)) ∘ fun x : ByteArray => x.data.toList) = id := by funext x; rfl
 rw [h7, List.map_id] at h6
 exact h6
theorem tot_list (L : List ByteArray) : tot (fun i => (L.getD i ByteArray.empty).size) L.length = (L.map ByteArray.size).sum := by
 have key : ∀ k, k ≤ L.length → tot (fun i => (L.getD i ByteArray.empty).size) k = ((L.take k).map ByteArray.size).sum := by
  intro k
  induction k with
  | zero => intro _; simp [tot]
  | succ k ih =>
   intro hk
   show tot _ k + _ = _
   rw [ih (by omega), List.take_add_one, List.getElem?_eq_getElem (show k < L.length by omega), List.map_append, List.sum_append]
   congr 1
   simp [List.getElem?_eq_getElem (show k < L.length by omega)]
 have := key L.length (Nat.le_refl _)
 simpa using this
theorem wq_sum (s : ByteArray) : tot (fun i => (wq s i).size) (wn s) + wn s = s.size + 1 := by
 have h := wd_sum s.data.toList []
 have h1 := tot_list (wds s)
 have h2 : (wds s).map ByteArray.size = (wd [] s.data.toList).map List.length := by
  unfold wds
  rw [List.map_map]
  rfl
 unfold wq wn
 rw [h1, h2]
 have h3 : (wds s).length = (wd [] s.data.toList).length := by simp [wds]
 have h4 : s.size = s.data.toList.length := rfl
 rw [h3, h4]
 simpa using h
theorem tot_six (L : Nat → Nat) (m : Nat) : tot L (m + 6) = L 0 + L 1 + L 2 + L 3 + L 4 + L 5 + tot (fun j => L (j + 6)) m := by
 induction m with
 | zero => simp [tot]
 | succ m ih =>
  show tot L (m + 6) + L (m + 6) = _ + (tot (fun j => L (j + 6)) m + L (m + 6))
  rw [ih]; omega
theorem wq_le (s : ByteArray) (i : Nat) : (wq s i).size ≤ s.size := by
 by_cases h : i < wn s
 ·have h1 := tot_le (fun i => (wq s i).size) h
  have h2 := wq_sum s
  omega
 ·unfold wq
  rw [List.getD_eq_getElem?_getD, List.getElem?_eq_none (by unfold wn at h; omega)]
  exact Nat.zero_le _
theorem tot_mon (L L' : Nat → Nat) (h : ∀ i, L i ≤ L' i) (m : Nat) : tot L m ≤ tot L' m := by
 induction m with
 | zero => exact Nat.le_refl _
 | succ m ih =>
  have := h m
  show tot L m + L m ≤ tot L' m + L' m
  omega
theorem read_sum (s : ByteArray) (f : ByteArray → ByteArray) (hf : ∀ u, (f u).size ≤ u.size) (h6 : 6 ≤ wn s) : (f (wq s 0)).size + (f (wq s 4)).size + ((wn s - 6) + tot (fun j => (f (wq s (j + 6))).size) (wn s - 6)) ≤ s.size := by
 have h1 := wq_sum s
 have h2 := tot_six (fun i => (wq s i).size) (wn s - 6)
 rw [show wn s - 6 + 6 = wn s by omega] at h2
 have h3 := tot_mon (fun j => (f (wq s (j + 6))).size) (fun j => (wq s (j + 6)).size) (fun i => hf _) (wn s - 6)
 have h4 := hf (wq s 0)
 have h5 := hf (wq s 4)
 omega
theorem wd_jp (P : Nat → ByteArray) (n : Nat) (h : ∀ i, i ≤ n → (32 : UInt8) ∉ (P i).data.toList) : wds (jp P (n + 1)) = (List.range (n + 1)).map P := by
 induction n with
 | zero =>
  show wds (P 0) = [P 0]
  unfold wds
  rw [wd_no _ _ (h 0 (Nat.le_refl _))]
  rfl
 | succ n ih =>
  rw [jp_s P (n + 1) (by omega)]
  have e : (jp P (n + 1) ++ ⟨#[32]⟩ ++ P (n + 1)).data.toList = (jp P (n + 1)).data.toList ++ 32 :: (P (n + 1)).data.toList := by simp [ByteArray.data_append]
  unfold wds at ih ⊢
  rw [e, wd_app, wd_no _ [] (h (n + 1) (Nat.le_refl _)), List.map_append, ih (fun i hi => h i (by omega)), List.range_succ (n := n + 1), List.map_append]
  rfl
theorem its_small (v : Int) (h0 : 0 ≤ v) (h1 : v ≤ 16) : (32 : UInt8) ∉ (its v).data.toList ∧ Lib.atoiAll (its v).data.toList = .ok v := by
 obtain ⟨n, rfl⟩ := Int.eq_ofNat_of_zero_le h0
 have hn : n ≤ 16 := by omega
 have e : (its (n : Int)).data.toList = Lib.decDigits n := by
  show Lib.itoa (n : Int) = _
  unfold Lib.itoa
  rw [if_neg (by omega)]
  rfl
 rw [e]
 by_cases h : n < 10
 ·rw [Lib.decDigits_one h]
  match n, h with
  | 0, _ | 1, _ | 2, _ | 3, _ | 4, _ | 5, _ | 6, _ | 7, _ | 8, _ | 9, _ => exact ⟨by decide, by decide⟩
 ·rw [Lib.decDigits_two h (by omega)]
  match n, hn, h with
  | 10, _, _ | 11, _, _ | 12, _, _ | 13, _, _ | 14, _, _ | 15, _, _ | 16, _, _ => exact ⟨by decide, by decide⟩
  | n + 17, hn, _ => omega
theorem hexT_free (s : ByteArray) : (32 : UInt8) ∉ (hexT s).data.toList := fun hm => by
 obtain ⟨i, hi, he⟩ := List.getElem_of_mem hm
 have hsz : (hexT s).data.toList.length = 2 * s.size := hexT_size s
 have h1 := hexT_at s i (by omega)
 have h2 : tat (hexT s) i = 32 := by
  unfold tat
  rw [List.getD_eq_getElem?_getD, List.getElem?_eq_getElem hi, he]
  rfl
 rw [h2] at h1
 unfold hxAt dg at h1
 split at h1 <;> split at h1 <;> omega
theorem hxd_free (s : ByteArray) : (32 : UInt8) ∉ (hxd s).data.toList := by
 unfold hxd
 split
 ·decide
 ·exact hexT_free s
theorem okP_parts {r : ByteArray} {k n i : Int} {b : ByteArray} {m : Nat} {S : Nat → ByteArray} (h : okP r k n i b m S = true) : (1 ≤ k ∧ k ≤ n ∧ n ≤ 16 ∧ 1 ≤ b.size ∧ b.size ≤ 2002) ∧ 0 ≤ i ∧ i < n ∧ r.size = 16 ∧ m ≤ 6 ∧ ∀ j, j < m → (S j).size = 16 := by
 have hk : kOk k n b := Classical.byContradiction fun hno => by rw [okP_no hno] at h; cases h
 rw [okP_yes hk] at h
 obtain ⟨h1, h2, _, h3, h4, h5⟩ := pvB_parts h
 exact ⟨hk, h1, h2, h3, h4, h5⟩
theorem words_of {r : ByteArray} {k n i : Int} {b : ByteArray} {m : Nat} {S : Nat → ByteArray} (h : okP r k n i b m S = true) : wn (pieceT r k n i b m S) = 6 + m ∧ ∀ j, j < 6 + m → wq (pieceT r k n i b m S) j = pts r k n i b m S j := by
 obtain ⟨⟨hk1, hk2, hk3, _, _⟩, hi0, hi1, _, hm, _⟩ := okP_parts h
 have hfree : ∀ j, j ≤ 5 + m → (32 : UInt8) ∉ (pts r k n i b m S j).data.toList := fun j _ => by
  match j with
  | 0 => exact hxd_free r
  | 1 => exact (its_small k (by omega) (by omega)).1
  | 2 => exact (its_small n (by omega) (by omega)).1
  | 3 => exact (its_small i (by omega) (by omega)).1
  | 4 => exact hxd_free b
  | 5 => exact (its_small (m : Int) (by omega) (by omega)).1
  | j + 6 => exact hxd_free (S j)
 have e : wds (pieceT r k n i b m S) = (List.range (6 + m)).map (pts r k n i b m S) := by
  unfold pieceT
  rw [show 6 + m = (5 + m) + 1 by omega]
  exact wd_jp _ _ hfree
 refine ⟨by unfold wn; rw [e]; simp, fun j hj => ?_⟩
 unfold wq
 rw [e, List.getD_eq_getElem?_getD, List.getElem?_map, List.getElem?_range hj]
 rfl
theorem text_short {r : ByteArray} {k n i : Int} {b : ByteArray} {m : Nat} {S : Nat → ByteArray} (h : okP r k n i b m S = true) : (pieceT r k n i b m S).size ≤ 9000 := by
 obtain ⟨⟨hk1, hk2, hk3, hb1, hb2⟩, hi0, hi1, hr, hm, hS⟩ := okP_parts h
 have h1 := jp_size (r := r) (b := b) (S := S) (its_size k (by omega) (by omega)).1 (its_size n (by omega) (by omega)).1 (its_size i (by omega) (by omega)).1 (its_size (m : Int) (by omega) (by omega)).1 m
 have key : ∀ c, c ≤ m → tot (fun j => (S j).size) c ≤ c * 16 := fun c => by
  induction c with
  | zero => intro _; exact Nat.le_refl _
  | succ c ih =>
   intro hc
   have a1 := ih (by omega)
   have a2 := hS c (by omega)
   show tot _ c + (S c).size ≤ _
   omega
 have h2 := key m (Nat.le_refl _)
 unfold pieceT
 omega
structure Pc where
 r : ByteArray
 k : Int
 n : Int
 i : Int
 b : ByteArray
 m : Nat
 S : Nat → ByteArray
def cel (p : Pc) (v : Value) : Nat → Value
 | 0 => .string p.r
 | 1 => .int .i64 p.k
 | 2 => .int .i64 p.n
 | 3 => .int .i64 p.i
 | 4 => .string p.b
 | _ => v
def gL (c : Nat → Nat → Value) (n : Nat) : List Value := (List.range (n * 6)).map fun j => c (j / 6) (j % 6)
theorem gL_len (c : Nat → Nat → Value) (n : Nat) : (gL c n).length = n * 6 := by simp [gL]
theorem gL_get (c : Nat → Nat → Value) (n i q : Nat) (hi : i < n) (hq : q < 6) : (gL c n)[i * 6 + q]? = some (c i q) := by
 have h : i * 6 + q < n * 6 := by omega
 simp [gL, h, show (i * 6 + q) / 6 = i by omega, show (i * 6 + q) % 6 = q by omega]
theorem gL_congr {c c' : Nat → Nat → Value} {n : Nat} (h : ∀ i q, i < n → q < 6 → c i q = c' i q) : gL c n = gL c' n := by
 unfold gL
 refine List.map_congr_left fun j hj => ?_
 have : j < n * 6 := by simpa using hj
 exact h _ _ (by omega) (by omega)
theorem gL_snoc (c : Nat → Nat → Value) (n : Nat) : gL c (n + 1) = gL c n ++ [c n 0, c n 1, c n 2, c n 3, c n 4, c n 5] := by
 apply List.ext_getElem?
 intro j
 by_cases hj : j < n * 6
 ·rw [List.getElem?_append_left (by rw [gL_len]; omega)]
  have h1 := gL_get c (n + 1) (j / 6) (j % 6) (by omega) (by omega)
  have h2 := gL_get c n (j / 6) (j % 6) (by omega) (by omega)
  rw [show j / 6 * 6 + j % 6 = j by omega] at h1 h2
  rw [h1, h2]
 ·rw [List.getElem?_append_right (by rw [gL_len]; omega), gL_len]
  by_cases h6 : j < (n + 1) * 6
  ·obtain ⟨q, rfl⟩ : ∃ q, j = n * 6 + q := ⟨j - n * 6, by omega⟩
   have hq : q < 6 := by omega
   rw [gL_get _ _ _ _ (by omega) hq, show n * 6 + q - n * 6 = q by omega]
   match q, hq with
   | 0, _ => rfl
   | 1, _ => rfl
   | 2, _ => rfl
   | 3, _ => rfl
   | 4, _ => rfl
   | 5, _ => rfl
  ·rw [List.getElem?_eq_none (by rw [gL_len]; omega), List.getElem?_eq_none (by simp; omega)]
def OwnC (w : World) (B : Nat) (a : Option Addr) (n cap : Nat) (c : Nat → Nat → Value) : Prop := w.ownsRow B 33 6 (.slice a n cap) n (gL c n)
theorem OwnC.congr {w : World} {B : Nat} {a : Option Addr} {n cap : Nat} {c c' : Nat → Nat → Value} (h : OwnC w B a n cap c) (e : ∀ i q, i < n → q < 6 → c i q = c' i q) : OwnC w B a n cap c' := by
 unfold OwnC
 rw [← gL_congr e]
 exact h
theorem OwnC.below {w w' : World} {B : Nat} {a : Option Addr} {n cap : Nat} {c : Nat → Nat → Value} (h : OwnC w B a n cap c) (hb : Below w.heap.size w w') : OwnC w' B a n cap c := ownsRow_below h hb
theorem OwnC.cell {w : World} {B g : Nat} {n cap : Nat} {c : Nat → Nat → Value} (h : OwnC w B (some ⟨g, 0, none⟩) n cap c) {i q : Nat} (hi : i < n) (hq : q < 6) : w.cell? ⟨g, i * 6 + q, none⟩ = some (c i q) := by
 have := World.ownsRow.cellAt h (i * 6 + q) (by omega)
 rw [this]
 exact gL_get _ _ _ _ hi hq
def OwnP (w : World) (B : Nat) (a : Option Addr) (n cap : Nat) (A : Nat → Option Addr) (C : Nat → Nat) (P : Nat → Pc) : Prop :=
 OwnC w B a n cap (fun i => cel (P i) (.slice (A i) (P i).m (C i))) ∧ (∀ i, i < n → OwnT w B (A i) (P i).m (C i) (P i).S) ∧
 (∀ i j x y, i < j → j < n → A i = some x → A j = some y → x.block ≠ y.block) ∧ (∀ i x y, i < n → A i = some x → a = some y → x.block ≠ y.block)
theorem OwnP.below {w w' : World} {B : Nat} {a : Option Addr} {n cap : Nat} {A : Nat → Option Addr} {C : Nat → Nat} {P : Nat → Pc} (h : OwnP w B a n cap A C P) (hb : Below w.heap.size w w') : OwnP w' B a n cap A C P :=
 ⟨h.1.below hb, fun i hi => OwnT.below (h.2.1 i hi) hb, h.2.2⟩
def ResP (w w' : World) (v : Value) (n : Nat) (P : Nat → Pc) : Prop := ∃ g cap A C, v = .slice (some ⟨g, 0, none⟩) n cap ∧ OwnP w' w.heap.size (some ⟨g, 0, none⟩) n cap A C P
def PiAt (w : World) (a : Option Addr) (n : Nat) (P : Nat → Pc) : Prop := ∀ i, i < n → ∃ b off ap cp, a = some ⟨b, off, none⟩ ∧ (∀ q, q < 6 → w.cell? ⟨b, off + (i * 6 + q), none⟩ = some (cel (P i) (.slice ap (P i).m cp) q)) ∧ TxtAt w ap (P i).m (P i).S
theorem PiAt.below {w w' : World} {a : Option Addr} {n : Nat} {P : Nat → Pc} (h : PiAt w a n P) (hb : Below w.heap.size w w') : PiAt w' a n P := fun i hi => by
 obtain ⟨b, off, ap, cp, e, hc, ht⟩ := h i hi
 refine ⟨b, off, ap, cp, e, fun q hq => ?_, ht.below hb⟩
 exact (hb.cell (p := ⟨b, off + (i * 6 + q), none⟩) (block_lt_of_cell (hc q hq))).trans (hc q hq)
theorem OwnP.at {w : World} {B : Nat} {a : Option Addr} {n cap : Nat} {A : Nat → Option Addr} {C : Nat → Nat} {P : Nat → Pc} (h : OwnP w B a n cap A C P) : PiAt w a n P := fun i hi => by
 have h1 := h.1
 obtain ⟨g, rfl⟩ : ∃ g, a = some ⟨g, 0, none⟩ := by
  rcases h1.2 with ⟨e, h0⟩ | ⟨g, cap', cur, e, _⟩
  ·omega
  ·cases e; exact ⟨g, rfl⟩
 refine ⟨g, 0, A i, C i, rfl, fun q hq => ?_, OwnT.at (h.2.1 i hi)⟩
 rw [Nat.zero_add]
 exact h1.cell hi hq
noncomputable def cutP (k : Int) (n : Nat) (S : Nat → ByteArray) : Nat → Pc := fun i => ⟨rtS n (lvs k n S), k, (n : Int), (i : Int), S i, pfR n (lvs k n S) (i : Int), pfF n (lvs k n S) (i : Int)⟩
theorem Tryz.infoPc3 : (Tryz.prog.info? 33).map (fun i => (i.zero, i.size, i.bytes)) = some (some (.agg #[.string ByteArray.empty, .int .i64 0, .int .i64 0, .int .i64 0, .string ByteArray.empty, .slice none 0 0]), 6, 80) := by kernel_rfl
noncomputable def cutR (s : ByteArray) (k n : Int) : Nat := if encOk s k n = true then n.toNat else 0
theorem grown_row (w : World) (g : Nat) (cs : Array Value) : w.grownBy (w.setRow g cs) (some g) := ⟨rfl, rfl, rfl, by simp, fun i _ hi => setRow_other _ _ _ _ (fun e => hi (by simp [e]))⟩
end Go.Proofs.YtihklfkhjpnjkaaGreatDoor
