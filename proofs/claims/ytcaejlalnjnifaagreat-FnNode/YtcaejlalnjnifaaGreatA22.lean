import Derived.Test.YtcaejlalnjnifaaGreatA16
import Derived.Test.YtcaejlalnjnifaaGreatA19
import Derived.Test.YtcaejlalnjnifaaGreatA17
import Derived.Test.YtcaejlalnjnifaaGreatA8
set_option maxHeartbeats 8000000
set_option maxRecDepth 2000
open Go.ChangeShapes Go.WideShapes Go.ChangeAt Go.RowKit
namespace Go.Proofs.YtcaejlalnjnifaaGreat
def kOk (k n : Int) (b : ByteArray) : Prop := 1 ≤ k ∧ k ≤ n ∧ n ≤ 16 ∧ 1 ≤ b.size ∧ b.size ≤ 2002
instance (k n : Int) (b : ByteArray) : Decidable (kOk k n b) := by unfold kOk; exact inferInstance
noncomputable def okP (r : ByteArray) (k n i : Int) (b : ByteArray) (m : Nat) (S : Nat → ByteArray) : Bool := if kOk k n b then pvB r (plf k n i b) i n m S else false
theorem okP_no {r : ByteArray} {k n i : Int} {b : ByteArray} {m : Nat} {S : Nat → ByteArray} (h : ¬ kOk k n b) : okP r k n i b m S = false := if_neg h
theorem okP_yes {r : ByteArray} {k n i : Int} {b : ByteArray} {m : Nat} {S : Nat → ByteArray} (h : kOk k n b) : okP r k n i b m S = pvB r (plf k n i b) i n m S := if_pos h
theorem pvB_out {r x : ByteArray} {i n : Int} {m : Nat} {S : Nat → ByteArray} (h : ¬ (0 ≤ i ∧ i ≤ n - 1)) : pvB r x i n m S = false := by
 unfold pvB
 cases hB : prB x i n m S with
 | false => rfl
 | true =>
  obtain ⟨_, h2, _⟩ := prB_parts hB
  have := plI_in (i := i) (n := n) (by omega)
  simp [inT] at this
  omega
theorem sprOk_is {k n : Int} (h1 : 1 ≤ k) (h2 : k ≤ n) (h3 : n ≤ 16) : sprOk k n = true := by unfold sprOk side; simp; omega
theorem pieceOk_any (r : ByteArray) (k n i : Int) (b : ByteArray) (a : Option Addr) (m cap : Nat) (S : Nat → ByteArray) (w : World) (h : TxtAt w a m S) (hm : m ≤ 1048576) (hL : ∀ i, i < m → (S i).size ≤ maxLen) :
  Calls Tryz.prog 159 #[pcV r k n i b (.slice a m cap)] w fun e w' => e = .returned (.bool (okP r k n i b m S)) ∧ Below w.heap.size w w' := by
 obtain ⟨sz, hsz⟩ : ∃ sz, b.size = sz := ⟨_, rfl⟩
 have hb0 : Below w.heap.size w (w.alloc (.cells (pcC r k n i b (.slice a m cap)) 29)) := (Below.refl _ _).alloc (Nat.le_refl _) _
 have HB0 : Hid (Below w.heap.size w (w.alloc (.cells (pcC r k n i b (.slice a m cap)) 29))) := hb0
 by_cases c1 : k < 1
 ·rw [okP_no (by unfold kOk; omega)]
  clear h hL hb0
  go_enter Tryz.func159, Tryz.ntmps159
  go_wp2
  go_ret
  exact ⟨rfl, HB0.out⟩
 by_cases c2 : n < k
 ·rw [okP_no (by unfold kOk; omega)]
  clear h hL hb0
  go_enter Tryz.func159, Tryz.ntmps159
  go_wp2
  go_ret
  exact ⟨rfl, HB0.out⟩
 by_cases c3 : 16 < n
 ·rw [okP_no (by unfold kOk; omega)]
  clear h hL hb0
  go_enter Tryz.func159, Tryz.ntmps159
  go_wp2
  go_ret
  exact ⟨rfl, HB0.out⟩
 by_cases c4 : (sz : Int) < 1
 ·rw [okP_no (by unfold kOk; omega)]
  clear h hL hb0
  go_enter Tryz.func159, Tryz.ntmps159
  go_wp2
  go_ret
  exact ⟨rfl, HB0.out⟩
 by_cases c5 : 2002 < (sz : Int)
 ·rw [okP_no (by unfold kOk; omega)]
  clear h hL hb0
  go_enter Tryz.func159, Tryz.ntmps159
  go_wp2
  go_ret
  exact ⟨rfl, HB0.out⟩
 rw [okP_yes (by unfold kOk; omega)]
 obtain ⟨w0, HW0⟩ : ∃ x, Hid (x = w.alloc (.cells (pcC r k n i b (.slice a m cap)) 29)) := ⟨_, rfl⟩
 obtain ⟨B, HB⟩ : ∃ x, Hid (x = w.heap.size) := ⟨_, rfl⟩
 rw [← HW0.out] at HB0 hb0
 have HR : Hid (Row w0 B 29 (pcC r k n i b (.slice a m cap))) := by show Row _ _ _ _; rw [HW0.out, HB.out]; exact Row.new w _ _
 have KL : Hid (∀ W, Calls Tryz.prog 184 #[.int .i64 k, .int .i64 n, .int .i64 i, .string b] W fun e w' => e = .returned (.string (plf k n i b)) ∧ Below W.heap.size W w') := fun W => pieceLeaf_any k n i b W (by omega)
 have KP : Hid (∀ W, Below w0.heap.size w0 W → Calls Tryz.prog 183 #[.string r, .string (plf k n i b), .int .i64 i, .int .i64 n, .slice a m cap] W fun e w' => e = .returned (.bool (pvB r (plf k n i b) i n m S)) ∧ Below W.heap.size W w') := fun W hW => proved_any r (plf k n i b) i n a m cap S W ((h.below hb0).below hW) hm hL
 generalize plf k n i b = x at KL KP ⊢
 generalize pvB r x i n m S = ans at KP ⊢
 have q0 := HR.out.cell 0
 have q1 := HR.out.cell 1
 have q2 := HR.out.cell 2
 have q3 := HR.out.cell 3
 have q4 := HR.out.cell 4
 have q5 := HR.out.cell 5
 have lB := HR.out.lt
 simp at q0 q1 q2 q3 q4 q5
 clear h hL hb0
 go_enter Tryz.func159, Tryz.ntmps159
 go_wp2_with fail
 rw [← HW0.out, ← HB.out]
 go_region_held3 (fun w' => w'.cell? ⟨B, 0, none⟩ = some (.string r) ∧ w'.cell? ⟨B, 1, none⟩ = some (.int .i64 k) ∧ w'.cell? ⟨B, 2, none⟩ = some (.int .i64 n) ∧ w'.cell? ⟨B, 3, none⟩ = some (.int .i64 i) ∧ w'.cell? ⟨B, 4, none⟩ = some (.string b) ∧ w'.cell? ⟨B, 5, none⟩ = some (.slice a m cap)) (go_keep) ((first | (go_at_call 184; refine Calls.mono (KL.out _) ?_; rintro e w5 ⟨rfl, hb5'⟩; have hb5 := below_of_drew hb5'; clear hb5'; have p0 := (hb5.cell (p := ⟨B, 0, none⟩) lB).trans q0; have p1 := (hb5.cell (p := ⟨B, 1, none⟩) lB).trans q1; have p2 := (hb5.cell (p := ⟨B, 2, none⟩) lB).trans q2; have p3 := (hb5.cell (p := ⟨B, 3, none⟩) lB).trans q3; have p4 := (hb5.cell (p := ⟨B, 4, none⟩) lB).trans q4; have p5 := (hb5.cell (p := ⟨B, 5, none⟩) lB).trans q5) | (guard_hyp hb5; go_at_call 183; refine Calls.mono (KP.out _ hb5) ?_; rintro e w6 ⟨rfl, hb6⟩; have hb56 := below2 hb5 hb6; have u0 := (hb56.cell (p := ⟨B, 0, none⟩) lB).trans q0; have u1 := (hb56.cell (p := ⟨B, 1, none⟩) lB).trans q1; have u2 := (hb56.cell (p := ⟨B, 2, none⟩) lB).trans q2; have u3 := (hb56.cell (p := ⟨B, 3, none⟩) lB).trans q3; have u4 := (hb56.cell (p := ⟨B, 4, none⟩) lB).trans q4; have u5 := (hb56.cell (p := ⟨B, 5, none⟩) lB).trans q5)))
 all_goals
  go_wp2
  go_ret
  exact ⟨rfl, HB0.out.trans ((below2 hb5 hb6).mono HB0.out.size)⟩
theorem sPieceOk_any (r : ByteArray) (k n i : Int) (b : ByteArray) (a : Option Addr) (m cap : Nat) (S : Nat → ByteArray) (w : World) (h : TxtAt w a m S) (hm : m ≤ 1048576) (hL : ∀ i, i < m → (S i).size ≤ maxLen) :
  Calls Tryz.prog 114 #[pcV r k n i b (.slice a m cap)] w fun e w' => e = .returned (.bool (okP r k n i b m S)) ∧ Below w.heap.size w w' := by
 obtain ⟨sz, hsz⟩ : ∃ sz, b.size = sz := ⟨_, rfl⟩
 have hb0 : Below w.heap.size w (w.alloc (.cells (pcC r k n i b (.slice a m cap)) 29)) := (Below.refl _ _).alloc (Nat.le_refl _) _
 have HB0 : Hid (Below w.heap.size w (w.alloc (.cells (pcC r k n i b (.slice a m cap)) 29))) := hb0
 have KO : Hid (∀ W, Calls Tryz.prog 155 #[.int .i64 k, .int .i64 n] W fun e w' => e = .returned (.bool (sprOk k n)) ∧ w' = W) := fun W => s4Ok_any k n W
 have KI : Hid (∀ x y z W, Calls Tryz.prog 43 #[.int .i64 x, .int .i64 y, .int .i64 z] W fun e w' => e = .returned (.bool (inB x y z)) ∧ w' = W) := fun x y z W => sIn_any x y z W
 cases c1 : sprOk k n with
 | false =>
  rw [okP_no (by unfold kOk; intro hk; rw [sprOk_is hk.1 hk.2.1 hk.2.2.1] at c1; cases c1)]
  rw [c1] at KO
  clear h hL hb0
  go_enter Tryz.func114, Tryz.ntmps114
  go_wp2_with (go_at_call 155; refine (KO.out _).mono ?_; rintro e w' ⟨rfl, hw⟩; obtain rfl := hw.symm)
  go_ret
  exact ⟨rfl, HB0.out⟩
 | true =>
 rw [c1] at KO
 obtain ⟨k1, k2, k3⟩ := sprOk_parts c1
 have hwn : IntKind.i64.wrap (n - 1) = n - 1 := by rw [IntKind.wrap_i64]; omega
 cases c2 : inB i 0 (n - 1) with
 | false =>
  rw [show okP r k n i b m S = false by unfold okP; rw [pvB_out (by simp [inB] at c2; omega)]; simp]
  have KI2 : Hid (∀ W, Calls Tryz.prog 43 #[.int .i64 i, .int .i64 0, .int .i64 (n - 1)] W fun e w' => e = .returned (.bool false) ∧ w' = W) := fun W => by have := KI.out i 0 (n - 1) W; rw [c2] at this; exact this
  clear h hL hb0 k1 k2 k3
  go_enter Tryz.func114, Tryz.ntmps114
  go_wp2_with (first | (go_at_call 155; refine (KO.out _).mono ?_; rintro e w' ⟨rfl, hw⟩; obtain rfl := hw.symm) | (go_at_call 43; refine (KI2.out _).mono ?_; rintro e w' ⟨rfl, hw⟩; obtain rfl := hw.symm))
  go_ret
  exact ⟨rfl, HB0.out⟩
 | true =>
 have KI2 : Hid (∀ W, Calls Tryz.prog 43 #[.int .i64 i, .int .i64 0, .int .i64 (n - 1)] W fun e w' => e = .returned (.bool true) ∧ w' = W) := fun W => by have := KI.out i 0 (n - 1) W; rw [c2] at this; exact this
 cases c3 : inB (sz : Int) 1 2002 with
 | false =>
  rw [okP_no (by unfold kOk; simp [inB] at c3; omega)]
  have KI3 : Hid (∀ W, Calls Tryz.prog 43 #[.int .i64 (sz : Int), .int .i64 1, .int .i64 2002] W fun e w' => e = .returned (.bool false) ∧ w' = W) := fun W => by have := KI.out (sz : Int) 1 2002 W; rw [c3] at this; exact this
  clear h hL hb0 k1 k2 k3
  go_enter Tryz.func114, Tryz.ntmps114
  go_wp2_with fail
  refine (KO.out _).mono ?_
  rintro e w' ⟨rfl, hw⟩
  obtain rfl := hw.symm
  clear hw
  go_wp2_with fail
  refine (KI2.out _).mono ?_
  rintro e w' ⟨rfl, hw⟩
  obtain rfl := hw.symm
  clear hw
  go_wp2_with fail
  refine (KI3.out _).mono ?_
  rintro e w' ⟨rfl, hw⟩
  obtain rfl := hw.symm
  clear hw
  go_wp2
  go_ret
  exact ⟨rfl, HB0.out⟩
 | true =>
 have KI3 : Hid (∀ W, Calls Tryz.prog 43 #[.int .i64 (sz : Int), .int .i64 1, .int .i64 2002] W fun e w' => e = .returned (.bool true) ∧ w' = W) := fun W => by have := KI.out (sz : Int) 1 2002 W; rw [c3] at this; exact this
 have c34 : 1 ≤ sz ∧ sz ≤ 2002 := by simp [inB] at c3; omega
 rw [okP_yes (by unfold kOk; omega)]
 obtain ⟨w0, HW0⟩ : ∃ x, Hid (x = w.alloc (.cells (pcC r k n i b (.slice a m cap)) 29)) := ⟨_, rfl⟩
 obtain ⟨B, HB⟩ : ∃ x, Hid (x = w.heap.size) := ⟨_, rfl⟩
 rw [← HW0.out] at HB0 hb0
 have HR : Hid (Row w0 B 29 (pcC r k n i b (.slice a m cap))) := by show Row _ _ _ _; rw [HW0.out, HB.out]; exact Row.new w _ _
 have KL : Hid (∀ W, Calls Tryz.prog 157 #[.int .i64 k, .int .i64 n, .int .i64 i, .string b] W fun e w' => e = .returned (.string (plf k n i b)) ∧ Below W.heap.size W w') := fun W => sPieceLeaf_any k n i b W (by omega)
 have KP : Hid (∀ W, Below w0.heap.size w0 W → Calls Tryz.prog 156 #[.string r, .string (plf k n i b), .int .i64 i, .int .i64 n, .slice a m cap] W fun e w' => e = .returned (.bool (pvB r (plf k n i b) i n m S)) ∧ Below W.heap.size W w') := fun W hW => sProved_any r (plf k n i b) i n a m cap S W ((h.below hb0).below hW) hm hL
 generalize plf k n i b = x at KL KP ⊢
 generalize pvB r x i n m S = ans at KP ⊢
 have q0 := HR.out.cell 0
 have q1 := HR.out.cell 1
 have q2 := HR.out.cell 2
 have q3 := HR.out.cell 3
 have q4 := HR.out.cell 4
 have q5 := HR.out.cell 5
 have lB := HR.out.lt
 simp at q0 q1 q2 q3 q4 q5
 clear h hL hb0 k1 k2 k3 c34 KI
 go_enter Tryz.func114, Tryz.ntmps114
 go_wp2_with fail
 refine (KO.out _).mono ?_
 rintro e w' ⟨rfl, hw⟩
 obtain rfl := hw.symm
 clear hw
 go_wp2_with fail
 refine (KI2.out _).mono ?_
 rintro e w' ⟨rfl, hw⟩
 obtain rfl := hw.symm
 clear hw
 go_wp2_with fail
 refine (KI3.out _).mono ?_
 rintro e w' ⟨rfl, hw⟩
 obtain rfl := hw.symm
 clear hw
 go_wp2_with fail
 rw [← HW0.out, ← HB.out]
 go_region_held3 (fun w' => w'.cell? ⟨B, 0, none⟩ = some (.string r) ∧ w'.cell? ⟨B, 1, none⟩ = some (.int .i64 k) ∧ w'.cell? ⟨B, 2, none⟩ = some (.int .i64 n) ∧ w'.cell? ⟨B, 3, none⟩ = some (.int .i64 i) ∧ w'.cell? ⟨B, 4, none⟩ = some (.string b) ∧ w'.cell? ⟨B, 5, none⟩ = some (.slice a m cap)) (go_keep) ((first | (go_at_call 157; refine Calls.mono (KL.out _) ?_; rintro e w5 ⟨rfl, hb5'⟩; have hb5 := below_of_drew hb5'; clear hb5'; have p0 := (hb5.cell (p := ⟨B, 0, none⟩) lB).trans q0; have p1 := (hb5.cell (p := ⟨B, 1, none⟩) lB).trans q1; have p2 := (hb5.cell (p := ⟨B, 2, none⟩) lB).trans q2; have p3 := (hb5.cell (p := ⟨B, 3, none⟩) lB).trans q3; have p4 := (hb5.cell (p := ⟨B, 4, none⟩) lB).trans q4; have p5 := (hb5.cell (p := ⟨B, 5, none⟩) lB).trans q5) | (guard_hyp hb5; go_at_call 156; refine Calls.mono (KP.out _ hb5) ?_; rintro e w6 ⟨rfl, hb6⟩; have hb56 := below2 hb5 hb6; have u0 := (hb56.cell (p := ⟨B, 0, none⟩) lB).trans q0; have u1 := (hb56.cell (p := ⟨B, 1, none⟩) lB).trans q1; have u2 := (hb56.cell (p := ⟨B, 2, none⟩) lB).trans q2; have u3 := (hb56.cell (p := ⟨B, 3, none⟩) lB).trans q3; have u4 := (hb56.cell (p := ⟨B, 4, none⟩) lB).trans q4; have u5 := (hb56.cell (p := ⟨B, 5, none⟩) lB).trans q5)))
 all_goals
  go_wp2
  go_ret
  exact ⟨rfl, HB0.out.trans ((below2 hb5 hb6).mono HB0.out.size)⟩
end Go.Proofs.YtcaejlalnjnifaaGreat
