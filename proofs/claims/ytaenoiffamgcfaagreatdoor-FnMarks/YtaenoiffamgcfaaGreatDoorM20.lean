import Derived.Test.YtaenoiffamgcfaaGreatDoorM16
import Derived.Test.YtaenoiffamgcfaaGreatDoorM18
import Derived.Test.YtaenoiffamgcfaaGreatDoorM17
import Derived.Test.YtaenoiffamgcfaaGreatDoorM8
import Derived.Test.YtaenoiffamgcfaaGreatDoorM11
set_option maxHeartbeats 8000000
set_option maxRecDepth 2000
open Go.ChangeShapes Go.WideShapes Go.ChangeAt Go.RowKit
namespace Go.Proofs.YtaenoiffamgcfaaGreatDoor
def kOk (k n : Int) (b : ByteArray) : Prop := 1 ≤ k ∧ k ≤ n ∧ n ≤ 16 ∧ 1 ≤ b.size ∧ b.size ≤ 2002
instance (k n : Int) (b : ByteArray) : Decidable (kOk k n b) := by unfold kOk; exact inferInstance
noncomputable def okP (r : ByteArray) (k n i : Int) (b : ByteArray) (m : Nat) (S : Nat → ByteArray) : Bool := if kOk k n b then pvB r (plf k n i b) i n m S else false
theorem okP_no {r : ByteArray} {k n i : Int} {b : ByteArray} {m : Nat} {S : Nat → ByteArray} (h : ¬ kOk k n b) : okP r k n i b m S = false := if_neg h
theorem okP_yes {r : ByteArray} {k n i : Int} {b : ByteArray} {m : Nat} {S : Nat → ByteArray} (h : kOk k n b) : okP r k n i b m S = pvB r (plf k n i b) i n m S := if_pos h
theorem pvB_out {r x : ByteArray} {i n : Int} {m : Nat} {S : Nat → ByteArray} (h : ¬ (0 ≤ i ∧ i ≤ n - 1)) : pvB r x i n m S = false := by
 unfold pvB
 cases hB : prB x i n m S with
 | false => rfl
 | true =>
  obtain ⟨_, h2, _⟩ := prB_parts hB
  have := plI_in (i := i) (n := n) (by omega)
  simp [inT] at this
  omega
theorem pvB_parts {r x : ByteArray} {i n : Int} {m : Nat} {S : Nat → ByteArray} (h : pvB r x i n m S = true) : 0 ≤ i ∧ i < n ∧ n ≤ 64 ∧ r.size = 16 ∧ m ≤ 6 ∧ ∀ j, j < m → (S j).size = 16 := by
 unfold pvB at h
 rw [Bool.and_eq_true] at h
 obtain ⟨h1, h2⟩ := h
 obtain ⟨h3, h4, h5⟩ := prB_parts h1
 have h6 := plI_in (i := i) (n := n) (by omega)
 have h7 : 0 ≤ i ∧ i < n ∧ n ≤ 64 := by simp [inT] at h6; omega
 have h8 : plI i n ≤ 6 := by
  unfold plI
  rw [if_pos h6]
  have := Gt.pl_le 6 i.toNat n.toNat (by omega)
  omega
 refine ⟨h7.1, h7.2.1, h7.2.2, ?_, by omega, h5⟩
 have h9 := of_decide_eq_true h2
 rw [← h9]
 unfold prS
 rw [if_pos h1]
 exact Gt.pr_size _ _ _ h3
theorem sprOk_is {k n : Int} (h1 : 1 ≤ k) (h2 : k ≤ n) (h3 : n ≤ 16) : sprOk k n = true := by unfold sprOk side; simp; omega
theorem pieceOk_any (r : ByteArray) (k n i : Int) (b : ByteArray) (a : Option Addr) (m cap : Nat) (S : Nat → ByteArray) (w : World) (h : TxtAt w a m S) (hm : m ≤ 1048576) (hL : ∀ i, i < m → (S i).size ≤ maxLen) :
  Calls Tryz.prog 30 #[pcV r k n i b (.slice a m cap)] w fun e w' => e = .returned (.bool (okP r k n i b m S)) ∧ Below w.heap.size w w' := by
 obtain ⟨sz, hsz⟩ : ∃ sz, b.size = sz := ⟨_, rfl⟩
 have hb0 : Below w.heap.size w (w.alloc (.cells (pcC r k n i b (.slice a m cap)) 32)) := (Below.refl _ _).alloc (Nat.le_refl _) _
 have HB0 : Hid (Below w.heap.size w (w.alloc (.cells (pcC r k n i b (.slice a m cap)) 32))) := hb0
 by_cases c1 : k < 1
 ·rw [okP_no (by unfold kOk; omega)]
  clear h hL hb0
  go_enter Tryz.func30, Tryz.ntmps30
  go_wp2
  go_ret
  exact ⟨rfl, HB0.out⟩
 by_cases c2 : n < k
 ·rw [okP_no (by unfold kOk; omega)]
  clear h hL hb0
  go_enter Tryz.func30, Tryz.ntmps30
  go_wp2
  go_ret
  exact ⟨rfl, HB0.out⟩
 by_cases c3 : 16 < n
 ·rw [okP_no (by unfold kOk; omega)]
  clear h hL hb0
  go_enter Tryz.func30, Tryz.ntmps30
  go_wp2
  go_ret
  exact ⟨rfl, HB0.out⟩
 by_cases c4 : (sz : Int) < 1
 ·rw [okP_no (by unfold kOk; omega)]
  clear h hL hb0
  go_enter Tryz.func30, Tryz.ntmps30
  go_wp2
  go_ret
  exact ⟨rfl, HB0.out⟩
 by_cases c5 : 2002 < (sz : Int)
 ·rw [okP_no (by unfold kOk; omega)]
  clear h hL hb0
  go_enter Tryz.func30, Tryz.ntmps30
  go_wp2
  go_ret
  exact ⟨rfl, HB0.out⟩
 rw [okP_yes (by unfold kOk; omega)]
 obtain ⟨w0, HW0⟩ : ∃ x, Hid (x = w.alloc (.cells (pcC r k n i b (.slice a m cap)) 32)) := ⟨_, rfl⟩
 obtain ⟨B, HB⟩ : ∃ x, Hid (x = w.heap.size) := ⟨_, rfl⟩
 rw [← HW0.out] at HB0 hb0
 have HR : Hid (Row w0 B 32 (pcC r k n i b (.slice a m cap))) := by show Row _ _ _ _; rw [HW0.out, HB.out]; exact Row.new w _ _
 have KL : Hid (∀ W, Calls Tryz.prog 56 #[.int .i64 k, .int .i64 n, .int .i64 i, .string b] W fun e w' => e = .returned (.string (plf k n i b)) ∧ Below W.heap.size W w') := fun W => pieceLeaf_any k n i b W (by omega)
 have KP : Hid (∀ W, Below w0.heap.size w0 W → Calls Tryz.prog 55 #[.string r, .string (plf k n i b), .int .i64 i, .int .i64 n, .slice a m cap] W fun e w' => e = .returned (.bool (pvB r (plf k n i b) i n m S)) ∧ Below W.heap.size W w') := fun W hW => proved_any r (plf k n i b) i n a m cap S W ((h.below hb0).below hW) hm hL
 generalize plf k n i b = x at KL KP ⊢
 generalize pvB r x i n m S = ans at KP ⊢
 have q0 := HR.out.cell 0
 have q1 := HR.out.cell 1
 have q2 := HR.out.cell 2
 have q3 := HR.out.cell 3
 have q4 := HR.out.cell 4
 have q5 := HR.out.cell 5
 have lB := HR.out.lt
 simp at q0 q1 q2 q3 q4 q5
 clear h hL hb0
 go_enter Tryz.func30, Tryz.ntmps30
 go_wp2_with fail
 rw [← HW0.out, ← HB.out]
 go_region_held3 (fun w' => w'.cell? ⟨B, 0, none⟩ = some (.string r) ∧ w'.cell? ⟨B, 1, none⟩ = some (.int .i64 k) ∧ w'.cell? ⟨B, 2, none⟩ = some (.int .i64 n) ∧ w'.cell? ⟨B, 3, none⟩ = some (.int .i64 i) ∧ w'.cell? ⟨B, 4, none⟩ = some (.string b) ∧ w'.cell? ⟨B, 5, none⟩ = some (.slice a m cap)) (go_keep) ((first | (go_at_call 56; refine Calls.mono (KL.out _) ?_; rintro e w5 ⟨rfl, hb5'⟩; have hb5 := below_of_drew hb5'; clear hb5'; have p0 := (hb5.cell (p := ⟨B, 0, none⟩) lB).trans q0; have p1 := (hb5.cell (p := ⟨B, 1, none⟩) lB).trans q1; have p2 := (hb5.cell (p := ⟨B, 2, none⟩) lB).trans q2; have p3 := (hb5.cell (p := ⟨B, 3, none⟩) lB).trans q3; have p4 := (hb5.cell (p := ⟨B, 4, none⟩) lB).trans q4; have p5 := (hb5.cell (p := ⟨B, 5, none⟩) lB).trans q5) | (guard_hyp hb5; go_at_call 55; refine Calls.mono (KP.out _ hb5) ?_; rintro e w6 ⟨rfl, hb6⟩; have hb56 := below2 hb5 hb6; have u0 := (hb56.cell (p := ⟨B, 0, none⟩) lB).trans q0; have u1 := (hb56.cell (p := ⟨B, 1, none⟩) lB).trans q1; have u2 := (hb56.cell (p := ⟨B, 2, none⟩) lB).trans q2; have u3 := (hb56.cell (p := ⟨B, 3, none⟩) lB).trans q3; have u4 := (hb56.cell (p := ⟨B, 4, none⟩) lB).trans q4; have u5 := (hb56.cell (p := ⟨B, 5, none⟩) lB).trans q5)))
 all_goals
  go_wp2
  go_ret
  exact ⟨rfl, HB0.out.trans ((below2 hb5 hb6).mono HB0.out.size)⟩
theorem sPieceOk_any (r : ByteArray) (k n i : Int) (b : ByteArray) (a : Option Addr) (m cap : Nat) (S : Nat → ByteArray) (w : World) (h : TxtAt w a m S) (hm : m ≤ 1048576) (hL : ∀ i, i < m → (S i).size ≤ maxLen) :
  Calls Tryz.prog 34 #[pcV r k n i b (.slice a m cap)] w fun e w' => e = .returned (.bool (okP r k n i b m S)) ∧ Below w.heap.size w w' := by
 obtain ⟨sz, hsz⟩ : ∃ sz, b.size = sz := ⟨_, rfl⟩
 have hb0 : Below w.heap.size w (w.alloc (.cells (pcC r k n i b (.slice a m cap)) 32)) := (Below.refl _ _).alloc (Nat.le_refl _) _
 have HB0 : Hid (Below w.heap.size w (w.alloc (.cells (pcC r k n i b (.slice a m cap)) 32))) := hb0
 have KO : Hid (∀ W, Calls Tryz.prog 62 #[.int .i64 k, .int .i64 n] W fun e w' => e = .returned (.bool (sprOk k n)) ∧ w' = W) := fun W => s4Ok_any k n W
 have KI : Hid (∀ x y z W, Calls Tryz.prog 63 #[.int .i64 x, .int .i64 y, .int .i64 z] W fun e w' => e = .returned (.bool (inB x y z)) ∧ w' = W) := fun x y z W => sIn_any x y z W
 cases c1 : sprOk k n with
 | false =>
  rw [okP_no (by unfold kOk; intro hk; rw [sprOk_is hk.1 hk.2.1 hk.2.2.1] at c1; cases c1)]
  rw [c1] at KO
  clear h hL hb0
  go_enter Tryz.func34, Tryz.ntmps34
  go_wp2_with (go_at_call 62; refine (KO.out _).mono ?_; rintro e w' ⟨rfl, hw⟩; obtain rfl := hw.symm)
  go_ret
  exact ⟨rfl, HB0.out⟩
 | true =>
 rw [c1] at KO
 obtain ⟨k1, k2, k3⟩ := sprOk_parts c1
 have hwn : IntKind.i64.wrap (n - 1) = n - 1 := by rw [IntKind.wrap_i64]; omega
 cases c2 : inB i 0 (n - 1) with
 | false =>
  rw [show okP r k n i b m S = false by unfold okP; rw [pvB_out (by simp [inB] at c2; omega)]; simp]
  have KI2 : Hid (∀ W, Calls Tryz.prog 63 #[.int .i64 i, .int .i64 0, .int .i64 (n - 1)] W fun e w' => e = .returned (.bool false) ∧ w' = W) := fun W => by have := KI.out i 0 (n - 1) W; rw [c2] at this; exact this
  clear h hL hb0 k1 k2 k3
  go_enter Tryz.func34, Tryz.ntmps34
  go_wp2_with (first | (go_at_call 62; refine (KO.out _).mono ?_; rintro e w' ⟨rfl, hw⟩; obtain rfl := hw.symm) | (go_at_call 63; refine (KI2.out _).mono ?_; rintro e w' ⟨rfl, hw⟩; obtain rfl := hw.symm))
  go_ret
  exact ⟨rfl, HB0.out⟩
 | true =>
 have KI2 : Hid (∀ W, Calls Tryz.prog 63 #[.int .i64 i, .int .i64 0, .int .i64 (n - 1)] W fun e w' => e = .returned (.bool true) ∧ w' = W) := fun W => by have := KI.out i 0 (n - 1) W; rw [c2] at this; exact this
 cases c3 : inB (sz : Int) 1 2002 with
 | false =>
  rw [okP_no (by unfold kOk; simp [inB] at c3; omega)]
  have KI3 : Hid (∀ W, Calls Tryz.prog 63 #[.int .i64 (sz : Int), .int .i64 1, .int .i64 2002] W fun e w' => e = .returned (.bool false) ∧ w' = W) := fun W => by have := KI.out (sz : Int) 1 2002 W; rw [c3] at this; exact this
  clear h hL hb0 k1 k2 k3
  go_enter Tryz.func34, Tryz.ntmps34
  go_wp2_with fail
  refine (KO.out _).mono ?_
  rintro e w' ⟨rfl, hw⟩
  obtain rfl := hw.symm
  clear hw
  go_wp2_with fail
  refine (KI2.out _).mono ?_
  rintro e w' ⟨rfl, hw⟩
  obtain rfl := hw.symm
  clear hw
  go_wp2_with fail
  refine (KI3.out _).mono ?_
  rintro e w' ⟨rfl, hw⟩
  obtain rfl := hw.symm
  clear hw
  go_wp2
  go_ret
  exact ⟨rfl, HB0.out⟩
 | true =>
 have KI3 : Hid (∀ W, Calls Tryz.prog 63 #[.int .i64 (sz : Int), .int .i64 1, .int .i64 2002] W fun e w' => e = .returned (.bool true) ∧ w' = W) := fun W => by have := KI.out (sz : Int) 1 2002 W; rw [c3] at this; exact this
 have c34 : 1 ≤ sz ∧ sz ≤ 2002 := by simp [inB] at c3; omega
 rw [okP_yes (by unfold kOk; omega)]
 obtain ⟨w0, HW0⟩ : ∃ x, Hid (x = w.alloc (.cells (pcC r k n i b (.slice a m cap)) 32)) := ⟨_, rfl⟩
 obtain ⟨B, HB⟩ : ∃ x, Hid (x = w.heap.size) := ⟨_, rfl⟩
 rw [← HW0.out] at HB0 hb0
 have HR : Hid (Row w0 B 32 (pcC r k n i b (.slice a m cap))) := by show Row _ _ _ _; rw [HW0.out, HB.out]; exact Row.new w _ _
 have KL : Hid (∀ W, Calls Tryz.prog 65 #[.int .i64 k, .int .i64 n, .int .i64 i, .string b] W fun e w' => e = .returned (.string (plf k n i b)) ∧ Below W.heap.size W w') := fun W => sPieceLeaf_any k n i b W (by omega)
 have KP : Hid (∀ W, Below w0.heap.size w0 W → Calls Tryz.prog 64 #[.string r, .string (plf k n i b), .int .i64 i, .int .i64 n, .slice a m cap] W fun e w' => e = .returned (.bool (pvB r (plf k n i b) i n m S)) ∧ Below W.heap.size W w') := fun W hW => sProved_any r (plf k n i b) i n a m cap S W ((h.below hb0).below hW) hm hL
 generalize plf k n i b = x at KL KP ⊢
 generalize pvB r x i n m S = ans at KP ⊢
 have q0 := HR.out.cell 0
 have q1 := HR.out.cell 1
 have q2 := HR.out.cell 2
 have q3 := HR.out.cell 3
 have q4 := HR.out.cell 4
 have q5 := HR.out.cell 5
 have lB := HR.out.lt
 simp at q0 q1 q2 q3 q4 q5
 clear h hL hb0 k1 k2 k3 c34 KI
 go_enter Tryz.func34, Tryz.ntmps34
 go_wp2_with fail
 refine (KO.out _).mono ?_
 rintro e w' ⟨rfl, hw⟩
 obtain rfl := hw.symm
 clear hw
 go_wp2_with fail
 refine (KI2.out _).mono ?_
 rintro e w' ⟨rfl, hw⟩
 obtain rfl := hw.symm
 clear hw
 go_wp2_with fail
 refine (KI3.out _).mono ?_
 rintro e w' ⟨rfl, hw⟩
 obtain rfl := hw.symm
 clear hw
 go_wp2_with fail
 rw [← HW0.out, ← HB.out]
 go_region_held3 (fun w' => w'.cell? ⟨B, 0, none⟩ = some (.string r) ∧ w'.cell? ⟨B, 1, none⟩ = some (.int .i64 k) ∧ w'.cell? ⟨B, 2, none⟩ = some (.int .i64 n) ∧ w'.cell? ⟨B, 3, none⟩ = some (.int .i64 i) ∧ w'.cell? ⟨B, 4, none⟩ = some (.string b) ∧ w'.cell? ⟨B, 5, none⟩ = some (.slice a m cap)) (go_keep) ((first | (go_at_call 65; refine Calls.mono (KL.out _) ?_; rintro e w5 ⟨rfl, hb5'⟩; have hb5 := below_of_drew hb5'; clear hb5'; have p0 := (hb5.cell (p := ⟨B, 0, none⟩) lB).trans q0; have p1 := (hb5.cell (p := ⟨B, 1, none⟩) lB).trans q1; have p2 := (hb5.cell (p := ⟨B, 2, none⟩) lB).trans q2; have p3 := (hb5.cell (p := ⟨B, 3, none⟩) lB).trans q3; have p4 := (hb5.cell (p := ⟨B, 4, none⟩) lB).trans q4; have p5 := (hb5.cell (p := ⟨B, 5, none⟩) lB).trans q5) | (guard_hyp hb5; go_at_call 64; refine Calls.mono (KP.out _ hb5) ?_; rintro e w6 ⟨rfl, hb6⟩; have hb56 := below2 hb5 hb6; have u0 := (hb56.cell (p := ⟨B, 0, none⟩) lB).trans q0; have u1 := (hb56.cell (p := ⟨B, 1, none⟩) lB).trans q1; have u2 := (hb56.cell (p := ⟨B, 2, none⟩) lB).trans q2; have u3 := (hb56.cell (p := ⟨B, 3, none⟩) lB).trans q3; have u4 := (hb56.cell (p := ⟨B, 4, none⟩) lB).trans q4; have u5 := (hb56.cell (p := ⟨B, 5, none⟩) lB).trans q5)))
 all_goals
  go_wp2
  go_ret
  exact ⟨rfl, HB0.out.trans ((below2 hb5 hb6).mono HB0.out.size)⟩
noncomputable def exS (r : ByteArray) (k n i : Int) (b : ByteArray) (m : Nat) (S : Nat → ByteArray) (s : ByteArray) : ByteArray := (((⟨#[2]⟩ : ByteArray) ++ strOfNums [(s.size : Int)]) ++ s) ++ pieceT r k n i b m S
noncomputable def exT (r : ByteArray) (k n i : Int) (b : ByteArray) (m : Nat) (S : Nat → ByteArray) (s : ByteArray) : ByteArray := if s.size ≤ 100 ∧ okP r k n i b m S = true then hexT (sumS (exS r k n i b m S s)) else ⟨#[]⟩
structure ExK (r : ByteArray) (k n i : Int) (b : ByteArray) (m : Nat) (S : Nat → ByteArray) : Prop where
 sum : r.size + b.size + (m + tot (fun i => (S i).size) m) ≤ 1048576
 uk : -9223372036854775808 ≤ k ∧ k ≤ 9223372036854775807
 un : -9223372036854775808 ≤ n ∧ n ≤ 9223372036854775807
 ui : -9223372036854775808 ≤ i ∧ i ≤ 9223372036854775807
 ut : (pieceT r k n i b m S).size ≤ 5000
theorem tot16 {S : Nat → ByteArray} {m : Nat} (h : ∀ j, j < m → (S j).size = 16) : tot (fun i => (S i).size) m = 16 * m := by
 induction m with
 | zero => rfl
 | succ m ih =>
  show tot (fun i => (S i).size) m + (S m).size = _
  rw [ih (fun j hj => h j (by omega)), h m (by omega)]
  omega
theorem exK {r : ByteArray} {k n i : Int} {b : ByteArray} {m : Nat} {S : Nat → ByteArray} (h : okP r k n i b m S = true) : ExK r k n i b m S := by
 by_cases hk : kOk k n b
 case neg => rw [okP_no hk] at h; cases h
 rw [okP_yes hk] at h
 obtain ⟨h1, h2, _, h4, h5, h6⟩ := pvB_parts h
 obtain ⟨k1, k2, k3, k4, k5⟩ := hk
 have ht := tot16 h6
 have e1 : -9223372036854775808 ≤ k ∧ k ≤ 9223372036854775807 := by omega
 have e2 : -9223372036854775808 ≤ n ∧ n ≤ 9223372036854775807 := by omega
 have e3 : -9223372036854775808 ≤ i ∧ i ≤ 9223372036854775807 := by omega
 have hmi : -9223372036854775808 ≤ (m : Int) ∧ (m : Int) ≤ 9223372036854775807 := by omega
 have h1 := jp_size (r := r) (b := b) (S := S) (its_size k e1.1 e1.2).1 (its_size n e2.1 e2.2).1 (its_size i e3.1 e3.2).1 (its_size (m : Int) hmi.1 hmi.2).1 m
 refine ⟨by omega, e1, e2, e3, ?_⟩
 show (jp (pts r k n i b m S) (6 + m)).size ≤ _
 omega
theorem one_cellU {w : World} {ty : TypeId} {a : Int} : ∀ i, i < 1 → (w.alloc (.cells #[.int .u8 a] ty)).cell? ⟨w.heap.size, 0 + i, none⟩ = some (.int .u8 ([a].getD i 0)) := by
 intro i hi
 rw [Nat.zero_add, cell_of_row _ _ _ _ ty _ (heap_alloc_new w _)]
 match i, hi with
 | 0, _ => rfl
theorem expect_any (r : ByteArray) (k n i : Int) (b : ByteArray) (a : Option Addr) (m cap : Nat) (S : Nat → ByteArray) (s : ByteArray) (w : World) (h : TxtAt w a m S) (hm : m ≤ 1048576) (hL : ∀ i, i < m → (S i).size ≤ maxLen) (htab : TabOk w) :
  Calls Tryz.prog 11 #[pcV r k n i b (.slice a m cap), .string s] w fun e w' => e = .returned (.string (exT r k n i b m S s)) ∧ Below w.heap.size w w' := by
 obtain ⟨w0, HW0⟩ : ∃ x, Hid (x = w.alloc (.cells (pcC r k n i b (.slice a m cap)) 32)) := ⟨_, rfl⟩
 obtain ⟨B, HB⟩ : ∃ x, Hid (x = w.heap.size) := ⟨_, rfl⟩
 have HR : Hid (Row w0 B 32 (pcC r k n i b (.slice a m cap))) := by show Row _ _ _ _; rw [HW0.out, HB.out]; exact Row.new w _ _
 have hb0 : Below w.heap.size w w0 := by rw [HW0.out]; exact (Below.refl _ _).alloc (Nat.le_refl _) _
 have KB0 : Hid (Below w.heap.size w w0) := hb0
 by_cases hs : s.size ≤ 100
 case neg =>
  have hs1 : (s.size : Int) > 100 := by omega
  have HE : Hid (exT r k n i b m S s = ⟨#[]⟩) := if_neg (fun h => hs h.1)
  rw [HE.out]
  clear h hL htab hb0
  go_enter Tryz.func11, Tryz.ntmps11
  go_wp2_with fail
  rw [← HW0.out]
  go_ret
  exact ⟨rfl, KB0.out⟩
 have hs1 : ¬ ((s.size : Int) > 100) := by omega
 have KOk : Hid _ := pieceOk_any r k n i b a m cap S w0 (h.below hb0) hm hL
 have KT : Hid (∀ W, Below w.heap.size w W → TxtAt W a m S ∧ TabOk W) := fun W hW => ⟨h.below hW, htab.below hW⟩
 clear h hL htab hb0
 cases hok : okP r k n i b m S with
 | false =>
  have HE : Hid (exT r k n i b m S s = ⟨#[]⟩) := if_neg (fun h => by rw [hok] at h; cases h.2)
  rw [HE.out]
  rw [hok] at KOk
  clear hok
  go_enter Tryz.func11, Tryz.ntmps11
  go_wp2_with fail
  rw [← HW0.out]
  refine Calls.mono KOk.out ?_
  rintro e w1 ⟨rfl, b1⟩
  go_wp2
  go_ret
  exact ⟨rfl, below2 KB0.out b1⟩
 | true =>
  have HE : Hid (exT r k n i b m S s = hexT (sumS (exS r k n i b m S s))) := if_pos ⟨hs, hok⟩
  have HK : Hid (ExK r k n i b m S) := exK hok
  rw [HE.out]
  rw [hok] at KOk
  clear hok
  obtain ⟨z, hz⟩ : ∃ z, s.size = z := ⟨_, rfl⟩
  have hc : IntKind.u8.wrap (z : Int) = (z : Int) := by rw [IntKind.wrap_u8]; omega
  obtain ⟨hd, HH⟩ : ∃ hd, Hid (strOfNums [(z : Int)] = hd) := ⟨_, rfl⟩
  obtain ⟨pt, HP⟩ : ∃ x, Hid (pieceT r k n i b m S = x) := ⟨_, rfl⟩
  have hhs : hd.size = 1 := by rw [← HH.out, strOfNums_size]; rfl
  have hps : pt.size ≤ 5000 := by rw [← HP.out]; exact HK.out.ut
  have HX : Hid (exS r k n i b m S s = (((⟨#[2]⟩ : ByteArray) ++ hd) ++ s) ++ pt) := by show _ = _; unfold exS; rw [hz, HH.out, HP.out]
  have hb1 : (⟨#[2]⟩ : ByteArray).size = 1 := rfl
  rw [HX.out]
  have KSm : Hid (∀ W, Calls Tryz.prog 32 #[.string ((((⟨#[2]⟩ : ByteArray) ++ hd) ++ s) ++ pt)] W fun e w' => e = .returned (.string (sumS ((((⟨#[2]⟩ : ByteArray) ++ hd) ++ s) ++ pt))) ∧ Below W.heap.size W w') := fun W => sum_wide _ W (by simp only [ByteArray.size_append]; omega)
  have KHx : Hid (∀ W, Calls Tryz.prog 31 #[.string (sumS ((((⟨#[2]⟩ : ByteArray) ++ hd) ++ s) ++ pt))] W fun e w' => e = .returned (.string (hexT (sumS ((((⟨#[2]⟩ : ByteArray) ++ hd) ++ s) ++ pt)))) ∧ Below W.heap.size W w') := fun W => hexText_any _ W (by rw [sumS_size]; omega)
  have KPt : Hid (∀ W, Below w.heap.size w W → Calls Tryz.prog 33 #[pcV r k n i b (.slice a m cap)] W fun e w' => e = .returned (.string pt) ∧ Below W.heap.size W w') := fun W hW => by
   have := pieceText_any r k n i b a m cap S W (KT.out W hW).1 HK.out.sum HK.out.uk HK.out.un HK.out.ui (KT.out W hW).2
   rw [HP.out] at this
   exact this
  have hcv := fun W => run_convert_bytes_arg (P := Tryz.prog) (World.alloc W (.cells #[.int .u8 (z : Int)] 5)) 22 5 Tryz.underlying22 Tryz.underlying5 W.heap.size 0 1 1 [(z : Int)] rfl one_cellU 9 Tryz.underlying9
  simp only [HH.out] at hcv
  clear KT HE HX
  go_enter Tryz.func11, Tryz.ntmps11
  go_wp2_with fail
  rw [← HW0.out, ← HB.out]
  refine Calls.mono KOk.out ?_
  rintro e w1 ⟨rfl, b1⟩
  obtain ⟨w2, HW2⟩ : ∃ x, Hid (x = w1.alloc (.cells #[.int .u8 (z : Int)] 5)) := ⟨_, rfl⟩
  have b2 : Below w1.heap.size w1 w2 := by rw [HW2.out]; exact (Below.refl _ _).alloc (Nat.le_refl _) _
  have HR2 : Hid (Row w2 B 32 (pcC r k n i b (.slice a m cap))) := (HR.out.below b1 HR.out.lt).below b2 (Nat.lt_of_lt_of_le HR.out.lt b1.size)
  have KB2 : Hid (Below w.heap.size w w2) := below2 KB0.out (below2 b1 b2)
  clear b1 b2 KOk
  go_wp2_with (rw [← HW2.out]; refine wpList_load_row (by rfl) 32 _ (by rfl) B (by rfl) 32 _ (0, 0) _ HR2.out Tryz.underlying32 (by rfl) Tryz.infoPc ?_)
  refine Calls.mono (KPt.out _ KB2.out) ?_
  rintro e w3 ⟨rfl, b3⟩
  have KB3 : Hid (Below w.heap.size w w3) := below2 KB2.out b3
  clear b3
  go_wp2_with fail
  refine Calls.mono (KSm.out _) ?_
  rintro e w4 ⟨rfl, b4⟩
  have KB4 : Hid (Below w.heap.size w w4) := below2 KB3.out b4
  clear b4
  go_wp2_with fail
  refine Calls.mono (KHx.out _) ?_
  rintro e w5 ⟨rfl, b5⟩
  have KB5 : Hid (Below w.heap.size w w5) := below2 KB4.out b5
  clear b5
  go_wp2
  go_ret
  exact ⟨rfl, KB5.out⟩
theorem one_cellV {w : World} {b : Nat} {a : Int} (h : w.cell? ⟨b, 0, none⟩ = some (.int .u8 a)) : ∀ i, i < 1 → w.cell? ⟨b, 0 + i, none⟩ = some (.int .u8 ([a].getD i 0)) := by
 intro i hi
 match i, hi with
 | 0, _ => exact h
theorem cellU {w v : World} {z : Int} (hv : Below (w.drew.alloc (.cells #[.int .u8 z] 5)).heap.size (w.drew.alloc (.cells #[.int .u8 z] 5)) v) : v.cell? ⟨w.heap.size, 0, none⟩ = some (.int .u8 z) :=
 (hv.cell (p := ⟨w.heap.size, 0, none⟩) (by simp)).trans (one_cellU (w := w.drew) 0 (by omega))
theorem sExpect_any (r : ByteArray) (k n i : Int) (b : ByteArray) (a : Option Addr) (m cap : Nat) (S : Nat → ByteArray) (s : ByteArray) (w : World) (h : TxtAt w a m S) (hm : m ≤ 1048576) (hL : ∀ i, i < m → (S i).size ≤ maxLen) :
  Calls Tryz.prog 12 #[pcV r k n i b (.slice a m cap), .string s] w fun e w' => e = .returned (.string (exT r k n i b m S s)) ∧ Below w.heap.size w w' := by
 obtain ⟨w0, HW0⟩ : ∃ x, Hid (x = w.alloc (.cells (pcC r k n i b (.slice a m cap)) 32)) := ⟨_, rfl⟩
 obtain ⟨B, HB⟩ : ∃ x, Hid (x = w.heap.size) := ⟨_, rfl⟩
 have HR : Hid (Row w0 B 32 (pcC r k n i b (.slice a m cap))) := by show Row _ _ _ _; rw [HW0.out, HB.out]; exact Row.new w _ _
 have hb0 : Below w.heap.size w w0 := by rw [HW0.out]; exact (Below.refl _ _).alloc (Nat.le_refl _) _
 have KB0 : Hid (Below w.heap.size w w0) := hb0
 have KOk : Hid _ := sPieceOk_any r k n i b a m cap S w0 (h.below hb0) hm hL
 have KT : Hid (∀ W, Below w.heap.size w W → TxtAt W a m S) := fun W hW => h.below hW
 clear h hL hb0
 cases hok : okP r k n i b m S with
 | false =>
  have HE : Hid (exT r k n i b m S s = ⟨#[]⟩) := if_neg (fun h => by rw [hok] at h; cases h.2)
  rw [HE.out]
  rw [hok] at KOk
  clear hok
  go_enter Tryz.func12, Tryz.ntmps12
  go_wp2_with (rw [← HW0.out, ← HB.out]; refine wpList_load_row (by rfl) 32 _ (by rfl) B (by rfl) 32 _ (0, 0) _ HR.out Tryz.underlying32 (by rfl) Tryz.infoPc ?_)
  refine Calls.mono KOk.out ?_
  rintro e w1 ⟨rfl, b1⟩
  go_wp2
  go_ret
  exact ⟨rfl, below2 KB0.out b1⟩
 | true =>
  have HK : Hid (ExK r k n i b m S) := exK hok
  by_cases hs : s.size ≤ 100
  case neg =>
   have hs1 : (s.size : Int) > 100 := by omega
   have HE : Hid (exT r k n i b m S s = ⟨#[]⟩) := if_neg (fun h => hs h.1)
   rw [HE.out]
   rw [hok] at KOk
   clear hok
   go_enter Tryz.func12, Tryz.ntmps12
   go_wp2_with (rw [← HW0.out, ← HB.out]; refine wpList_load_row (by rfl) 32 _ (by rfl) B (by rfl) 32 _ (0, 0) _ HR.out Tryz.underlying32 (by rfl) Tryz.infoPc ?_)
   refine Calls.mono KOk.out ?_
   rintro e w1 ⟨rfl, b1⟩
   go_wp2
   go_ret
   exact ⟨rfl, below2 KB0.out b1⟩
  have hs1 : ¬ ((s.size : Int) > 100) := by omega
  have HE : Hid (exT r k n i b m S s = hexT (sumS (exS r k n i b m S s))) := if_pos ⟨hs, hok⟩
  rw [HE.out]
  rw [hok] at KOk
  clear hok
  obtain ⟨z, hz⟩ : ∃ z, s.size = z := ⟨_, rfl⟩
  have hc : IntKind.u8.wrap (z : Int) = (z : Int) := by rw [IntKind.wrap_u8]; omega
  obtain ⟨hd, HH⟩ : ∃ hd, Hid (strOfNums [(z : Int)] = hd) := ⟨_, rfl⟩
  obtain ⟨pt, HP⟩ : ∃ x, Hid (pieceT r k n i b m S = x) := ⟨_, rfl⟩
  have hhs : hd.size = 1 := by rw [← HH.out, strOfNums_size]; rfl
  have hps : pt.size ≤ 5000 := by rw [← HP.out]; exact HK.out.ut
  have HX : Hid (exS r k n i b m S s = (((⟨#[2]⟩ : ByteArray) ++ hd) ++ s) ++ pt) := by show _ = _; unfold exS; rw [hz, HH.out, HP.out]
  have hb1 : (⟨#[2]⟩ : ByteArray).size = 1 := rfl
  rw [HX.out]
  have KSm : Hid (∀ W, Below w.heap.size w W → Calls Tryz.prog 36 #[.string ((((⟨#[2]⟩ : ByteArray) ++ hd) ++ s) ++ pt)] W fun e w' => e = .returned (.string (sumS ((((⟨#[2]⟩ : ByteArray) ++ hd) ++ s) ++ pt))) ∧ Below w.heap.size w w') := fun W hW => (sSum_wide _ W (by simp only [ByteArray.size_append]; omega)).mono fun _ _ ⟨he, hb⟩ => ⟨he, below2 hW hb⟩
  have KHx : Hid (∀ W, Below w.heap.size w W → Calls Tryz.prog 35 #[.string (sumS ((((⟨#[2]⟩ : ByteArray) ++ hd) ++ s) ++ pt))] W fun e w' => e = .returned (.string (hexT (sumS ((((⟨#[2]⟩ : ByteArray) ++ hd) ++ s) ++ pt)))) ∧ Below w.heap.size w w') := fun W hW => (sHexText_any _ W (by rw [sumS_size]; omega)).mono fun _ _ ⟨he, hb⟩ => ⟨he, below2 hW hb⟩
  have KPt : Hid (∀ W, Below w.heap.size w W → Calls Tryz.prog 37 #[pcV r k n i b (.slice a m cap)] W fun e w' => e = .returned (.string pt) ∧ Below W.heap.size W w') := fun W hW => by
   have := sPieceText_any r k n i b a m cap S W (KT.out W hW) HK.out.sum HK.out.uk HK.out.un HK.out.ui
   rw [HP.out] at this
   exact this
  have hcv := fun (W : World) (g : Nat) (hg : W.cell? ⟨g, 0, none⟩ = some (.int .u8 (z : Int))) => run_convert_bytes_arg (P := Tryz.prog) W 22 5 Tryz.underlying22 Tryz.underlying5 g 0 1 1 [(z : Int)] rfl (one_cellV hg) 9 Tryz.underlying9
  simp only [HH.out] at hcv
  clear KT HE HX
  go_enter Tryz.func12, Tryz.ntmps12
  go_wp2_with (rw [← HW0.out, ← HB.out]; refine wpList_load_row (by rfl) 32 _ (by rfl) B (by rfl) 32 _ (0, 0) _ HR.out Tryz.underlying32 (by rfl) Tryz.infoPc ?_)
  refine Calls.mono KOk.out ?_
  rintro e w1 ⟨rfl, b1⟩
  have HR1 : Hid (Row w1 B 32 (pcC r k n i b (.slice a m cap))) := HR.out.below b1 HR.out.lt
  have KB1 : Hid (Below w.heap.size w w1) := below2 KB0.out b1
  clear b1 KOk
  have q0 := HR1.out.cell 0
  have q1 := HR1.out.cell 1
  have q2 := HR1.out.cell 2
  have q3 := HR1.out.cell 3
  have q4 := HR1.out.cell 4
  have q5 := HR1.out.cell 5
  simp at q0 q1 q2 q3 q4 q5
  have lB := HR1.out.lt
  go_wp2_with fail
  have hA := KB1.out.drew
  have hB := hA.alloc hA.size (.cells #[.int .u8 (z : Int)] 5)
  have hCl := fun v hv => cellU (w := w1) (v := v) (z := (z : Int)) hv
  go_region_with ((first | (go_at_call 37; refine Calls.mono (KPt.out _ (by first | exact hA | exact hB)) ?_; rintro e v1 ⟨rfl, b1⟩; have kb1 : Below w.heap.size w v1 := (by first | exact below2 hA b1 | exact below2 hB b1); (try have c1 := hCl _ b1); clear b1) | (guard_hyp kb1; go_at_call 36; refine Calls.mono (KSm.out _ (by first | exact kb1 | exact kb1.alloc kb1.size _)) ?_; rintro e v2 ⟨rfl, kb2⟩) | (guard_hyp kb2; go_at_call 35; refine Calls.mono (KHx.out _ kb2) ?_; rintro e v3 ⟨rfl, kb3⟩)))
  all_goals
   go_wp2
   go_ret
   exact ⟨rfl, kb3⟩
end Go.Proofs.YtaenoiffamgcfaaGreatDoor
