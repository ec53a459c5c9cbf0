import Derived.Test.YtgooamiggebibaaGreatDoorG6
import Derived.Test.YtgooamiggebibaaGreatDoorG11
import Derived.Test.YtgooamiggebibaaGreatDoorG13
import Derived.Test.YtgooamiggebibaaGreatDoorG5
import Derived.Test.YtgooamiggebibaaGreatDoorG12
import Derived.Test.YtgooamiggebibaaGreatDoorG8
import Derived.Deep.RegionHeld3
import Derived.BigQuiet
import Derived.Test.YtgooamiggebibaaGreatDoorRows
import Derived.Deep.Slices
import Derived.Test.YtgooamiggebibaaGreatDoorG10
import Derived.Test.YtgooamiggebibaaGreatDoorG9
import Derived.Test.YtgooamiggebibaaGreatDoorG7
import Derived.Deep.CutRange
set_option maxHeartbeats 8000000
set_option maxRecDepth 2000
open Go.ChangeShapes Go.WideShapes Go.ChangeAt Go.RowKit
namespace Go.Proofs.YtgooamiggebibaaGreatDoor
def kOk (k n : Int) (b : ByteArray) : Prop := 1 ≤ k ∧ k ≤ n ∧ n ≤ 16 ∧ 1 ≤ b.size ∧ b.size ≤ 2002
instance (k n : Int) (b : ByteArray) : Decidable (kOk k n b) := by unfold kOk; exact inferInstance
noncomputable def okP (r : ByteArray) (k n i : Int) (b : ByteArray) (m : Nat) (S : Nat → ByteArray) : Bool := if kOk k n b then pvB r (plf k n i b) i n m S else false
theorem okP_no {r : ByteArray} {k n i : Int} {b : ByteArray} {m : Nat} {S : Nat → ByteArray} (h : ¬ kOk k n b) : okP r k n i b m S = false := if_neg h
theorem okP_yes {r : ByteArray} {k n i : Int} {b : ByteArray} {m : Nat} {S : Nat → ByteArray} (h : kOk k n b) : okP r k n i b m S = pvB r (plf k n i b) i n m S := if_pos h
theorem pvB_out {r x : ByteArray} {i n : Int} {m : Nat} {S : Nat → ByteArray} (h : ¬ (0 ≤ i ∧ i ≤ n - 1)) : pvB r x i n m S = false := by
 unfold pvB
 cases hB : prB x i n m S with
 | false => rfl
 | true =>
  obtain ⟨_, h2, _⟩ := prB_parts hB
  have := plI_in (i := i) (n := n) (by omega)
  simp [inT] at this
  omega
theorem pvB_parts {r x : ByteArray} {i n : Int} {m : Nat} {S : Nat → ByteArray} (h : pvB r x i n m S = true) : 0 ≤ i ∧ i < n ∧ n ≤ 64 ∧ r.size = 16 ∧ m ≤ 6 ∧ ∀ j, j < m → (S j).size = 16 := by
 unfold pvB at h
 rw [Bool.and_eq_true] at h
 obtain ⟨h1, h2⟩ := h
 obtain ⟨h3, h4, h5⟩ := prB_parts h1
 have h6 := plI_in (i := i) (n := n) (by omega)
 have h7 : 0 ≤ i ∧ i < n ∧ n ≤ 64 := by simp [inT] at h6; omega
 have h8 : plI i n ≤ 6 := by
  unfold plI
  rw [if_pos h6]
  have := Gt.pl_le 6 i.toNat n.toNat (by omega)
  omega
 refine ⟨h7.1, h7.2.1, h7.2.2, ?_, by omega, h5⟩
 have h9 := of_decide_eq_true h2
 rw [← h9]
 unfold prS
 rw [if_pos h1]
 exact Gt.pr_size _ _ _ h3
theorem sprOk_is {k n : Int} (h1 : 1 ≤ k) (h2 : k ≤ n) (h3 : n ≤ 16) : sprOk k n = true := by unfold sprOk side; simp; omega
theorem pieceOk_any (r : ByteArray) (k n i : Int) (b : ByteArray) (a : Option Addr) (m cap : Nat) (S : Nat → ByteArray) (w : World) (h : TxtAt w a m S) (hm : m ≤ 1048576) (hL : ∀ i, i < m → (S i).size ≤ maxLen) :
  Calls Tryz.prog 78 #[pcV r k n i b (.slice a m cap)] w fun e w' => e = .returned (.bool (okP r k n i b m S)) ∧ Below w.heap.size w w' := by
 obtain ⟨sz, hsz⟩ : ∃ sz, b.size = sz := ⟨_, rfl⟩
 have hb0 : Below w.heap.size w (w.alloc (.cells (pcC r k n i b (.slice a m cap)) 66)) := (Below.refl _ _).alloc (Nat.le_refl _) _
 have HB0 : Hid (Below w.heap.size w (w.alloc (.cells (pcC r k n i b (.slice a m cap)) 66))) := hb0
 by_cases c1 : k < 1
 ·rw [okP_no (by unfold kOk; omega)]
  clear h hL hb0
  go_enter Tryz.func78, Tryz.ntmps78
  go_wp2
  go_ret
  exact ⟨rfl, HB0.out⟩
 by_cases c2 : n < k
 ·rw [okP_no (by unfold kOk; omega)]
  clear h hL hb0
  go_enter Tryz.func78, Tryz.ntmps78
  go_wp2
  go_ret
  exact ⟨rfl, HB0.out⟩
 by_cases c3 : 16 < n
 ·rw [okP_no (by unfold kOk; omega)]
  clear h hL hb0
  go_enter Tryz.func78, Tryz.ntmps78
  go_wp2
  go_ret
  exact ⟨rfl, HB0.out⟩
 by_cases c4 : (sz : Int) < 1
 ·rw [okP_no (by unfold kOk; omega)]
  clear h hL hb0
  go_enter Tryz.func78, Tryz.ntmps78
  go_wp2
  go_ret
  exact ⟨rfl, HB0.out⟩
 by_cases c5 : 2002 < (sz : Int)
 ·rw [okP_no (by unfold kOk; omega)]
  clear h hL hb0
  go_enter Tryz.func78, Tryz.ntmps78
  go_wp2
  go_ret
  exact ⟨rfl, HB0.out⟩
 rw [okP_yes (by unfold kOk; omega)]
 obtain ⟨w0, HW0⟩ : ∃ x, Hid (x = w.alloc (.cells (pcC r k n i b (.slice a m cap)) 66)) := ⟨_, rfl⟩
 obtain ⟨B, HB⟩ : ∃ x, Hid (x = w.heap.size) := ⟨_, rfl⟩
 rw [← HW0.out] at HB0 hb0
 have HR : Hid (Row w0 B 66 (pcC r k n i b (.slice a m cap))) := by show Row _ _ _ _; rw [HW0.out, HB.out]; exact Row.new w _ _
 have KL : Hid (∀ W, Calls Tryz.prog 110 #[.int .i64 k, .int .i64 n, .int .i64 i, .string b] W fun e w' => e = .returned (.string (plf k n i b)) ∧ Below W.heap.size W w') := fun W => pieceLeaf_any k n i b W (by omega)
 have KP : Hid (∀ W, Below w0.heap.size w0 W → Calls Tryz.prog 109 #[.string r, .string (plf k n i b), .int .i64 i, .int .i64 n, .slice a m cap] W fun e w' => e = .returned (.bool (pvB r (plf k n i b) i n m S)) ∧ Below W.heap.size W w') := fun W hW => proved_any r (plf k n i b) i n a m cap S W ((h.below hb0).below hW) hm hL
 generalize plf k n i b = x at KL KP ⊢
 generalize pvB r x i n m S = ans at KP ⊢
 have q0 := HR.out.cell 0
 have q1 := HR.out.cell 1
 have q2 := HR.out.cell 2
 have q3 := HR.out.cell 3
 have q4 := HR.out.cell 4
 have q5 := HR.out.cell 5
 have lB := HR.out.lt
 simp at q0 q1 q2 q3 q4 q5
 clear h hL hb0
 go_enter Tryz.func78, Tryz.ntmps78
 go_wp2_with fail
 rw [← HW0.out, ← HB.out]
 go_region_held3 (fun w' => w'.cell? ⟨B, 0, none⟩ = some (.string r) ∧ w'.cell? ⟨B, 1, none⟩ = some (.int .i64 k) ∧ w'.cell? ⟨B, 2, none⟩ = some (.int .i64 n) ∧ w'.cell? ⟨B, 3, none⟩ = some (.int .i64 i) ∧ w'.cell? ⟨B, 4, none⟩ = some (.string b) ∧ w'.cell? ⟨B, 5, none⟩ = some (.slice a m cap)) (go_keep) ((first | (go_at_call 110; refine Calls.mono (KL.out _) ?_; rintro e w5 ⟨rfl, hb5'⟩; have hb5 := below_of_drew hb5'; clear hb5'; have p0 := (hb5.cell (p := ⟨B, 0, none⟩) lB).trans q0; have p1 := (hb5.cell (p := ⟨B, 1, none⟩) lB).trans q1; have p2 := (hb5.cell (p := ⟨B, 2, none⟩) lB).trans q2; have p3 := (hb5.cell (p := ⟨B, 3, none⟩) lB).trans q3; have p4 := (hb5.cell (p := ⟨B, 4, none⟩) lB).trans q4; have p5 := (hb5.cell (p := ⟨B, 5, none⟩) lB).trans q5) | (guard_hyp hb5; go_at_call 109; refine Calls.mono (KP.out _ hb5) ?_; rintro e w6 ⟨rfl, hb6⟩; have hb56 := below2 hb5 hb6; have u0 := (hb56.cell (p := ⟨B, 0, none⟩) lB).trans q0; have u1 := (hb56.cell (p := ⟨B, 1, none⟩) lB).trans q1; have u2 := (hb56.cell (p := ⟨B, 2, none⟩) lB).trans q2; have u3 := (hb56.cell (p := ⟨B, 3, none⟩) lB).trans q3; have u4 := (hb56.cell (p := ⟨B, 4, none⟩) lB).trans q4; have u5 := (hb56.cell (p := ⟨B, 5, none⟩) lB).trans q5)))
 all_goals
  go_wp2
  go_ret
  exact ⟨rfl, HB0.out.trans ((below2 hb5 hb6).mono HB0.out.size)⟩
theorem sPieceOk_any (r : ByteArray) (k n i : Int) (b : ByteArray) (a : Option Addr) (m cap : Nat) (S : Nat → ByteArray) (w : World) (h : TxtAt w a m S) (hm : m ≤ 1048576) (hL : ∀ i, i < m → (S i).size ≤ maxLen) :
  Calls Tryz.prog 67 #[pcV r k n i b (.slice a m cap)] w fun e w' => e = .returned (.bool (okP r k n i b m S)) ∧ Below w.heap.size w w' := by
 obtain ⟨sz, hsz⟩ : ∃ sz, b.size = sz := ⟨_, rfl⟩
 have hb0 : Below w.heap.size w (w.alloc (.cells (pcC r k n i b (.slice a m cap)) 66)) := (Below.refl _ _).alloc (Nat.le_refl _) _
 have HB0 : Hid (Below w.heap.size w (w.alloc (.cells (pcC r k n i b (.slice a m cap)) 66))) := hb0
 have KO : Hid (∀ W, Calls Tryz.prog 93 #[.int .i64 k, .int .i64 n] W fun e w' => e = .returned (.bool (sprOk k n)) ∧ w' = W) := fun W => s4Ok_any k n W
 have KI : Hid (∀ x y z W, Calls Tryz.prog 94 #[.int .i64 x, .int .i64 y, .int .i64 z] W fun e w' => e = .returned (.bool (inB x y z)) ∧ w' = W) := fun x y z W => sIn_any x y z W
 cases c1 : sprOk k n with
 | false =>
  rw [okP_no (by unfold kOk; intro hk; rw [sprOk_is hk.1 hk.2.1 hk.2.2.1] at c1; cases c1)]
  rw [c1] at KO
  clear h hL hb0
  go_enter Tryz.func67, Tryz.ntmps67
  go_wp2_with (go_at_call 93; refine (KO.out _).mono ?_; rintro e w' ⟨rfl, hw⟩; obtain rfl := hw.symm)
  go_ret
  exact ⟨rfl, HB0.out⟩
 | true =>
 rw [c1] at KO
 obtain ⟨k1, k2, k3⟩ := sprOk_parts c1
 have hwn : IntKind.i64.wrap (n - 1) = n - 1 := by rw [IntKind.wrap_i64]; omega
 cases c2 : inB i 0 (n - 1) with
 | false =>
  rw [show okP r k n i b m S = false by unfold okP; rw [pvB_out (by simp [inB] at c2; omega)]; simp]
  have KI2 : Hid (∀ W, Calls Tryz.prog 94 #[.int .i64 i, .int .i64 0, .int .i64 (n - 1)] W fun e w' => e = .returned (.bool false) ∧ w' = W) := fun W => by have := KI.out i 0 (n - 1) W; rw [c2] at this; exact this
  clear h hL hb0 k1 k2 k3
  go_enter Tryz.func67, Tryz.ntmps67
  go_wp2_with (first | (go_at_call 93; refine (KO.out _).mono ?_; rintro e w' ⟨rfl, hw⟩; obtain rfl := hw.symm) | (go_at_call 94; refine (KI2.out _).mono ?_; rintro e w' ⟨rfl, hw⟩; obtain rfl := hw.symm))
  go_ret
  exact ⟨rfl, HB0.out⟩
 | true =>
 have KI2 : Hid (∀ W, Calls Tryz.prog 94 #[.int .i64 i, .int .i64 0, .int .i64 (n - 1)] W fun e w' => e = .returned (.bool true) ∧ w' = W) := fun W => by have := KI.out i 0 (n - 1) W; rw [c2] at this; exact this
 cases c3 : inB (sz : Int) 1 2002 with
 | false =>
  rw [okP_no (by unfold kOk; simp [inB] at c3; omega)]
  have KI3 : Hid (∀ W, Calls Tryz.prog 94 #[.int .i64 (sz : Int), .int .i64 1, .int .i64 2002] W fun e w' => e = .returned (.bool false) ∧ w' = W) := fun W => by have := KI.out (sz : Int) 1 2002 W; rw [c3] at this; exact this
  clear h hL hb0 k1 k2 k3
  go_enter Tryz.func67, Tryz.ntmps67
  go_wp2_with fail
  refine (KO.out _).mono ?_
  rintro e w' ⟨rfl, hw⟩
  obtain rfl := hw.symm
  clear hw
  go_wp2_with fail
  refine (KI2.out _).mono ?_
  rintro e w' ⟨rfl, hw⟩
  obtain rfl := hw.symm
  clear hw
  go_wp2_with fail
  refine (KI3.out _).mono ?_
  rintro e w' ⟨rfl, hw⟩
  obtain rfl := hw.symm
  clear hw
  go_wp2
  go_ret
  exact ⟨rfl, HB0.out⟩
 | true =>
 have KI3 : Hid (∀ W, Calls Tryz.prog 94 #[.int .i64 (sz : Int), .int .i64 1, .int .i64 2002] W fun e w' => e = .returned (.bool true) ∧ w' = W) := fun W => by have := KI.out (sz : Int) 1 2002 W; rw [c3] at this; exact this
 have c34 : 1 ≤ sz ∧ sz ≤ 2002 := by simp [inB] at c3; omega
 rw [okP_yes (by unfold kOk; omega)]
 obtain ⟨w0, HW0⟩ : ∃ x, Hid (x = w.alloc (.cells (pcC r k n i b (.slice a m cap)) 66)) := ⟨_, rfl⟩
 obtain ⟨B, HB⟩ : ∃ x, Hid (x = w.heap.size) := ⟨_, rfl⟩
 rw [← HW0.out] at HB0 hb0
 have HR : Hid (Row w0 B 66 (pcC r k n i b (.slice a m cap))) := by show Row _ _ _ _; rw [HW0.out, HB.out]; exact Row.new w _ _
 have KL : Hid (∀ W, Calls Tryz.prog 96 #[.int .i64 k, .int .i64 n, .int .i64 i, .string b] W fun e w' => e = .returned (.string (plf k n i b)) ∧ Below W.heap.size W w') := fun W => sPieceLeaf_any k n i b W (by omega)
 have KP : Hid (∀ W, Below w0.heap.size w0 W → Calls Tryz.prog 95 #[.string r, .string (plf k n i b), .int .i64 i, .int .i64 n, .slice a m cap] W fun e w' => e = .returned (.bool (pvB r (plf k n i b) i n m S)) ∧ Below W.heap.size W w') := fun W hW => sProved_any r (plf k n i b) i n a m cap S W ((h.below hb0).below hW) hm hL
 generalize plf k n i b = x at KL KP ⊢
 generalize pvB r x i n m S = ans at KP ⊢
 have q0 := HR.out.cell 0
 have q1 := HR.out.cell 1
 have q2 := HR.out.cell 2
 have q3 := HR.out.cell 3
 have q4 := HR.out.cell 4
 have q5 := HR.out.cell 5
 have lB := HR.out.lt
 simp at q0 q1 q2 q3 q4 q5
 clear h hL hb0 k1 k2 k3 c34 KI
 go_enter Tryz.func67, Tryz.ntmps67
 go_wp2_with fail
 refine (KO.out _).mono ?_
 rintro e w' ⟨rfl, hw⟩
 obtain rfl := hw.symm
 clear hw
 go_wp2_with fail
 refine (KI2.out _).mono ?_
 rintro e w' ⟨rfl, hw⟩
 obtain rfl := hw.symm
 clear hw
 go_wp2_with fail
 refine (KI3.out _).mono ?_
 rintro e w' ⟨rfl, hw⟩
 obtain rfl := hw.symm
 clear hw
 go_wp2_with fail
 rw [← HW0.out, ← HB.out]
 go_region_held3 (fun w' => w'.cell? ⟨B, 0, none⟩ = some (.string r) ∧ w'.cell? ⟨B, 1, none⟩ = some (.int .i64 k) ∧ w'.cell? ⟨B, 2, none⟩ = some (.int .i64 n) ∧ w'.cell? ⟨B, 3, none⟩ = some (.int .i64 i) ∧ w'.cell? ⟨B, 4, none⟩ = some (.string b) ∧ w'.cell? ⟨B, 5, none⟩ = some (.slice a m cap)) (go_keep) ((first | (go_at_call 96; refine Calls.mono (KL.out _) ?_; rintro e w5 ⟨rfl, hb5'⟩; have hb5 := below_of_drew hb5'; clear hb5'; have p0 := (hb5.cell (p := ⟨B, 0, none⟩) lB).trans q0; have p1 := (hb5.cell (p := ⟨B, 1, none⟩) lB).trans q1; have p2 := (hb5.cell (p := ⟨B, 2, none⟩) lB).trans q2; have p3 := (hb5.cell (p := ⟨B, 3, none⟩) lB).trans q3; have p4 := (hb5.cell (p := ⟨B, 4, none⟩) lB).trans q4; have p5 := (hb5.cell (p := ⟨B, 5, none⟩) lB).trans q5) | (guard_hyp hb5; go_at_call 95; refine Calls.mono (KP.out _ hb5) ?_; rintro e w6 ⟨rfl, hb6⟩; have hb56 := below2 hb5 hb6; have u0 := (hb56.cell (p := ⟨B, 0, none⟩) lB).trans q0; have u1 := (hb56.cell (p := ⟨B, 1, none⟩) lB).trans q1; have u2 := (hb56.cell (p := ⟨B, 2, none⟩) lB).trans q2; have u3 := (hb56.cell (p := ⟨B, 3, none⟩) lB).trans q3; have u4 := (hb56.cell (p := ⟨B, 4, none⟩) lB).trans q4; have u5 := (hb56.cell (p := ⟨B, 5, none⟩) lB).trans q5)))
 all_goals
  go_wp2
  go_ret
  exact ⟨rfl, HB0.out.trans ((below2 hb5 hb6).mono HB0.out.size)⟩
structure Pc where
 r : ByteArray
 k : Int
 n : Int
 i : Int
 b : ByteArray
 m : Nat
 S : Nat → ByteArray
def cel (p : Pc) (v : Value) : Nat → Value
 | 0 => .string p.r
 | 1 => .int .i64 p.k
 | 2 => .int .i64 p.n
 | 3 => .int .i64 p.i
 | 4 => .string p.b
 | _ => v
def gL (c : Nat → Nat → Value) (n : Nat) : List Value := (List.range (n * 6)).map fun j => c (j / 6) (j % 6)
theorem gL_len (c : Nat → Nat → Value) (n : Nat) : (gL c n).length = n * 6 := by simp [gL]
theorem gL_get (c : Nat → Nat → Value) (n i q : Nat) (hi : i < n) (hq : q < 6) : (gL c n)[i * 6 + q]? = some (c i q) := by
 have h : i * 6 + q < n * 6 := by omega
 simp [gL, h, show (i * 6 + q) / 6 = i by omega, show (i * 6 + q) % 6 = q by omega]
theorem gL_congr {c c' : Nat → Nat → Value} {n : Nat} (h : ∀ i q, i < n → q < 6 → c i q = c' i q) : gL c n = gL c' n := by
 unfold gL
 refine List.map_congr_left fun j hj => ?_
 have : j < n * 6 := by simpa using hj
 exact h _ _ (by omega) (by omega)
theorem gL_snoc (c : Nat → Nat → Value) (n : Nat) : gL c (n + 1) = gL c n ++ [c n 0, c n 1, c n 2, c n 3, c n 4, c n 5] := by
 apply List.ext_getElem?
 intro j
 by_cases hj : j < n * 6
 ·rw [List.getElem?_append_left (by rw [gL_len]; omega)]
  have h1 := gL_get c (n + 1) (j / 6) (j % 6) (by omega) (by omega)
  have h2 := gL_get c n (j / 6) (j % 6) (by omega) (by omega)
  rw [show j / 6 * 6 + j % 6 = j by omega] at h1 h2
  rw [h1, h2]
 ·rw [List.getElem?_append_right (by rw [gL_len]; omega), gL_len]
  by_cases h6 : j < (n + 1) * 6
  ·obtain ⟨q, rfl⟩ : ∃ q, j = n * 6 + q := ⟨j - n * 6, by omega⟩
   have hq : q < 6 := by omega
   rw [gL_get _ _ _ _ (by omega) hq, show n * 6 + q - n * 6 = q by omega]
   match q, hq with
   | 0, _ => rfl
   | 1, _ => rfl
   | 2, _ => rfl
   | 3, _ => rfl
   | 4, _ => rfl
   | 5, _ => rfl
  ·rw [List.getElem?_eq_none (by rw [gL_len]; omega), List.getElem?_eq_none (by simp; omega)]
def OwnC (w : World) (B : Nat) (a : Option Addr) (n cap : Nat) (c : Nat → Nat → Value) : Prop := w.ownsRow B 66 6 (.slice a n cap) n (gL c n)
theorem OwnC.congr {w : World} {B : Nat} {a : Option Addr} {n cap : Nat} {c c' : Nat → Nat → Value} (h : OwnC w B a n cap c) (e : ∀ i q, i < n → q < 6 → c i q = c' i q) : OwnC w B a n cap c' := by
 unfold OwnC
 rw [← gL_congr e]
 exact h
theorem OwnC.below {w w' : World} {B : Nat} {a : Option Addr} {n cap : Nat} {c : Nat → Nat → Value} (h : OwnC w B a n cap c) (hb : Below w.heap.size w w') : OwnC w' B a n cap c := ownsRow_below h hb
theorem OwnC.cell {w : World} {B g : Nat} {n cap : Nat} {c : Nat → Nat → Value} (h : OwnC w B (some ⟨g, 0, none⟩) n cap c) {i q : Nat} (hi : i < n) (hq : q < 6) : w.cell? ⟨g, i * 6 + q, none⟩ = some (c i q) := by
 have := World.ownsRow.cellAt h (i * 6 + q) (by omega)
 rw [this]
 exact gL_get _ _ _ _ hi hq
def OwnP (w : World) (B : Nat) (a : Option Addr) (n cap : Nat) (A : Nat → Option Addr) (C : Nat → Nat) (P : Nat → Pc) : Prop :=
 OwnC w B a n cap (fun i => cel (P i) (.slice (A i) (P i).m (C i))) ∧ (∀ i, i < n → OwnT w B (A i) (P i).m (C i) (P i).S) ∧
 (∀ i j x y, i < j → j < n → A i = some x → A j = some y → x.block ≠ y.block) ∧ (∀ i x y, i < n → A i = some x → a = some y → x.block ≠ y.block)
def ResP (w w' : World) (v : Value) (n : Nat) (P : Nat → Pc) : Prop := ∃ g cap A C, v = .slice (some ⟨g, 0, none⟩) n cap ∧ OwnP w' w.heap.size (some ⟨g, 0, none⟩) n cap A C P
def PiAt (w : World) (a : Option Addr) (n : Nat) (P : Nat → Pc) : Prop := ∀ i, i < n → ∃ b off ap cp, a = some ⟨b, off, none⟩ ∧ (∀ q, q < 6 → w.cell? ⟨b, off + (i * 6 + q), none⟩ = some (cel (P i) (.slice ap (P i).m cp) q)) ∧ TxtAt w ap (P i).m (P i).S
noncomputable def cutP (k : Int) (n : Nat) (S : Nat → ByteArray) : Nat → Pc := fun i => ⟨rtS n (lvs k n S), k, (n : Int), (i : Int), S i, pfR n (lvs k n S) (i : Int), pfF n (lvs k n S) (i : Int)⟩
structure Sl where
 r : ByteArray
 p : Pc
 h : Bool
 e : Bool
 d : Bool
 o : Bool
 ze : List Int
 zr : List Int
def pcD (p : Pc) : Nat → Dt
 | 0 => .val (.string p.r)
 | 1 => .val (.int .i64 p.k)
 | 2 => .val (.int .i64 p.n)
 | 3 => .val (.int .i64 p.i)
 | 4 => .val (.string p.b)
 | _ => txD p.m p.S
def slD (s : Sl) : Nat → Dt
 | 0 => .val (.string s.r)
 | 1 => .val (.string s.p.r)
 | 2 => .val (.int .i64 s.p.k)
 | 3 => .val (.int .i64 s.p.n)
 | 4 => .val (.int .i64 s.p.i)
 | 5 => .val (.string s.p.b)
 | 6 => txD s.p.m s.p.S
 | 7 => .val (.bool s.h)
 | 8 => .val (.bool s.e)
 | 9 => .val (.bool s.d)
 | 10 => .val (.bool s.o)
 | 11 => inD s.ze
 | _ => inD s.zr
abbrev slC (s : Sl) (v6 v11 v12 : Value) : Array Value := #[.string s.r, .string s.p.r, .int .i64 s.p.k, .int .i64 s.p.n, .int .i64 s.p.i, .string s.p.b, v6, .bool s.h, .bool s.e, .bool s.d, .bool s.o, v11, v12]
abbrev slV (s : Sl) (v6 v11 v12 : Value) : Value := .agg (slC s v6 v11 v12)
structure Sy where
 k : Int
 f : Int
 t : Int
 r : ByteArray
 p : Pc
def syD (s : Sy) : Nat → Dt
 | 0 => .val (.int .i64 s.k)
 | 1 => .val (.int .i64 s.f)
 | 2 => .val (.int .i64 s.t)
 | 3 => .val (.string s.r)
 | 4 => .val (.string s.p.r)
 | 5 => .val (.int .i64 s.p.k)
 | 6 => .val (.int .i64 s.p.n)
 | 7 => .val (.int .i64 s.p.i)
 | 8 => .val (.string s.p.b)
 | _ => txD s.p.m s.p.S
abbrev syC (s : Sy) (v : Value) : Array Value := #[.int .i64 s.k, .int .i64 s.f, .int .i64 s.t, .string s.r, .string s.p.r, .int .i64 s.p.k, .int .i64 s.p.n, .int .i64 s.p.i, .string s.p.b, v]
abbrev syV (s : Sy) (v : Value) : Value := .agg (syC s v)
abbrev ag13 (y : Nat → Value) : Value := .agg #[y 0, y 1, y 2, y 3, y 4, y 5, y 6, y 7, y 8, y 9, y 10, y 11, y 12]
abbrev ag10 (y : Nat → Value) : Value := .agg #[y 0, y 1, y 2, y 3, y 4, y 5, y 6, y 7, y 8, y 9]
def slsD (n : Nat) (S : Nat → Sl) : Dt := .lst 90 13 n fun i => slD (S i)
def sysD (n : Nat) (S : Nat → Sy) : Dt := .lst 75 10 n fun i => syD (S i)
theorem slot_row {w : World} {n : Nat} {S : Nat → Sl} {a : Option Addr} {cap : Nat} (h : Rd w (slsD n S) (.slice a n cap)) {i : Nat} (hi : i < n) :
  ∃ (b off : Nat) (y : Nat → Value) (a6 a11 a12 : Option Addr) (c6 c11 c12 : Nat), a = some ⟨b, off, none⟩ ∧ (∀ q, q < 13 → w.cell? ⟨b, off + (i * 13 + q), none⟩ = some (y q)) ∧ ag13 y = slV (S i) (.slice a6 (S i).p.m c6) (.slice a11 (S i).ze.length c11) (.slice a12 (S i).zr.length c12) ∧ TxtAt w a6 (S i).p.m (S i).p.S ∧ IntsAt w a11 (S i).ze.length (S i).ze ∧ IntsAt w a12 (S i).zr.length (S i).zr := by
 obtain ⟨b, off, y, ea, hc, hr⟩ := h.row hi
 obtain ⟨a6, c6, e6⟩ := (hr 6 (by omega)).shape
 have r6 : Rd w (txD (S i).p.m (S i).p.S) (y 6) := hr 6 (by omega)
 rw [e6] at r6
 obtain ⟨a11, c11, e11⟩ := (hr 11 (by omega)).shape
 have r11 : Rd w (inD (S i).ze) (y 11) := hr 11 (by omega)
 rw [e11] at r11
 obtain ⟨a12, c12, e12⟩ := (hr 12 (by omega)).shape
 have r12 : Rd w (inD (S i).zr) (y 12) := hr 12 (by omega)
 rw [e12] at r12
 have g0 := hr 0 (by omega)
 have g1 := hr 1 (by omega)
 have g2 := hr 2 (by omega)
 have g3 := hr 3 (by omega)
 have g4 := hr 4 (by omega)
 have g5 := hr 5 (by omega)
 have g7 := hr 7 (by omega)
 have g8 := hr 8 (by omega)
 have g9 := hr 9 (by omega)
 have g10 := hr 10 (by omega)
 simp only [Rd, slD] at g0 g1 g2 g3 g4 g5 g7 g8 g9 g10
 exact ⟨b, off, y, a6, a11, a12, c6, c11, c12, ea, hc, by simp only [ag13, slV, slC, g0, g1, g2, g3, g4, g5, g7, g8, g9, g10, e6, e11, e12], rd_txt.1 r6, rd_ints.1 r11, rd_ints.1 r12⟩
theorem say_row {w : World} {n : Nat} {S : Nat → Sy} {a : Option Addr} {cap : Nat} (h : Rd w (sysD n S) (.slice a n cap)) {i : Nat} (hi : i < n) :
  ∃ (b off : Nat) (y : Nat → Value) (a9 : Option Addr) (c9 : Nat), a = some ⟨b, off, none⟩ ∧ (∀ q, q < 10 → w.cell? ⟨b, off + (i * 10 + q), none⟩ = some (y q)) ∧ ag10 y = syV (S i) (.slice a9 (S i).p.m c9) ∧ TxtAt w a9 (S i).p.m (S i).p.S := by
 obtain ⟨b, off, y, ea, hc, hr⟩ := h.row hi
 obtain ⟨a9, c9, e9⟩ := (hr 9 (by omega)).shape
 have r9 : Rd w (txD (S i).p.m (S i).p.S) (y 9) := hr 9 (by omega)
 rw [e9] at r9
 have g0 := hr 0 (by omega)
 have g1 := hr 1 (by omega)
 have g2 := hr 2 (by omega)
 have g3 := hr 3 (by omega)
 have g4 := hr 4 (by omega)
 have g5 := hr 5 (by omega)
 have g6 := hr 6 (by omega)
 have g7 := hr 7 (by omega)
 have g8 := hr 8 (by omega)
 simp only [Rd, syD] at g0 g1 g2 g3 g4 g5 g6 g7 g8
 exact ⟨b, off, y, a9, c9, ea, hc, by simp only [ag10, syV, syC, g0, g1, g2, g3, g4, g5, g6, g7, g8, e9], rd_txt.1 r9⟩
theorem range13 {w : World} {b o : Nat} {y : Nat → Value} (h : ∀ q, q < 13 → w.cell? ⟨b, o + q, none⟩ = some (y q)) : w.rangeAt b o [y 0, y 1, y 2, y 3, y 4, y 5, y 6, y 7, y 8, y 9, y 10, y 11, y 12] := fun j v hv => by
 have hj : j < 13 := (List.getElem?_eq_some_iff.1 hv).1
 rw [h j hj, ← hv]
 match j, hj with
 | 0, _ | 1, _ | 2, _ | 3, _ | 4, _ | 5, _ | 6, _ | 7, _ | 8, _ | 9, _ | 10, _ | 11, _ | 12, _ => rfl
theorem range10 {w : World} {b o : Nat} {y : Nat → Value} (h : ∀ q, q < 10 → w.cell? ⟨b, o + q, none⟩ = some (y q)) : w.rangeAt b o [y 0, y 1, y 2, y 3, y 4, y 5, y 6, y 7, y 8, y 9] := fun j v hv => by
 have hj : j < 10 := (List.getElem?_eq_some_iff.1 hv).1
 rw [h j hj, ← hv]
 match j, hj with
 | 0, _ | 1, _ | 2, _ | 3, _ | 4, _ | 5, _ | 6, _ | 7, _ | 8, _ | 9, _ => rfl
theorem Tryz.infoSl : (Tryz.prog.info? 90).map (·.size) = some 13 := by kernel_rfl
theorem Tryz.infoNd : (Tryz.prog.info? 72).map (·.size) = some 3 := by kernel_rfl
def GwP (k n i : Int) (c : Nat) (Q : Nat → Pc) : Prop := ∀ j, j < c → k = (Q j).k ∧ n = (Q j).n ∧ i ≠ (Q j).i
noncomputable def gwB (k n i : Int) (c : Nat) (Q : Nat → Pc) : Bool := @decide (GwP k n i c Q) (Classical.propDecidable _)
theorem gwB_yes {k n i : Int} {c : Nat} {Q : Nat → Pc} (h : GwP k n i c Q) : gwB k n i c Q = true := by unfold gwB; simpa using h
theorem gwB_no {k n i : Int} {c : Nat} {Q : Nat → Pc} (h : ¬ GwP k n i c Q) : gwB k n i c Q = false := by unfold gwB; simpa using h
theorem goesWith_any (r : ByteArray) (k n i : Int) (b : ByteArray) (v : Value) (g c cc : Nat) (Q : Nat → Pc) (A : Nat → Option Addr) (C : Nat → Nat) (w : World) (hcell : ∀ j q, j < c → q < 6 → w.cell? ⟨g, j * 6 + q, none⟩ = some (cel (Q j) (.slice (A j) (Q j).m (C j)) q)) (hc : c ≤ 64) :
  Calls Tryz.prog 77 #[pcV r k n i b v, .slice (some ⟨g, 0, none⟩) c cc] w fun e w' => e = .returned (.bool (gwB k n i c Q)) ∧ Below w.heap.size w w' := by
 obtain ⟨w0, HW0⟩ : ∃ x, Hid (x = w.alloc (.cells (pcC r k n i b v) 66)) := ⟨_, rfl⟩
 obtain ⟨B, HB⟩ : ∃ x, Hid (x = w.heap.size) := ⟨_, rfl⟩
 have HR : Hid (Row w0 B 66 (pcC r k n i b v)) := by show Row _ _ _ _; rw [HW0.out, HB.out]; exact Row.new w _ _
 have KB : Hid (Below w.heap.size w w0) := by show Below _ _ _; rw [HW0.out]; exact (Below.refl _ _).alloc (Nat.le_refl _) _
 have HC : Hid (∀ j q, j < c → q < 6 → w0.cell? ⟨g, j * 6 + q, none⟩ = some (cel (Q j) (.slice (A j) (Q j).m (C j)) q)) := fun j q hj hq => (KB.out.cell (p := ⟨g, j * 6 + q, none⟩) (block_lt_of_cell (hcell j q hj hq))).trans (hcell j q hj hq)
 clear hcell
 go_enter Tryz.func77, Tryz.ntmps77
 go_wp2_with fail
 rw [← HW0.out, ← HB.out]
 go_loopw [9] (fun vi wr => ∃ j : Nat, j ≤ c ∧ vi = .int .i64 (j : Int) ∧ Hid (GwP k n i j Q) ∧ Below w0.heap.size w0 wr) (fun vi _ => c - (intOf vi).toNat)
 case atStart => exact ⟨0, Nat.zero_le _, rfl, fun j hj => absurd hj (Nat.not_lt_zero _), Below.refl _ _⟩
 case round =>
  obtain ⟨j, hj, rfl, HG, hbel⟩ := hrel
  by_cases hlt : j < c
  ·have hji : (j : Int) < (c : Int) := by omega
   have hx := fun q (hq : q < 6) => (hbel.cell (p := ⟨g, j * 6 + q, none⟩) (block_lt_of_cell (HC.out j q hlt hq))).trans (HC.out j q hlt hq)
   have HRr := HR.out.below hbel HR.out.lt
   have q1 := HRr.cell 1
   have q2 := HRr.cell 2
   have q3 := HRr.cell 3
   simp at q1 q2 q3
   have lB : B < wr.heap.size := HRr.lt
   have nB : ¬ B = wr.heap.size := by omega
   have nB' : ¬ wr.heap.size = B := by omega
   have x0 := hx 0 (by omega)
   have x1 := hx 1 (by omega)
   have x2 := hx 2 (by omega)
   have x3 := hx 3 (by omega)
   have x4 := hx 4 (by omega)
   have x5 := hx 5 (by omega)
   simp only [cel, Nat.add_zero] at x0 x1 x2 x3 x4 x5
   have HN : Hid (GwP k n i (j + 1) Q ↔ k = (Q j).k ∧ n = (Q j).n ∧ i ≠ (Q j).i) := by
    constructor
    ·intro h; exact h j (by omega)
    ·intro h y hy
     by_cases e : y = j
     ·subst e; exact h
     ·exact HG.out y (by omega)
   have HX : Hid (¬ (k = (Q j).k ∧ n = (Q j).n ∧ i ≠ (Q j).i) → gwB k n i c Q = false) := fun h => gwB_no fun h' => h (h' j hlt)
   generalize (Q j).k = kj at x1 HN HX
   generalize (Q j).n = nj at x2 HN HX
   generalize (Q j).i = ij at x3 HN HX
   generalize (Q j).r = rj at x0
   generalize (Q j).b = bj at x4
   generalize (Q j).m = mj at x5
   generalize A j = aj at x5
   generalize C j = cj at x5
   obtain ⟨D, HD⟩ : ∃ x, Hid (x = wr.heap.size) := ⟨_, rfl⟩
   obtain ⟨w1, HW1⟩ : ∃ x, Hid (x = wr.alloc (.cells (pcC rj kj nj ij bj (.slice aj mj cj)) 66)) := ⟨_, rfl⟩
   have HB1 : Hid (Below w0.heap.size w0 w1) := by show Below _ _ _; rw [HW1.out]; exact hbel.alloc hbel.size _
   clear HRr hx
   by_cases hk : k = kj
   ·subst hk
    have nk : (k != k) = false := by simp
    by_cases hn : n = nj
    ·subst hn
     have nn : (n != n) = false := by simp
     by_cases hi : i = ij
     ·subst hi
      have ni : (i == i) = true := by simp
      have HF : Hid (gwB k n i c Q = false) := HX.out (by simp)
      go_wp2
      go_ret
      exact ⟨by rw [HF.out]; rfl, by rw [← HW1.out]; exact below2 KB.out HB1.out⟩
     ·have ni : (i == ij) = false := by simpa using hi
      have HG2 : Hid (GwP k n i (j + 1) Q) := HN.out.2 ⟨rfl, rfl, hi⟩
      go_wp2
      go_roundw
      case rel => exact ⟨j + 1, by omega, by go_num, HG2, by rw [← HW1.out]; exact HB1.out⟩
      case measure => simp [intOf]; omega
    ·have nn : (n != nj) = true := by simpa using hn
     have HF : Hid (gwB k n i c Q = false) := HX.out (fun h => hn h.2.1)
     go_wp2
     go_ret
     exact ⟨by rw [HF.out]; rfl, by rw [← HW1.out]; exact below2 KB.out HB1.out⟩
   ·have nk : (k != kj) = true := by simpa using hk
    have HF : Hid (gwB k n i c Q = false) := HX.out (fun h => hk h.1)
    go_wp2
    go_ret
    exact ⟨by rw [HF.out]; rfl, by rw [← HW1.out]; exact below2 KB.out HB1.out⟩
  ·obtain rfl : j = c := by omega
   have HF : Hid (gwB k n i j Q = true) := gwB_yes HG.out
   go_wp2
   go_ret
   exact ⟨by rw [HF.out]; rfl, below2 KB.out hbel⟩
def SlS (s : Sl) : Prop := s.p.m ≤ 1048576 ∧ s.ze.length ≤ 1048576 ∧ s.zr.length ≤ 1048576
theorem eqSl_same (s : Sl) (a6 b6 a11 b11 a12 b12 : Option Addr) (c6 d6 c11 d11 c12 d12 : Nat) (w : World) (h6 : TxtAt w a6 s.p.m s.p.S) (k6 : TxtAt w b6 s.p.m s.p.S) (h11 : IntsAt w a11 s.ze.length s.ze) (k11 : IntsAt w b11 s.ze.length s.ze) (h12 : IntsAt w a12 s.zr.length s.zr) (k12 : IntsAt w b12 s.zr.length s.zr) (hs : SlS s) :
  Calls Tryz.prog 92 #[slV s (.slice a6 s.p.m c6) (.slice a11 s.ze.length c11) (.slice a12 s.zr.length c12), slV s (.slice b6 s.p.m d6) (.slice b11 s.ze.length d11) (.slice b12 s.zr.length d12)] w fun e w' => e = .returned (.bool true) ∧ Below w.heap.size w w' := by
 obtain ⟨r, p, fh, fe, fd, fo, ze, zr⟩ := s
 obtain ⟨rr, kk, nn, ii, bb, m, S⟩ := p
 obtain ⟨hm, he, hz⟩ := hs
 simp only at h6 k6 h11 k11 h12 k12 hm he hz
 obtain ⟨A, HA⟩ : ∃ x, Hid (x = w.heap.size) := ⟨_, rfl⟩
 obtain ⟨B, HB⟩ : ∃ x, Hid (x = w.heap.size + 1) := ⟨_, rfl⟩
 obtain ⟨w0, HW0⟩ : ∃ x, Hid (x = (w.alloc (.cells (slC ⟨r, ⟨rr, kk, nn, ii, bb, m, S⟩, fh, fe, fd, fo, ze, zr⟩ (.slice a6 m c6) (.slice a11 ze.length c11) (.slice a12 zr.length c12)) 90)).alloc (.cells (slC ⟨r, ⟨rr, kk, nn, ii, bb, m, S⟩, fh, fe, fd, fo, ze, zr⟩ (.slice b6 m d6) (.slice b11 ze.length d11) (.slice b12 zr.length d12)) 90)) := ⟨_, rfl⟩
 have RA : Hid (Row w0 A 90 (slC ⟨r, ⟨rr, kk, nn, ii, bb, m, S⟩, fh, fe, fd, fo, ze, zr⟩ (.slice a6 m c6) (.slice a11 ze.length c11) (.slice a12 zr.length c12))) := by
  show Row _ _ _ _
  rw [HW0.out, HA.out]
  exact Row.alloc (Row.new w _ _) _
 have RB : Hid (Row w0 B 90 (slC ⟨r, ⟨rr, kk, nn, ii, bb, m, S⟩, fh, fe, fd, fo, ze, zr⟩ (.slice b6 m d6) (.slice b11 ze.length d11) (.slice b12 zr.length d12))) := by
  show Row _ _ _ _
  rw [HW0.out, HB.out]
  have := Row.new (w.alloc (.cells (slC ⟨r, ⟨rr, kk, nn, ii, bb, m, S⟩, fh, fe, fd, fo, ze, zr⟩ (.slice a6 m c6) (.slice a11 ze.length c11) (.slice a12 zr.length c12)) 90)) (slC ⟨r, ⟨rr, kk, nn, ii, bb, m, S⟩, fh, fe, fd, fo, ze, zr⟩ (.slice b6 m d6) (.slice b11 ze.length d11) (.slice b12 zr.length d12)) 90
  simpa using this
 have hb0 : Below w.heap.size w w0 := by rw [HW0.out]; exact ((Below.refl _ _).alloc (Nat.le_refl _) _).alloc (by simp) _
 have KB0 : Hid (Below w.heap.size w w0) := hb0
 have KP : Hid _ := eqPc_same rr kk nn ii bb a6 b6 m c6 d6 S w0 (h6.below hb0) (k6.below hb0) hm
 have KE : Hid (∀ W, Below w0.heap.size w0 W → Calls Tryz.prog 25 #[.slice a11 ze.length c11, .slice b11 ze.length d11] W fun e w' => e = .returned (.bool true) ∧ Below W.heap.size W w') := fun W hW => eqIntS_same a11 b11 ze.length c11 d11 ze W ((h11.below hb0).below hW) ((k11.below hb0).below hW) he
 have KZ : Hid (∀ W, Below w0.heap.size w0 W → Calls Tryz.prog 25 #[.slice a12 zr.length c12, .slice b12 zr.length d12] W fun e w' => e = .returned (.bool true) ∧ Below W.heap.size W w') := fun W hW => eqIntS_same a12 b12 zr.length c12 d12 zr W ((h12.below hb0).below hW) ((k12.below hb0).below hW) hz
 generalize ze.length = le at *
 generalize zr.length = lr at *
 have f0 : (r.toList != r.toList) = false := by simp
 have f0' := ba_beq r
 have f1 : (fh != fh) = false := by simp
 have f2 : (fe != fe) = false := by simp
 have f3 : (fd != fd) = false := by simp
 have f4 : (fo != fo) = false := by simp
 clear h6 k6 h11 k11 h12 k12 hm he hz hb0
 go_enter Tryz.func92, Tryz.ntmps92
 go_wp2_with fail
 rw [← HW0.out, ← HB.out, ← HA.out]
 refine Calls.mono KP.out ?_
 rintro e w1 ⟨rfl, b1⟩
 have RA1 := RA.out.below b1 RA.out.lt
 have RB1 := RB.out.below b1 RB.out.lt
 have x7 := RA1.cell 7
 have x8 := RA1.cell 8
 have x9 := RA1.cell 9
 have x10 := RA1.cell 10
 have x11 := RA1.cell 11
 have y7 := RB1.cell 7
 have y8 := RB1.cell 8
 have y9 := RB1.cell 9
 have y10 := RB1.cell 10
 have y11 := RB1.cell 11
 simp at x7 x8 x9 x10 x11 y7 y8 y9 y10 y11
 have B1 : Hid (Below w0.heap.size w0 w1) := b1
 have HA1 : Hid (Row w1 A 90 _ ∧ Row w1 B 90 _) := ⟨RA1, RB1⟩
 clear RA RB RA1 RB1 b1 KP
 go_wp2_with fail
 refine Calls.mono (KE.out _ B1.out) ?_
 rintro e w2 ⟨rfl, b2⟩
 have RA2 := HA1.out.1.below b2 HA1.out.1.lt
 have RB2 := HA1.out.2.below b2 HA1.out.2.lt
 have B2 : Hid (Below w0.heap.size w0 w2) := below2 B1.out b2
 have z12 := RA2.cell 12
 have u12 := RB2.cell 12
 simp at z12 u12
 clear x7 x8 x9 x10 x11 y7 y8 y9 y10 y11 RA2 RB2 HA1 b2 KE
 go_wp2_with fail
 refine Calls.mono (KZ.out _ B2.out) ?_
 rintro e w3 ⟨rfl, b3⟩
 have B3 : Hid (Below w.heap.size w w3) := below2 KB0.out (below2 B2.out b3)
 clear b3 z12 u12
 go_wp2
 go_ret
 exact ⟨rfl, B3.out⟩
theorem one_row {w : World} {b off i sz : Nat} {y : Nat → Value} (W : World) (hW : Below w.heap.size w W) (h : ∀ q, q < sz + 1 → w.cell? ⟨b, off + (i * (sz + 1) + q), none⟩ = some (y q)) :
  W.cell? ⟨b, off + i * (sz + 1), none⟩ = some (y 0) ∧ (∀ q, q < sz + 1 → W.cell? ⟨b, off + i * (sz + 1) + q, none⟩ = some (y q)) := by
 have k : ∀ q, q < sz + 1 → W.cell? ⟨b, off + i * (sz + 1) + q, none⟩ = some (y q) := fun q hq => by
  have := h q hq
  rw [← Nat.add_assoc] at this
  exact (hW.cell (p := ⟨b, off + i * (sz + 1) + q, none⟩) (block_lt_of_cell this)).trans this
 exact ⟨k 0 (by omega), k⟩
theorem two_rows {w : World} {b off b' off' i sz : Nat} {y y' : Nat → Value} (W : World) (hW : Below w.heap.size w W) (h : ∀ q, q < sz + 1 → w.cell? ⟨b, off + (i * (sz + 1) + q), none⟩ = some (y q)) (h' : ∀ q, q < sz + 1 → w.cell? ⟨b', off' + (i * (sz + 1) + q), none⟩ = some (y' q)) :
  W.cell? ⟨b, off + i * (sz + 1), none⟩ = some (y 0) ∧ (∀ q, q < sz + 1 → W.cell? ⟨b, off + i * (sz + 1) + q, none⟩ = some (y q)) ∧ W.cell? ⟨b', off' + i * (sz + 1), none⟩ = some (y' 0) ∧ (∀ q, q < sz + 1 → W.cell? ⟨b', off' + i * (sz + 1) + q, none⟩ = some (y' q)) := by
 obtain ⟨h1, h2⟩ := one_row W hW h
 obtain ⟨h3, h4⟩ := one_row W hW h'
 exact ⟨h1, h2, h3, h4⟩
theorem eqSls_same (a b : Option Addr) (n ca cb : Nat) (S : Nat → Sl) (w : World) (ha : Rd w (slsD n S) (.slice a n ca)) (hb : Rd w (slsD n S) (.slice b n cb)) (hn : n ≤ 1048576) (hs : ∀ i, i < n → SlS (S i)) :
  Calls Tryz.prog 64 #[.slice a n ca, .slice b n cb] w fun e w' => e = .returned (.bool true) ∧ Below w.heap.size w w' := by
 have KH : Hid (Rd w (slsD n S) (.slice a n ca) ∧ Rd w (slsD n S) (.slice b n cb)) := ⟨ha, hb⟩
 have HS : Hid (∀ i, i < n → SlS (S i)) := hs
 have hnn : ((n : Int) != (n : Int)) = false := by simp
 clear ha hb hs
 go_enter Tryz.func64, Tryz.ntmps64
 go_wp2
 go_loopw [5] (fun vi wr => ∃ c : Nat, c ≤ n ∧ vi = .int .i64 (c : Int) ∧ Below w.heap.size w wr) (fun vi _ => n - (intOf vi).toNat)
 case atStart => exact ⟨0, Nat.zero_le _, rfl, Below.refl _ _⟩
 case round =>
  obtain ⟨c, hcn, rfl, hbel⟩ := hrel
  by_cases hlt : c < n
  ·have hki : (c : Int) < (n : Int) := by omega
   obtain ⟨b1, f1, y1, p6, p11, p12, q6, q11, q12, rfl, hc1, e1, ht1, he1, hz1⟩ := slot_row (KH.out.1.below hbel) hlt
   obtain ⟨b2, f2, y2, s6, s11, s12, t6, t11, t12, rfl, hc2, e2, ht2, he2, hz2⟩ := slot_row (KH.out.2.below hbel) hlt
   have hsc := HS.out c hlt
   have KT : Hid (∀ W, Below wr.heap.size wr W → Calls Tryz.prog 92 #[ag13 y1, ag13 y2] W fun e w' => e = .returned (.bool true) ∧ Below W.heap.size W w') := fun W hW => by
    rw [e1, e2]
    exact eqSl_same (S c) p6 s6 p11 s11 p12 s12 q6 t6 q11 t11 q12 t12 W (ht1.below hW) (ht2.below hW) (he1.below hW) (he2.below hW) (hz1.below hW) (hz2.below hW) hsc
   have KS : Hid (∀ W, Below wr.heap.size wr W → W.cell? ⟨b1, f1 + c * 13, none⟩ = some (y1 0) ∧ (∀ q, q < 13 → W.cell? ⟨b1, f1 + c * 13 + q, none⟩ = some (y1 q)) ∧ W.cell? ⟨b2, f2 + c * 13, none⟩ = some (y2 0) ∧ (∀ q, q < 13 → W.cell? ⟨b2, f2 + c * 13 + q, none⟩ = some (y2 q))) := fun W hW => two_rows W hW hc1 hc2
   have KB : Hid (Below w.heap.size w wr) := hbel
   have hdr := below_drew wr
   clear hc1 hc2 ht1 ht2 he1 he2 hz1 hz2 hbel e1 e2 hsc
   go_wp2_with fail
   go_region_held3 (fun w' => w'.cell? ⟨b1, f1 + c * 13, none⟩ = some (y1 0) ∧ (∀ q, q < 13 → w'.cell? ⟨b1, f1 + c * 13 + q, none⟩ = some (y1 q)) ∧ w'.cell? ⟨b2, f2 + c * 13, none⟩ = some (y2 0) ∧ (∀ q, q < 13 → w'.cell? ⟨b2, f2 + c * 13 + q, none⟩ = some (y2 q))) (exact KS.out _ (by assumption)) ((go_at_call 92; refine Calls.mono (KT.out _ hdr) ?_; rintro e w7 ⟨rfl, b7'⟩; have b7 := below_of_drew b7'; clear b7'))
   all_goals
    have HB7 : Hid (Below w.heap.size w w7) := below2 KB.out b7
    clear b7
    go_wp2
    go_roundw
    case rel => exact ⟨c + 1, by omega, by go_num, HB7.out⟩
    case measure => simp [intOf]; omega
  ·go_wp2
   go_ret
   exact ⟨rfl, hbel⟩
theorem eqNd_same (id f : Int) (a b : Option Addr) (n ca cb : Nat) (S : Nat → Sl) (w : World) (ha : Rd w (slsD n S) (.slice a n ca)) (hb : Rd w (slsD n S) (.slice b n cb)) (hn : n ≤ 1048576) (hs : ∀ i, i < n → SlS (S i)) :
  Calls Tryz.prog 43 #[.agg #[.int .i64 id, .int .i64 f, .slice a n ca], .agg #[.int .i64 id, .int .i64 f, .slice b n cb]] w fun e w' => e = .returned (.bool true) ∧ Below w.heap.size w w' := by
 obtain ⟨w0, HW0⟩ : ∃ x, Hid (x = (w.alloc (.cells #[.int .i64 id, .int .i64 f, .slice a n ca] 72)).alloc (.cells #[.int .i64 id, .int .i64 f, .slice b n cb] 72)) := ⟨_, rfl⟩
 have hb0 : Below w.heap.size w w0 := by rw [HW0.out]; exact ((Below.refl _ _).alloc (Nat.le_refl _) _).alloc (by simp) _
 have KB0 : Hid (Below w.heap.size w w0) := hb0
 have KE : Hid _ := eqSls_same a b n ca cb S w0 (ha.below hb0) (hb.below hb0) hn hs
 have f0 : (id != id) = false := by simp
 have f1 : (f != f) = false := by simp
 clear ha hb hb0 hs
 go_enter Tryz.func43, Tryz.ntmps43
 go_wp2_with fail
 rw [← HW0.out]
 refine Calls.mono KE.out ?_
 rintro e w1 ⟨rfl, b1⟩
 go_wp2
 go_ret
 exact ⟨rfl, below2 KB0.out b1⟩
theorem eqSy_same (s : Sy) (a9 b9 : Option Addr) (c9 d9 : Nat) (w : World) (h9 : TxtAt w a9 s.p.m s.p.S) (k9 : TxtAt w b9 s.p.m s.p.S) (hs : s.p.m ≤ 1048576) :
  Calls Tryz.prog 44 #[syV s (.slice a9 s.p.m c9), syV s (.slice b9 s.p.m d9)] w fun e w' => e = .returned (.bool true) ∧ Below w.heap.size w w' := by
 obtain ⟨sk, sf, st, sr, p⟩ := s
 obtain ⟨rr, kk, nn, ii, bb, m, S⟩ := p
 simp only at h9 k9 hs
 obtain ⟨w0, HW0⟩ : ∃ x, Hid (x = (w.alloc (.cells (syC ⟨sk, sf, st, sr, ⟨rr, kk, nn, ii, bb, m, S⟩⟩ (.slice a9 m c9)) 75)).alloc (.cells (syC ⟨sk, sf, st, sr, ⟨rr, kk, nn, ii, bb, m, S⟩⟩ (.slice b9 m d9)) 75)) := ⟨_, rfl⟩
 have hb0 : Below w.heap.size w w0 := by rw [HW0.out]; exact ((Below.refl _ _).alloc (Nat.le_refl _) _).alloc (by simp) _
 have KB0 : Hid (Below w.heap.size w w0) := hb0
 have KP : Hid _ := eqPc_same rr kk nn ii bb a9 b9 m c9 d9 S w0 (h9.below hb0) (k9.below hb0) hs
 have f0 : (sr.toList != sr.toList) = false := by simp
 have f0' := ba_beq sr
 have f1 : (sk != sk) = false := by simp
 have f2 : (sf != sf) = false := by simp
 have f3 : (st != st) = false := by simp
 clear h9 k9 hs hb0
 go_enter Tryz.func44, Tryz.ntmps44
 go_wp2_with fail
 rw [← HW0.out]
 refine Calls.mono KP.out ?_
 rintro e w1 ⟨rfl, b1⟩
 go_wp2
 go_ret
 exact ⟨rfl, below2 KB0.out b1⟩
theorem eqSys_same (a b : Option Addr) (n ca cb : Nat) (S : Nat → Sy) (w : World) (ha : Rd w (sysD n S) (.slice a n ca)) (hb : Rd w (sysD n S) (.slice b n cb)) (hn : n ≤ 1048576) (hs : ∀ i, i < n → (S i).p.m ≤ 1048576) :
  Calls Tryz.prog 26 #[.slice a n ca, .slice b n cb] w fun e w' => e = .returned (.bool true) ∧ Below w.heap.size w w' := by
 have KH : Hid (Rd w (sysD n S) (.slice a n ca) ∧ Rd w (sysD n S) (.slice b n cb)) := ⟨ha, hb⟩
 have HS : Hid (∀ i, i < n → (S i).p.m ≤ 1048576) := hs
 have hnn : ((n : Int) != (n : Int)) = false := by simp
 clear ha hb hs
 go_enter Tryz.func26, Tryz.ntmps26
 go_wp2
 go_loopw [5] (fun vi wr => ∃ c : Nat, c ≤ n ∧ vi = .int .i64 (c : Int) ∧ Below w.heap.size w wr) (fun vi _ => n - (intOf vi).toNat)
 case atStart => exact ⟨0, Nat.zero_le _, rfl, Below.refl _ _⟩
 case round =>
  obtain ⟨c, hcn, rfl, hbel⟩ := hrel
  by_cases hlt : c < n
  ·have hki : (c : Int) < (n : Int) := by omega
   obtain ⟨b1, f1, y1, p9, q9, rfl, hc1, e1, ht1⟩ := say_row (KH.out.1.below hbel) hlt
   obtain ⟨b2, f2, y2, s9, t9, rfl, hc2, e2, ht2⟩ := say_row (KH.out.2.below hbel) hlt
   have hsc := HS.out c hlt
   have KT : Hid (∀ W, Below wr.heap.size wr W → Calls Tryz.prog 44 #[ag10 y1, ag10 y2] W fun e w' => e = .returned (.bool true) ∧ Below W.heap.size W w') := fun W hW => by
    rw [e1, e2]
    exact eqSy_same (S c) p9 s9 q9 t9 W (ht1.below hW) (ht2.below hW) hsc
   have KS : Hid (∀ W, Below wr.heap.size wr W → W.cell? ⟨b1, f1 + c * 10, none⟩ = some (y1 0) ∧ (∀ q, q < 10 → W.cell? ⟨b1, f1 + c * 10 + q, none⟩ = some (y1 q)) ∧ W.cell? ⟨b2, f2 + c * 10, none⟩ = some (y2 0) ∧ (∀ q, q < 10 → W.cell? ⟨b2, f2 + c * 10 + q, none⟩ = some (y2 q))) := fun W hW => two_rows W hW hc1 hc2
   have KB : Hid (Below w.heap.size w wr) := hbel
   have hdr := below_drew wr
   clear hc1 hc2 ht1 ht2 hbel e1 e2 hsc
   go_wp2_with fail
   go_region_held3 (fun w' => w'.cell? ⟨b1, f1 + c * 10, none⟩ = some (y1 0) ∧ (∀ q, q < 10 → w'.cell? ⟨b1, f1 + c * 10 + q, none⟩ = some (y1 q)) ∧ w'.cell? ⟨b2, f2 + c * 10, none⟩ = some (y2 0) ∧ (∀ q, q < 10 → w'.cell? ⟨b2, f2 + c * 10 + q, none⟩ = some (y2 q))) (exact KS.out _ (by assumption)) ((go_at_call 44; refine Calls.mono (KT.out _ hdr) ?_; rintro e w7 ⟨rfl, b7'⟩; have b7 := below_of_drew b7'; clear b7'))
   all_goals
    have HB7 : Hid (Below w.heap.size w w7) := below2 KB.out b7
    clear b7
    go_wp2
    go_roundw
    case rel => exact ⟨c + 1, by omega, by go_num, HB7.out⟩
    case measure => simp [intOf]; omega
  ·go_wp2
   go_ret
   exact ⟨rfl, hbel⟩
abbrev ndV (id f : Int) (v : Value) : Value := .agg #[.int .i64 id, .int .i64 f, v]
def szN (l x : Nat) : Int := if x ≤ l then ((l - x : Nat) : Int) else -1
theorem szN_yes {l x : Nat} (h : x ≤ l) : szN l x = ((l - x : Nat) : Int) := if_pos h
theorem szN_no {l x : Nat} (h : ¬ x ≤ l) : szN l x = -1 := if_neg h
def wtP (p : Pc) : Nat := p.r.size + p.b.size + (p.m + tot (fun i => (p.S i).size) p.m)
def wtS (s : Sl) : Nat := s.r.size + wtP s.p + s.ze.length + s.zr.length
theorem szPc_eq (p : Pc) (l : Nat) : szPc p.r p.b p.m p.S l = szN l (wtP p) := by
 by_cases h : wtP p ≤ l
 ·rw [szN_yes h]; exact szPc_yes h
 ·rw [szN_no h]; exact szPc_no h
structure SlI (w : World) (s : Sl) (a6 : Option Addr) : Prop where
 r : s.r.size ≤ maxLen
 pr : s.p.r.size ≤ maxLen
 pb : s.p.b.size ≤ maxLen
 tx : IsTxt w a6 s.p.m s.p.S
 ne : s.ze.length ≤ maxLen
 nr : s.zr.length ≤ maxLen
theorem szI_any (a : Option Addr) (n cap l : Nat) (w : World) (hn : n ≤ maxLen) (hl : l ≤ 1048576) : Calls Tryz.prog 16 #[.slice a n cap, .int .i64 (l : Int)] w fun e w' => e = .returned (.int .i64 (szN l n)) ∧ w' = w := by
 unfold maxLen at hn
 by_cases h : n ≤ l
 ·rw [szN_yes h]
  obtain ⟨d, hd⟩ : ∃ d, l - n = d := ⟨_, rfl⟩
  rw [hd]
  have e : IntKind.i64.wrap ((l : Int) - (n : Int)) = (d : Int) := by rw [IntKind.wrap_i64]; omega
  have h0 : ¬ ((d : Int) < 0) := by omega
  go_enter Tryz.func16, Tryz.ntmps16
  go_wp2
  go_ret
  exact ⟨rfl, rfl⟩
 ·rw [szN_no h]
  have e : IntKind.i64.wrap ((l : Int) - (n : Int)) = (l : Int) - (n : Int) := by rw [IntKind.wrap_i64]; omega
  have h0 : (l : Int) - (n : Int) < 0 := by omega
  go_enter Tryz.func16, Tryz.ntmps16
  go_wp2
  go_ret
  exact ⟨rfl, rfl⟩
theorem szSl_any (s : Sl) (a6 a11 a12 : Option Addr) (c6 c11 c12 l : Nat) (w : World) (h : SlI w s a6) (hl : l ≤ 1048576) :
  Calls Tryz.prog 66 #[slV s (.slice a6 s.p.m c6) (.slice a11 s.ze.length c11) (.slice a12 s.zr.length c12), .int .i64 (l : Int)] w fun e w' => e = .returned (.int .i64 (szN l (wtS s))) ∧ Below w.heap.size w w' := by
 obtain ⟨r, p, fh, fe, fd, fo, ze, zr⟩ := s
 obtain ⟨hr, hpr, hpb, htx, hne, hnr⟩ := h
 simp only at hr hpr hpb htx hne hnr
 have HWT : Hid (wtS ⟨r, p, fh, fe, fd, fo, ze, zr⟩ = r.size + wtP p + ze.length + zr.length) := rfl
 rw [HWT.out]
 simp only
 obtain ⟨A, HA⟩ : ∃ x, Hid (x = w.heap.size) := ⟨_, rfl⟩
 obtain ⟨w0, HW0⟩ : ∃ x, Hid (x = w.alloc (.cells (slC ⟨r, p, fh, fe, fd, fo, ze, zr⟩ (.slice a6 p.m c6) (.slice a11 ze.length c11) (.slice a12 zr.length c12)) 115)) := ⟨_, rfl⟩
 have RA : Hid (Row w0 A 115 (slC ⟨r, p, fh, fe, fd, fo, ze, zr⟩ (.slice a6 p.m c6) (.slice a11 ze.length c11) (.slice a12 zr.length c12))) := by
  show Row _ _ _ _
  rw [HW0.out, HA.out]
  exact Row.new w _ _
 have hb0 : Below w.heap.size w w0 := by rw [HW0.out]; exact (Below.refl _ _).alloc (Nat.le_refl _) _
 have KB0 : Hid (Below w.heap.size w w0) := hb0
 have KP : Hid (∀ l1 : Nat, l1 ≤ 1048576 → Calls Tryz.prog 47 #[pcV p.r p.k p.n p.i p.b (.slice a6 p.m c6), .int .i64 (l1 : Int)] w0 fun e w' => e = .returned (.int .i64 (szN l1 (wtP p))) ∧ Below w0.heap.size w0 w') := fun l1 h1 => by
  rw [← szPc_eq]
  exact szPc_any p.r p.k p.n p.i p.b a6 p.m c6 p.S l1 w0 (htx.1.below hb0) h1 htx.2.1 htx.2.2 hpr hpb
 have KE : Hid (∀ (l1 : Nat) W, l1 ≤ 1048576 → Calls Tryz.prog 16 #[.slice a11 ze.length c11, .int .i64 (l1 : Int)] W fun e w' => e = .returned (.int .i64 (szN l1 ze.length)) ∧ w' = W) := fun l1 W h1 => szI_any a11 _ c11 l1 W hne h1
 have KZ : Hid (∀ (l1 : Nat) W, l1 ≤ 1048576 → Calls Tryz.prog 16 #[.slice a12 zr.length c12, .int .i64 (l1 : Int)] W fun e w' => e = .returned (.int .i64 (szN l1 zr.length)) ∧ w' = W) := fun l1 W h1 => szI_any a12 _ c12 l1 W hnr h1
 obtain ⟨pr, pk, pn, pi, pb, m, S⟩ := p
 simp only at *
 obtain ⟨x, hx⟩ : ∃ x, r.size = x := ⟨_, rfl⟩
 rw [hx] at hr ⊢
 unfold maxLen at hr
 generalize ze.length = le at *
 generalize zr.length = lr at *
 generalize wtP ⟨pr, pk, pn, pi, pb, m, S⟩ = wp at *
 clear hpr hpb htx hne hnr hb0 HWT
 by_cases h1 : x ≤ l
 case neg =>
  rw [szN_no (by omega)]
  have e1 : IntKind.i64.wrap ((l : Int) - (x : Int)) = (l : Int) - (x : Int) := by rw [IntKind.wrap_i64]; omega
  have n1 : (l : Int) - (x : Int) < 0 := by omega
  go_enter Tryz.func66, Tryz.ntmps66
  go_wp2
  go_ret
  exact ⟨rfl, by rw [← HW0.out]; exact KB0.out⟩
 obtain ⟨l1, hl1⟩ : ∃ l1, l = x + l1 := ⟨l - x, by omega⟩
 have e1 : IntKind.i64.wrap ((l : Int) - (x : Int)) = (l1 : Int) := by rw [IntKind.wrap_i64]; omega
 have n1 : ¬ ((l1 : Int) < 0) := by omega
 have KP1 : Hid _ := KP.out l1 (by omega)
 by_cases h2 : wp ≤ l1
 case neg =>
  rw [szN_no (by omega)]
  rw [szN_no h2] at KP1
  clear hl1
  go_enter Tryz.func66, Tryz.ntmps66
  go_wp2_with fail
  rw [← HW0.out]
  refine Calls.mono KP1.out ?_
  rintro e w1 ⟨rfl, b1⟩
  go_wp2
  go_ret
  exact ⟨rfl, below2 KB0.out b1⟩
 obtain ⟨l2, hl2⟩ : ∃ l2, l1 = wp + l2 := ⟨l1 - wp, by omega⟩
 have n2 : ¬ ((l2 : Int) < 0) := by omega
 rw [szN_yes h2, show l1 - wp = l2 by omega] at KP1
 have KE1 : Hid (∀ W, _) := fun W => KE.out l2 W (by omega)
 by_cases h3 : le ≤ l2
 case neg =>
  rw [szN_no (by omega)]
  rw [szN_no h3] at KE1
  clear hl1 hl2
  go_enter Tryz.func66, Tryz.ntmps66
  go_wp2_with fail
  rw [← HW0.out, ← HA.out]
  refine Calls.mono KP1.out ?_
  rintro e w1 ⟨rfl, b1⟩
  have x11 := (RA.out.below b1 RA.out.lt).cell 11
  simp at x11
  go_wp2_with fail
  refine Calls.mono (KE1.out _) ?_
  rintro e w2 ⟨rfl, hw⟩
  obtain rfl := hw.symm
  clear hw
  go_wp2
  go_ret
  exact ⟨rfl, below2 KB0.out b1⟩
 obtain ⟨l3, hl3⟩ : ∃ l3, l2 = le + l3 := ⟨l2 - le, by omega⟩
 have n3 : ¬ ((l3 : Int) < 0) := by omega
 rw [szN_yes h3, show l2 - le = l3 by omega] at KE1
 have KZ1 : Hid (∀ W, _) := fun W => KZ.out l3 W (by omega)
 by_cases h4 : lr ≤ l3
 case neg =>
  rw [szN_no (by omega)]
  rw [szN_no h4] at KZ1
  clear hl1 hl2 hl3
  go_enter Tryz.func66, Tryz.ntmps66
  go_wp2_with fail
  rw [← HW0.out, ← HA.out]
  refine Calls.mono KP1.out ?_
  rintro e w1 ⟨rfl, b1⟩
  have x11 := (RA.out.below b1 RA.out.lt).cell 11
  have x12 := (RA.out.below b1 RA.out.lt).cell 12
  simp at x11 x12
  go_wp2_with fail
  refine Calls.mono (KE1.out _) ?_
  rintro e w2 ⟨rfl, hw⟩
  obtain rfl := hw.symm
  clear hw
  go_wp2_with fail
  refine Calls.mono (KZ1.out _) ?_
  rintro e w3 ⟨rfl, hw⟩
  obtain rfl := hw.symm
  clear hw
  go_wp2
  go_ret
  exact ⟨rfl, below2 KB0.out b1⟩
 obtain ⟨l4, hl4⟩ : ∃ l4, l3 = lr + l4 := ⟨l3 - lr, by omega⟩
 have n4 : ¬ ((l4 : Int) < 0) := by omega
 rw [szN_yes h4, show l3 - lr = l4 by omega] at KZ1
 rw [szN_yes (by omega), show l - (x + wp + le + lr) = l4 by omega]
 clear hl1 hl2 hl3 hl4
 go_enter Tryz.func66, Tryz.ntmps66
 go_wp2_with fail
 rw [← HW0.out, ← HA.out]
 refine Calls.mono KP1.out ?_
 rintro e w1 ⟨rfl, b1⟩
 have x11 := (RA.out.below b1 RA.out.lt).cell 11
 have x12 := (RA.out.below b1 RA.out.lt).cell 12
 simp at x11 x12
 go_wp2_with fail
 refine Calls.mono (KE1.out _) ?_
 rintro e w2 ⟨rfl, hw⟩
 obtain rfl := hw.symm
 clear hw
 go_wp2_with fail
 refine Calls.mono (KZ1.out _) ?_
 rintro e w3 ⟨rfl, hw⟩
 obtain rfl := hw.symm
 clear hw
 go_wp2
 go_ret
 exact ⟨rfl, below2 KB0.out b1⟩
structure SlB (s : Sl) : Prop where
 r : s.r.size ≤ maxLen
 pr : s.p.r.size ≤ maxLen
 pb : s.p.b.size ≤ maxLen
 m : s.p.m ≤ maxLen
 tx : ∀ i, i < s.p.m → (s.p.S i).size ≤ maxLen
 ne : s.ze.length ≤ maxLen
 nr : s.zr.length ≤ maxLen
theorem SlB.i {s : Sl} (h : SlB s) {w : World} {a6 : Option Addr} (ht : TxtAt w a6 s.p.m s.p.S) : SlI w s a6 := ⟨h.r, h.pr, h.pb, ⟨ht, h.m, h.tx⟩, h.ne, h.nr⟩
def wtL (n : Nat) (S : Nat → Sl) : Nat := n + tot (fun i => wtS (S i)) n
theorem Tryz.infoSlL : (Tryz.prog.info? 115).map (·.size) = some 13 := by kernel_rfl
theorem szSls_any (a : Option Addr) (n cap : Nat) (S : Nat → Sl) (l : Nat) (w : World) (h : Rd w (slsD n S) (.slice a n cap)) (hl : l ≤ 1048576) (hn : n ≤ maxLen) (hL : ∀ i, i < n → SlB (S i)) :
  Calls Tryz.prog 46 #[.slice a n cap, .int .i64 (l : Int)] w fun e w' => e = .returned (.int .i64 (szN l (wtL n S))) ∧ Below w.heap.size w w' := by
 unfold maxLen at hn
 by_cases h1 : n ≤ l
 ·obtain ⟨d, hd⟩ : ∃ d, l - n = d := ⟨_, rfl⟩
  have hw : IntKind.i64.wrap ((l : Int) - (n : Int)) = (d : Int) := by rw [IntKind.wrap_i64]; omega
  have h0 : ¬ ((d : Int) < 0) := by omega
  have KL : Hid (∀ i, i < n → SlB (S i)) := hL
  have KH : Hid (Rd w (slsD n S) (.slice a n cap)) := h
  clear hL h
  go_enter Tryz.func46, Tryz.ntmps46
  go_wp2
  go_loopw [1, 5] (fun p i wr => ∃ c q : Nat, c ≤ n ∧ q ≤ 1048576 ∧ Hid (tot (fun i => wtS (S i)) c + q = d) ∧ p = .int .i64 (q : Int) ∧ i = .int .i64 (c : Int) ∧ Below w.heap.size w wr) (fun _ i _ => n - (intOf i).toNat)
  case atStart => exact ⟨0, d, Nat.zero_le _, by omega, by show 0 + d = d; omega, rfl, rfl, Below.refl _ _⟩
  case round =>
   obtain ⟨c, q, hc, hq, HT, rfl, rfl, hbel⟩ := hrel
   clear hw h0
   by_cases hlt : c < n
   ·obtain ⟨b1, f1, y1, p6, p11, p12, q6, q11, q12, rfl, hc1, e1, ht1, he1, hz1⟩ := slot_row (KH.out.below hbel) hlt
    have hti := tot_le (fun i => wtS (S i)) hlt
    have hlti : (c : Int) < (n : Int) := by omega
    have HT' := HT.out
    obtain ⟨lc, HLC⟩ : ∃ x, Hid (wtS (S c) = x) := ⟨_, rfl⟩
    have KTS : Hid (tot (fun i => wtS (S i)) (c + 1) = tot (fun i => wtS (S i)) c + lc) := by rw [← HLC.out]; rfl
    have hti' : tot (fun i => wtS (S i)) c + lc ≤ tot (fun i => wtS (S i)) n := by rw [← HLC.out]; exact hti
    have KZ : Hid (Calls Tryz.prog 66 #[ag13 y1, .int .i64 (q : Int)] wr fun e w' => e = .returned (.int .i64 (szN q lc)) ∧ Below wr.heap.size wr w') := by
     rw [e1, ← HLC.out]
     exact szSl_any (S c) p6 p11 p12 q6 q11 q12 q wr ((KL.out c hlt).i ht1) hq
    obtain ⟨_, x⟩ := one_row (sz := 12) wr (Below.refl _ _) hc1
    have R1 : Hid (wr.rangeAt b1 (f1 + c * 13) [y1 0, y1 1, y1 2, y1 3, y1 4, y1 5, y1 6, y1 7, y1 8, y1 9, y1 10, y1 11, y1 12]) := range13 x
    have KB : Hid (Below w.heap.size w wr) := hbel
    clear hti hc1 e1 ht1 he1 hz1 x hbel
    by_cases h2 : lc ≤ q
    ·obtain ⟨q', hq'⟩ : ∃ q', q - lc = q' := ⟨_, rfl⟩
     have h3 : ¬ ((q' : Int) < 0) := by omega
     have HT2 : Hid (tot (fun i => wtS (S i)) (c + 1) + q' = d) := by show _ = _; rw [KTS.out]; omega
     have hq2 : q' ≤ 1048576 := by omega
     rw [szN_yes h2, hq'] at KZ
     clear HT HT' hti' KTS
     go_wp2_with (refine wpList_load_mid (by rfl) 115 _ (by rfl) b1 (f1 + c * 13) (by rfl) _ _ R1.out Tryz.underlying115 (by rfl) Tryz.infoSlL ?_)
     refine Calls.mono KZ.out ?_
     rintro e w1 ⟨rfl, bb⟩
     have KB1 : Hid (Below w.heap.size w w1) := below2 KB.out bb
     clear bb KZ R1
     go_wp2
     go_roundw
     case rel => exact ⟨c + 1, q', by omega, hq2, HT2, rfl, by go_num, KB1.out⟩
     case measure => simp [intOf] <;> omega
    ·have HR : Hid (szN l (wtL n S) = -1) := szN_no (by unfold wtL; omega)
     rw [szN_no h2] at KZ
     clear HT HT' hti' KTS
     go_wp2_with (refine wpList_load_mid (by rfl) 115 _ (by rfl) b1 (f1 + c * 13) (by rfl) _ _ R1.out Tryz.underlying115 (by rfl) Tryz.infoSlL ?_)
     refine Calls.mono KZ.out ?_
     rintro e w1 ⟨rfl, bb⟩
     have KB1 : Hid (Below w.heap.size w w1) := below2 KB.out bb
     clear bb KZ R1
     go_wp2
     go_ret
     exact ⟨ret_int HR.out.symm, KB1.out⟩
   ·obtain rfl : c = n := by omega
    have HR : Hid (szN l (wtL c S) = (q : Int)) := by
     have := HT.out
     have e : l - (c + tot (fun i => wtS (S i)) c) = q := by omega
     exact (szN_yes (by unfold wtL; omega)).trans (by unfold wtL; rw [e])
    clear KH
    go_wp2
    go_ret
    exact ⟨ret_int HR.out.symm, hbel⟩
 ·have h0 : (l : Int) - (n : Int) < 0 := by omega
  have hw : IntKind.i64.wrap ((l : Int) - (n : Int)) = (l : Int) - (n : Int) := by rw [IntKind.wrap_i64]; omega
  have HR : Hid (szN l (wtL n S) = -1) := szN_no (by unfold wtL; omega)
  clear h hL
  go_enter Tryz.func46, Tryz.ntmps46
  go_wp2
  go_ret
  exact ⟨ret_int HR.out.symm, Below.refl _ _⟩
theorem szNd_any (id f : Int) (a : Option Addr) (n cap : Nat) (S : Nat → Sl) (l : Nat) (w : World) (h : Rd w (slsD n S) (.slice a n cap)) (hl : l ≤ 1048576) (hn : n ≤ maxLen) (hL : ∀ i, i < n → SlB (S i)) :
  Calls Tryz.prog 31 #[.agg #[.int .i64 id, .int .i64 f, .slice a n cap], .int .i64 (l : Int)] w fun e w' => e = .returned (.int .i64 (szN l (wtL n S))) ∧ Below w.heap.size w w' := by
 obtain ⟨w0, HW0⟩ : ∃ x, Hid (x = w.alloc (.cells #[.int .i64 id, .int .i64 f, .slice a n cap] 60)) := ⟨_, rfl⟩
 have hb0 : Below w.heap.size w w0 := by rw [HW0.out]; exact (Below.refl _ _).alloc (Nat.le_refl _) _
 have KB0 : Hid (Below w.heap.size w w0) := hb0
 have KZ : Hid _ := szSls_any a n cap S l w0 (h.below hb0) hl hn hL
 clear h hL hb0
 by_cases h1 : wtL n S ≤ l
 ·obtain ⟨d, hd⟩ : ∃ d, l - wtL n S = d := ⟨_, rfl⟩
  rw [szN_yes h1, hd] at KZ
  rw [szN_yes h1, hd]
  have h0 : ¬ ((d : Int) < 0) := by omega
  clear h1 hd
  go_enter Tryz.func31, Tryz.ntmps31
  go_wp2_with fail
  rw [← HW0.out]
  refine Calls.mono KZ.out ?_
  rintro e w1 ⟨rfl, b1⟩
  go_wp2
  go_ret
  exact ⟨rfl, below2 KB0.out b1⟩
 ·rw [szN_no h1] at KZ
  rw [szN_no h1]
  clear h1
  go_enter Tryz.func31, Tryz.ntmps31
  go_wp2_with fail
  rw [← HW0.out]
  refine Calls.mono KZ.out ?_
  rintro e w1 ⟨rfl, b1⟩
  go_wp2
  go_ret
  exact ⟨rfl, below2 KB0.out b1⟩
theorem open_list {H : Type} {enc : TypeId × Value → H} {w : World} {base : Nat} {spare : Nat → Bool} {held : Bool} {α : Type} (z : α) {T e sz : Nat} (t' : Nat) (D : α → Nat → Dt) (Bd : α → Prop) (hu : Tryz.prog.underlying T = some (.slice e)) (hc : Tryz.prog.cellsOf e = sz) (hpos : 0 < sz)
  (each : ∀ {fuel : Nat} {cs : List Value} {x : DataW H × List MemPlace}, DataW.trod enc Tryz.prog w base spare held fuel e cs = some x → ∃ y : α, cs.length = sz ∧ (∀ q, q < sz → Rd w (D y q) (cs.getD q undef)) ∧ Bd y)
  {fuel : Nat} {a : Option Addr} {n c : Nat} {x : DataW H × List MemPlace} (h : DataW.trod enc Tryz.prog w base spare held fuel T [.slice a n c] = some x) :
  ∃ P : Nat → α, Rd w (.lst t' sz n fun i => D (P i)) (.slice a n c) ∧ n ≤ maxLen ∧ ∀ i, i < n → Bd (P i) := by
 rcases Go.Deep.open_slice hu h with ⟨hcs, _⟩ | ⟨ad, len, cap, m, n', D', Pl, hcs, hb, hl, hm, hmm, _, hx⟩
 ·simp at hcs
  obtain ⟨rfl, rfl, rfl⟩ := hcs
  exact ⟨fun _ => z, Rd.nil _ _ _ _ _ _, Nat.zero_le _, fun i hi => absurd hi (Nat.not_lt_zero _)⟩
 ·simp at hcs
  obtain ⟨rfl, rfl, rfl⟩ := hcs
  rw [hc] at hx
  have hnm : n ≤ m := by rw [hmm]; split <;> omega
  obtain ⟨b, off, spot⟩ := ad
  have ea : ∀ (b off i : Nat), (⟨b, off, none⟩ : Addr).add i = ⟨b, off + i, none⟩ := fun b off i => by unfold Addr.add; split <;> simp_all
  have each' : ∀ i, ∃ p : α, i < n → spot = none ∧ (∀ q, q < sz → ∃ y, w.cell? ⟨b, off + (i * sz + q), none⟩ = some y ∧ Rd w (D p q) y) ∧ Bd p := fun i => by
   by_cases hi : i < n
   ·obtain ⟨cs', h1, h2⟩ := hx i (by omega)
    obtain ⟨p, hlen', hrd, hbd⟩ := each h2
    obtain ⟨_, hlen, hcell⟩ := World.cells?_some h1
    have hspot : spot = none := by
     obtain ⟨cs0, g1, g2⟩ := hx 0 (by omega)
     obtain ⟨_, hlen0, hcell0⟩ := World.cells?_some g1
     have h0 := hcell0 0 hpos
     obtain ⟨v0, hv0⟩ : ∃ v, cs0[0]? = some v := ⟨cs0[0], List.getElem?_eq_getElem (by omega)⟩
     rw [hv0] at h0
     simpa [Addr.add] using World.cell?_spot h0
    subst hspot
    refine ⟨p, fun _ => ⟨rfl, fun q hq => ⟨cs'.getD q undef, ?_, hrd q hq⟩, hbd⟩⟩
    have h3 := hcell q hq
    rw [ea, ea] at h3
    rw [← Nat.add_assoc, h3, List.getD_eq_getElem?_getD, List.getElem?_eq_getElem (by omega)]
    rfl
   ·exact ⟨z, fun h => absurd h hi⟩
  obtain ⟨P, hP⟩ := Classical.axiomOfChoice each'
  refine ⟨P, ⟨_, _, rfl, fun i hi => ?_⟩, by omega, fun i hi => (hP i hi).2.2⟩
  obtain ⟨hs, h1, _⟩ := hP i hi
  subst hs
  exact ⟨b, off, rfl, h1⟩
theorem open_ints_at {H : Type} {enc : TypeId × Value → H} {w : World} {base : Nat} {spare : Nat → Bool} {held : Bool} {fuel : Nat} {v : Value} {x : DataW H × List MemPlace} (h : DataW.trod enc Tryz.prog w base spare held fuel 23 [v] = some x) :
  ∃ (a : Option Addr) (zs : List Int) (c : Nat), v = .slice a zs.length c ∧ IntsAt w a zs.length zs ∧ zs.length ≤ maxLen := by
 rcases open_ints Tryz.underlying23 Tryz.underlying3 (by kernel_rfl) h with ⟨hcs, _⟩ | ⟨ad, l, c, zs, hcs, _, hl, hm, hz, _, hcell, hwz⟩
 ·simp at hcs
  subst hcs
  exact ⟨none, [], 0, rfl, ⟨rfl, fun i hi => absurd hi (Nat.not_lt_zero _)⟩, Nat.zero_le _⟩
 ·simp at hcs
  subst hcs
  have hR : IsRow .i64 w (some ad) l zs.length zs := .inr ⟨_, rfl, by rw [hz]; split <;> omega, by rw [hz]; split <;> omega, rfl, hcell, hwz⟩
  obtain ⟨_, hi, _⟩ := hR.ints
  have e : (zs.take l).length = l := hi.1
  refine ⟨some ad, zs.take l, c, by rw [e], ?_, by rw [e]; omega⟩
  rw [e]
  exact hi
theorem list13 {α : Type} (l : List α) (h : l.length = 13) : ∃ c0 c1 c2 c3 c4 c5 c6 c7 c8 c9 c10 c11 c12, l = [c0, c1, c2, c3, c4, c5, c6, c7, c8, c9, c10, c11, c12] := by
 match l, h with
 | [c0, c1, c2, c3, c4, c5, c6, c7, c8, c9, c10, c11, c12], _ => exact ⟨c0, c1, c2, c3, c4, c5, c6, c7, c8, c9, c10, c11, c12, rfl⟩
theorem list8 {α : Type} (l : List α) (h : l.length = 8) : ∃ c0 c1 c2 c3 c4 c5 c6 c7, l = [c0, c1, c2, c3, c4, c5, c6, c7] := by
 match l, h with
 | [c0, c1, c2, c3, c4, c5, c6, c7], _ => exact ⟨c0, c1, c2, c3, c4, c5, c6, c7, rfl⟩
theorem list3 {α : Type} (l : List α) (h : l.length = 3) : ∃ c0 c1 c2, l = [c0, c1, c2] := by
 match l, h with
 | [c0, c1, c2], _ => exact ⟨c0, c1, c2, rfl⟩
theorem open_slot {H : Type} {enc : TypeId × Value → H} {w : World} {base : Nat} {spare : Nat → Bool} {held : Bool} {fuel : Nat} {cs : List Value} {x : DataW H × List MemPlace} (h : DataW.trod enc Tryz.prog w base spare held fuel 115 cs = some x) :
  ∃ s : Sl, cs.length = 13 ∧ (∀ q, q < 13 → Rd w (slD s q) (cs.getD q undef)) ∧ SlB s := by
 have c13 : Tryz.prog.cellsOf 115 = 13 := by kernel_rfl
 have cp6 : Tryz.prog.cellsOf 63 = 6 := by kernel_rfl
 have cs1 : Tryz.prog.cellsOf 9 = 1 := by kernel_rfl
 have cb1 : Tryz.prog.cellsOf 4 = 1 := by kernel_rfl
 have cl1 : Tryz.prog.cellsOf 23 = 1 := by kernel_rfl
 obtain ⟨xs, f, _, _, hl, hlen, hf⟩ := DataW.trod_struct Tryz.underlying115 h
 rw [c13] at hl
 obtain ⟨c0, c1, c2, c3, c4, c5, c6, c7, c8, c9, c10, c11, c12, rfl⟩ := list13 cs hl
 obtain ⟨y0, y1, y2, y3, y4, y5, y6, y7, rfl⟩ := list8 xs hlen
 have g0 := hf 0 _ rfl
 have g1 := hf 1 _ rfl
 have g2 := hf 2 _ rfl
 have g3 := hf 3 _ rfl
 have g4 := hf 4 _ rfl
 have g5 := hf 5 _ rfl
 have g6 := hf 6 _ rfl
 have g7 := hf 7 _ rfl
 simp [cs1, cp6, cb1, cl1] at g0 g1 g2 g3 g4 g5 g6 g7
 obtain ⟨r, e0, _, hr⟩ := DataW.trod_string Tryz.underlying9 g0
 obtain ⟨pr, pk, pn, pi, pb, pa, pm, pc, pS, e1, _, hpr, hpb, ht⟩ := open_piece g1
 obtain ⟨bh, e2, _⟩ := DataW.trod_bool Tryz.underlying4 g2
 obtain ⟨be, e3, _⟩ := DataW.trod_bool Tryz.underlying4 g3
 obtain ⟨bd, e4, _⟩ := DataW.trod_bool Tryz.underlying4 g4
 obtain ⟨bo, e5, _⟩ := DataW.trod_bool Tryz.underlying4 g5
 obtain ⟨a1, ze, z1, e6, i1, n1⟩ := open_ints_at g6
 obtain ⟨a2, zr, z2, e7, i2, n2⟩ := open_ints_at g7
 simp at e0 e1 e2 e3 e4 e5
 obtain ⟨rfl, rfl, rfl, rfl, rfl, rfl⟩ := e1
 subst e0 e2 e3 e4 e5 e6 e7
 refine ⟨⟨r, ⟨pr, pk, pn, pi, pb, pm, pS⟩, bh, be, bd, bo, ze, zr⟩, rfl, fun q hq => ?_, ⟨hr, hpr, hpb, ht.2.1, ht.2.2, n1, n2⟩⟩
 match q, hq with
 | 0, _ | 1, _ | 2, _ | 3, _ | 4, _ | 5, _ | 7, _ | 8, _ | 9, _ | 10, _ => rfl
 | 6, _ => exact rd_txt.2 ht.1
 | 11, _ => exact rd_ints.2 i1
 | 12, _ => exact rd_ints.2 i2
theorem open_slots {H : Type} {enc : TypeId × Value → H} {w : World} {base : Nat} {spare : Nat → Bool} {held : Bool} {fuel : Nat} {a : Option Addr} {n c : Nat} {x : DataW H × List MemPlace} (h : DataW.trod enc Tryz.prog w base spare held fuel 58 [.slice a n c] = some x) :
  ∃ S : Nat → Sl, Rd w (slsD n S) (.slice a n c) ∧ n ≤ maxLen ∧ ∀ i, i < n → SlB (S i) :=
 open_list ⟨ByteArray.empty, ⟨ByteArray.empty, 0, 0, 0, ByteArray.empty, 0, fun _ => ByteArray.empty⟩, false, false, false, false, [], []⟩ 90 slD SlB Tryz.underlying58 (by kernel_rfl) (by omega) open_slot h
theorem open_node {H : Type} {enc : TypeId × Value → H} {w : World} {base : Nat} {spare : Nat → Bool} {held : Bool} {fuel : Nat} {cs : List Value} {x : DataW H × List MemPlace} (h : DataW.trod enc Tryz.prog w base spare held fuel 60 cs = some x) :
  ∃ (id f : Int) (a : Option Addr) (n c : Nat) (S : Nat → Sl), cs = [.int .i64 id, .int .i64 f, .slice a n c] ∧ Rd w (slsD n S) (.slice a n c) ∧ n ≤ maxLen ∧ ∀ i, i < n → SlB (S i) := by
 have c3 : Tryz.prog.cellsOf 60 = 3 := by kernel_rfl
 have ci1 : Tryz.prog.cellsOf 3 = 1 := by kernel_rfl
 have cl1 : Tryz.prog.cellsOf 58 = 1 := by kernel_rfl
 obtain ⟨xs, f, _, _, hl, hlen, hf⟩ := DataW.trod_struct Tryz.underlying60 h
 rw [c3] at hl
 obtain ⟨c0, c1, c2, rfl⟩ := list3 cs hl
 obtain ⟨y0, y1, y2, rfl⟩ := list3 xs hlen
 have g0 := hf 0 _ rfl
 have g1 := hf 1 _ rfl
 have g2 := hf 2 _ rfl
 simp [ci1, cl1] at g0 g1 g2
 obtain ⟨id, e0, _, u0⟩ := DataW.trod_int Tryz.underlying3 g0
 obtain ⟨ff, e1, _, u1⟩ := DataW.trod_int Tryz.underlying3 g1
 simp at e0 e1
 subst e0 e1
 obtain ⟨a, n, c, rfl⟩ : ∃ a n c, c2 = .slice a n c := by
  rcases Go.Deep.open_slice Tryz.underlying58 g2 with ⟨hcs, _⟩ | ⟨ad, len, cap, m, n', D', Pl, hcs, _⟩
  ·simp at hcs
   exact ⟨none, 0, 0, hcs⟩
  ·simp at hcs
   exact ⟨some ad, len, cap, hcs⟩
 obtain ⟨S, h1, h2, h3⟩ := open_slots g2
 exact ⟨id, ff, a, n, c, S, rfl, h1, h2, h3⟩
def plF (S : Nat → Sl) (root : ByteArray) : Nat → Nat → Option Nat
 | 0, _ => none
 | f + 1, k => if (S k).r = root then some k else plF S root f (k + 1)
def plc (S : Nat → Sl) (root : ByteArray) (n : Nat) : Option Nat := plF S root n 0
theorem plF_some {S : Nat → Sl} {root : ByteArray} : ∀ {f k x : Nat}, plF S root f k = some x → k ≤ x ∧ x < k + f ∧ (S x).r = root ∧ ∀ i, k ≤ i → i < x → (S i).r ≠ root
 | 0, _, _, h => by cases h
 | f + 1, k, x, h => by
  unfold plF at h
  by_cases e : (S k).r = root
  ·rw [if_pos e] at h
   cases h
   exact ⟨Nat.le_refl _, by omega, e, fun i h1 h2 => by omega⟩
  ·rw [if_neg e] at h
   obtain ⟨h1, h2, h3, h4⟩ := plF_some h
   refine ⟨by omega, by omega, h3, fun i hi hx => ?_⟩
   by_cases ei : i = k
   ·rw [ei]; exact e
   ·exact h4 i (by omega) hx
def plX (S : Nat → Sl) (root : ByteArray) (n : Nat) : Int := match plc S root n with
 | some x => (x : Int)
 | none => -1
def eqR (s root : ByteArray) : Bool := decide (s = root)
theorem eqR_yes {s root : ByteArray} (h : s = root) : eqR s root = true := decide_eq_true h
theorem eqR_no {s root : ByteArray} (h : s ≠ root) : eqR s root = false := decide_eq_false h
theorem placeFn_any (s : Sl) (v6 v11 v12 : Value) (R : Nat) (root : ByteArray) (w : World) (hR : w.cell? ⟨R, 0, none⟩ = some (.string root)) :
  Calls Tryz.prog 125 #[slV s v6 v11 v12, .pointer (some ⟨R, 0, none⟩)] w fun e w' => e = .returned (.bool (eqR s.r root)) ∧ Below w.heap.size w w' := by
 have lR := block_lt_of_cell hR
 have KB : Hid (Below w.heap.size w (w.alloc (.cells (slC s v6 v11 v12) 90))) := (Below.refl _ _).alloc (Nat.le_refl _) _
 by_cases h : s.r = root
 ·rw [eqR_yes h]
  have hb : (s.r.toList == root.toList) = true := by rw [h]; simp
  go_enter Tryz.func125, Tryz.ntmps125
  go_wp2
  go_ret
  exact ⟨rfl, KB.out⟩
 ·rw [eqR_no h]
  have hb := ba_ne h
  go_enter Tryz.func125, Tryz.ntmps125
  go_wp2
  go_ret
  exact ⟨rfl, KB.out⟩
theorem index_any (a : Option Addr) (n cap : Nat) (S : Nat → Sl) (R : Nat) (root : ByteArray) (w : World) (h : Rd w (slsD n S) (.slice a n cap)) (hn : n ≤ 1048576) (hR : w.cell? ⟨R, 0, none⟩ = some (.string root)) :
  Calls Tryz.prog 124 #[.slice a n cap, .func (.func 125) #[] #[.pointer (some ⟨R, 0, none⟩)]] w fun e w' => e = .returned (.int .i64 (plX S root n)) ∧ Below w.heap.size w w' := by
 have KH : Hid (Rd w (slsD n S) (.slice a n cap)) := h
 have KR : Hid (w.cell? ⟨R, 0, none⟩ = some (.string root)) := hR
 clear h hR
 go_enter Tryz.func124, Tryz.ntmps124
 go_wp2
 go_loopw [8] (fun vi wr => ∃ k : Nat, k ≤ n ∧ vi = .int .i64 (k : Int) ∧ Hid (plF S root (n - k) k = plc S root n) ∧ Below w.heap.size w wr) (fun vi _ => n - (intOf vi).toNat)
 case atStart => exact ⟨0, Nat.zero_le _, rfl, rfl, Below.refl _ _⟩
 case round =>
  obtain ⟨k, hk, rfl, HP, hbel⟩ := hrel
  by_cases hlt : k < n
  ·have hki : (k : Int) < (n : Int) := by omega
   obtain ⟨b1, f1, y1, p6, p11, p12, q6, q11, q12, rfl, hc1, e1, _, _, _⟩ := slot_row (KH.out.below hbel) hlt
   have hRr := (hbel.cell (p := ⟨R, 0, none⟩) (block_lt_of_cell KR.out)).trans KR.out
   have KC := placeFn_any (S k) (.slice p6 (S k).p.m q6) (.slice p11 (S k).ze.length q11) (.slice p12 (S k).zr.length q12) R root wr hRr
   rw [← e1] at KC
   have KF : Hid _ := KC
   obtain ⟨_, x⟩ := one_row (sz := 12) wr (Below.refl _ _) hc1
   have R1 : Hid (wr.rangeAt b1 (f1 + k * 13) [y1 0, y1 1, y1 2, y1 3, y1 4, y1 5, y1 6, y1 7, y1 8, y1 9, y1 10, y1 11, y1 12]) := range13 x
   have KB : Hid (Below w.heap.size w wr) := hbel
   have e2 : n - k = (n - (k + 1)) + 1 := by omega
   have HP' := HP.out
   rw [e2] at HP'
   unfold plF at HP'
   clear KC hc1 e1 x hbel hRr HP e2
   by_cases hr : (S k).r = root
   ·rw [if_pos hr] at HP'
    have HI : Hid (plX S root n = (k : Int)) := by show _ = _; unfold plX; rw [← HP']
    rw [eqR_yes hr] at KF
    clear HP' hr
    go_wp2_with (refine wpList_load_mid (by rfl) 90 _ (by rfl) b1 (f1 + k * 13) (by rfl) [y1 0, y1 1, y1 2, y1 3, y1 4, y1 5, y1 6, y1 7, y1 8, y1 9, y1 10, y1 11, y1 12] _ ?_ Tryz.underlying90 (by rfl) Tryz.infoSl ?_; exact R1.out)
    refine Calls.mono KF.out ?_
    rintro e w1 ⟨rfl, b1'⟩
    have KB1 : Hid (Below w.heap.size w w1) := below2 KB.out b1'
    clear b1'
    go_wp2
    go_ret
    exact ⟨ret_int HI.out.symm, KB1.out⟩
   ·rw [if_neg hr] at HP'
    have HP2 : Hid (plF S root (n - (k + 1)) (k + 1) = plc S root n) := HP'
    rw [eqR_no hr] at KF
    clear HP' hr
    go_wp2_with (refine wpList_load_mid (by rfl) 90 _ (by rfl) b1 (f1 + k * 13) (by rfl) [y1 0, y1 1, y1 2, y1 3, y1 4, y1 5, y1 6, y1 7, y1 8, y1 9, y1 10, y1 11, y1 12] _ ?_ Tryz.underlying90 (by rfl) Tryz.infoSl ?_; exact R1.out)
    refine Calls.mono KF.out ?_
    rintro e w1 ⟨rfl, b1'⟩
    have KB1 : Hid (Below w.heap.size w w1) := below2 KB.out b1'
    clear b1' KF R1
    go_wp2
    go_roundw
    case rel => exact ⟨k + 1, by omega, by go_num, HP2, KB1.out⟩
    case measure => simp [intOf]; omega
  ·obtain rfl : k = n := by omega
   have HI : Hid (plX S root k = -1) := by
    have := HP.out
    rw [Nat.sub_self] at this
    show _ = _
    unfold plX
    rw [← this]
    rfl
   go_wp2
   go_ret
   exact ⟨ret_int HI.out.symm, hbel⟩
theorem placeOf_any (id f : Int) (a : Option Addr) (n cap : Nat) (S : Nat → Sl) (root : ByteArray) (w : World) (h : Rd w (slsD n S) (.slice a n cap)) (hn : n ≤ 1048576) :
  Calls Tryz.prog 90 #[ndV id f (.slice a n cap), .string root] w fun e w' => e = .returned (.int .i64 (plX S root n)) ∧ Below w.heap.size w w' := by
 have hmf : ∀ (fn : Fn) (first cap : Array Value) (w : World), (Instr.makeFunc fn first cap).run Tryz.prog w = .ok (.func fn first cap) w := fun _ _ _ _ => rfl
 obtain ⟨R, HR⟩ : ∃ x, Hid (x = w.heap.size + 1) := ⟨_, rfl⟩
 obtain ⟨w0, HW0⟩ : ∃ x, Hid (x = (w.alloc (.cells #[.int .i64 id, .int .i64 f, .slice a n cap] 72)).alloc (.cells #[.string root] 9)) := ⟨_, rfl⟩
 have hb0 : Below w.heap.size w w0 := by rw [HW0.out]; exact ((Below.refl _ _).alloc (Nat.le_refl _) _).alloc (by simp) _
 have KB0 : Hid (Below w.heap.size w w0) := hb0
 have hc : w0.cell? ⟨R, 0, none⟩ = some (.string root) := by rw [HW0.out, HR.out]; simp
 have KI : Hid _ := index_any a n cap S R root w0 (h.below hb0) hn hc
 clear h hb0 hc
 go_enter Tryz.func90, Tryz.ntmps90
 go_wp2_with fail
 rw [← HW0.out, ← HR.out]
 refine Calls.mono KI.out ?_
 rintro e w1 ⟨rfl, b1⟩
 go_wp2
 go_ret
 exact ⟨rfl, below2 KB0.out b1⟩
def ofy (k : Nat) (S : Nat → Sy) : Nat → Nat
 | 0 => k
 | i + 1 => ofy k S i + 9 + (S i).p.m
theorem ofy_le (k : Nat) (S : Nat → Sy) {i j : Nat} (h : i ≤ j) : ofy k S i ≤ ofy k S j := by
 induction j with
 | zero => obtain rfl : i = 0 := by omega
           exact Nat.le_refl _
 | succ j ih =>
  by_cases e : i = j + 1
  ·subst e; exact Nat.le_refl _
  ·have := ih (by omega)
   show _ ≤ ofy k S j + 9 + (S j).p.m
   omega
def mkdY (k : Nat) (S : Nat → Sy) (i : Nat) : Sy := ⟨((ofy k S i : Nat) : Int), ((ofy k S i + 1 : Nat) : Int), ((ofy k S i + 2 : Nat) : Int), mtxt (ofy k S i + 3), ⟨mtxt (ofy k S i + 4), ((ofy k S i + 5 : Nat) : Int), ((ofy k S i + 6 : Nat) : Int), ((ofy k S i + 7 : Nat) : Int), mtxt (ofy k S i + 8), (S i).p.m, fun j => mtxt (ofy k S i + 9 + j)⟩⟩
theorem ow_ints {w : World} {B : Nat} {a : Option Addr} {cap : Nat} {zs : List Int} {F : Nat → Prop} (h : w.ownsRow B 3 1 (.slice a zs.length cap) zs.length (zs.map (Value.int .i64))) (hF : ∀ x, a = some x → F x.block) : Ow w B (inD zs) (.slice a zs.length cap) F := by
 refine ⟨a, cap, fun i _ => .int .i64 (zs.getD i 0), fun _ _ _ => False, rfl, ?_, ⟨hF, fun _ _ _ _ _ h => h.elim, fun _ _ _ _ _ _ h => h, fun _ _ _ _ _ _ _ _ _ h => h.elim⟩, fun _ _ _ _ => rfl⟩
 have : cL 1 (fun i _ => Value.int .i64 (zs.getD i 0)) zs.length = zs.map (Value.int .i64) := by
  apply List.ext_getElem?
  intro i
  by_cases hi : i < zs.length
  ·have := cL_get 1 (fun i _ => Value.int .i64 (zs.getD i 0)) zs.length i 0 hi (by omega)
   rw [Nat.mul_one, Nat.add_zero] at this
   rw [this]
   simp [hi]
  ·rw [List.getElem?_eq_none (by rw [cL_len]; omega), List.getElem?_eq_none (by simp; omega)]
 rw [this]
 exact h
theorem ints_ow {w : World} {B : Nat} {v : Value} {zs : List Int} {F : Nat → Prop} (h : Ow w B (inD zs) v F) : ∃ a cap, v = .slice a zs.length cap ∧ w.ownsRow B 3 1 (.slice a zs.length cap) zs.length (zs.map (Value.int .i64)) ∧ ∀ x, a = some x → F x.block := by
 obtain ⟨a, cap, c, G, e, ho, hs, hr⟩ := h
 refine ⟨a, cap, e, ?_, hs.head⟩
 have : cL 1 c zs.length = zs.map (Value.int .i64) := by
  apply List.ext_getElem?
  intro i
  by_cases hi : i < zs.length
  ·have := cL_get 1 c zs.length i 0 hi (by omega)
   rw [Nat.mul_one, Nat.add_zero] at this
   rw [this]
   have h2 : c i 0 = .int .i64 (zs.getD i 0) := hr i 0 hi (by omega)
   rw [h2]
   simp [hi]
  ·rw [List.getElem?_eq_none (by rw [cL_len]; omega), List.getElem?_eq_none (by simp; omega)]
 rw [← this]
 exact ho
theorem grown_row (w : World) (g : Nat) (cs : Array Value) : w.grownBy (w.setRow g cs) (some g) := ⟨rfl, rfl, rfl, by simp, fun i _ hi => setRow_other _ _ _ _ (fun e => hi (by simp [e]))⟩
theorem World.size_setCells (b : Nat) : ∀ (vs : List Value) (o : Nat) (w : World), (w.setCells b o vs).heap.size = w.heap.size
 | [], _, _ => rfl
 | v :: r, o, w => by rw [World.setCells, World.size_setCells b r (o + 1) _]; simp
theorem toSl_any (s : Sl) (a6 a11 a12 : Option Addr) (c6 c11 c12 : Nat) (w : World) (h6 : TxtAt w a6 s.p.m s.p.S) (h11 : IntsAt w a11 s.ze.length s.ze) (h12 : IntsAt w a12 s.zr.length s.zr) (hs : SlS s) :
  Calls Tryz.prog 75 #[slV s (.slice a6 s.p.m c6) (.slice a11 s.ze.length c11) (.slice a12 s.zr.length c12)] w fun e w' => ∃ g6 g11 g12 : Nat, e = .returned (slV s (.slice (some ⟨g6, 0, none⟩) s.p.m s.p.m) (.slice (some ⟨g11, 0, none⟩) s.ze.length s.ze.length) (.slice (some ⟨g12, 0, none⟩) s.zr.length s.zr.length)) ∧
   w.heap.size ≤ g6 ∧ g6 < g11 ∧ g11 < g12 ∧ g12 < w'.heap.size ∧ Ow w' w.heap.size (txD s.p.m s.p.S) (.slice (some ⟨g6, 0, none⟩) s.p.m s.p.m) (fun g => g = g6) ∧ Ow w' w.heap.size (inD s.ze) (.slice (some ⟨g11, 0, none⟩) s.ze.length s.ze.length) (fun g => g = g11) ∧ Ow w' w.heap.size (inD s.zr) (.slice (some ⟨g12, 0, none⟩) s.zr.length s.zr.length) (fun g => g = g12) ∧ Below w.heap.size w w' := by
 obtain ⟨r, p, fh, fe, fd, fo, ze, zr⟩ := s
 obtain ⟨pr, pk, pn, pi, pb, m, S⟩ := p
 obtain ⟨hm, he, hz⟩ := hs
 simp only at h6 h11 h12 hm he hz ⊢
 obtain ⟨A, HA⟩ : ∃ x, Hid (x = w.heap.size) := ⟨_, rfl⟩
 obtain ⟨D, HD⟩ : ∃ x, Hid (x = w.heap.size + 1) := ⟨_, rfl⟩
 obtain ⟨V, HV⟩ : ∃ x, Hid (x = w.heap.size + 1 + 1) := ⟨_, rfl⟩
 obtain ⟨w0, HW0⟩ : ∃ x, Hid (x = ((w.alloc (.cells (slC ⟨r, ⟨pr, pk, pn, pi, pb, m, S⟩, fh, fe, fd, fo, ze, zr⟩ (.slice a6 m c6) (.slice a11 ze.length c11) (.slice a12 zr.length c12)) 115)).alloc (.cells #[.string ⟨#[]⟩, .string ⟨#[]⟩, .int .i64 0, .int .i64 0, .int .i64 0, .string ⟨#[]⟩, .slice none 0 0, .bool false, .bool false, .bool false, .bool false, .slice none 0 0, .slice none 0 0] 90)).alloc (.cells #[.string r, .string ⟨#[]⟩, .int .i64 0, .int .i64 0, .int .i64 0, .string ⟨#[]⟩, .slice none 0 0, .bool false, .bool false, .bool false, .bool false, .slice none 0 0, .slice none 0 0] 90)) := ⟨_, rfl⟩
 have RA : Hid (Row w0 A 115 (slC ⟨r, ⟨pr, pk, pn, pi, pb, m, S⟩, fh, fe, fd, fo, ze, zr⟩ (.slice a6 m c6) (.slice a11 ze.length c11) (.slice a12 zr.length c12))) := by show Row _ _ _ _; rw [HW0.out, HA.out]; exact Row.alloc (Row.alloc (Row.new w _ _) _) _
 have RD : Hid (Row w0 D 90 #[.string ⟨#[]⟩, .string ⟨#[]⟩, .int .i64 0, .int .i64 0, .int .i64 0, .string ⟨#[]⟩, .slice none 0 0, .bool false, .bool false, .bool false, .bool false, .slice none 0 0, .slice none 0 0]) := by
  show Row _ _ _ _
  rw [HW0.out, HD.out]
  have := Row.new (w.alloc (.cells (slC ⟨r, ⟨pr, pk, pn, pi, pb, m, S⟩, fh, fe, fd, fo, ze, zr⟩ (.slice a6 m c6) (.slice a11 ze.length c11) (.slice a12 zr.length c12)) 115)) #[.string ⟨#[]⟩, .string ⟨#[]⟩, .int .i64 0, .int .i64 0, .int .i64 0, .string ⟨#[]⟩, .slice none 0 0, .bool false, .bool false, .bool false, .bool false, .slice none 0 0, .slice none 0 0] 90
  exact Row.alloc (by simpa using this) _
 have RV : Hid (Row w0 V 90 #[.string r, .string ⟨#[]⟩, .int .i64 0, .int .i64 0, .int .i64 0, .string ⟨#[]⟩, .slice none 0 0, .bool false, .bool false, .bool false, .bool false, .slice none 0 0, .slice none 0 0]) := by
  show Row _ _ _ _
  rw [HW0.out, HV.out]
  have := Row.new ((w.alloc (.cells (slC ⟨r, ⟨pr, pk, pn, pi, pb, m, S⟩, fh, fe, fd, fo, ze, zr⟩ (.slice a6 m c6) (.slice a11 ze.length c11) (.slice a12 zr.length c12)) 115)).alloc (.cells #[.string ⟨#[]⟩, .string ⟨#[]⟩, .int .i64 0, .int .i64 0, .int .i64 0, .string ⟨#[]⟩, .slice none 0 0, .bool false, .bool false, .bool false, .bool false, .slice none 0 0, .slice none 0 0] 90)) #[.string r, .string ⟨#[]⟩, .int .i64 0, .int .i64 0, .int .i64 0, .string ⟨#[]⟩, .slice none 0 0, .bool false, .bool false, .bool false, .bool false, .slice none 0 0, .slice none 0 0] 90
  simpa using this
 have hb0 : Below w.heap.size w w0 := by rw [HW0.out]; exact (((Below.refl _ _).alloc (Nat.le_refl _) _).alloc (by simp) _).alloc (by simp; omega) _
 have hVD : Hid (V ≠ D ∧ A ≠ V ∧ A ≠ D ∧ w.heap.size ≤ D ∧ w.heap.size ≤ V ∧ V < w0.heap.size ∧ D < w0.heap.size) := by
  have h1 := HV.out; have h2 := HD.out; have h3 := HA.out
  exact ⟨by omega, by omega, by omega, by omega, by omega, RV.out.lt, RD.out.lt⟩
 have KB0 : Hid (Below w.heap.size w w0) := hb0
 have KP : Hid _ := toPc_any pr pk pn pi pb a6 m c6 S w0 (h6.below hb0) hm
 have KEW : Hid (∀ W, Below w.heap.size w W → Calls Tryz.prog 20 #[.slice a11 ze.length c11] W fun e w' => e = .returned (.slice (some ⟨W.heap.size, 0, none⟩) ze.length ze.length) ∧ w'.ownsRow W.heap.size 3 1 (.slice (some ⟨W.heap.size, 0, none⟩) ze.length ze.length) ze.length (ze.map (Value.int .i64)) ∧ Below W.heap.size W w') := fun W hW => toIntS_any a11 _ c11 ze W (h11.below hW) he
 have KZW : Hid (∀ W, Below w.heap.size w W → Calls Tryz.prog 20 #[.slice a12 zr.length c12] W fun e w' => e = .returned (.slice (some ⟨W.heap.size, 0, none⟩) zr.length zr.length) ∧ w'.ownsRow W.heap.size 3 1 (.slice (some ⟨W.heap.size, 0, none⟩) zr.length zr.length) zr.length (zr.map (Value.int .i64)) ∧ Below W.heap.size W w') := fun W hW => toIntS_any a12 _ c12 zr W (h12.below hW) hz
 obtain ⟨le, HLE⟩ : ∃ x, Hid (ze.length = x) := ⟨_, rfl⟩
 obtain ⟨lr, HLR⟩ : ∃ x, Hid (zr.length = x) := ⟨_, rfl⟩
 have OI : Hid (∀ (B : Nat) (W : World) (g : Nat), W.ownsRow B 3 1 (.slice (some ⟨g, 0, none⟩) le le) le (ze.map (Value.int .i64)) → Ow W B (inD ze) (.slice (some ⟨g, 0, none⟩) le le) (fun x => x = g)) := fun B W g ho => by
  rw [← HLE.out] at ho ⊢
  exact ow_ints ho (fun x e => by cases e; rfl)
 have OZ : Hid (∀ (B : Nat) (W : World) (g : Nat), W.ownsRow B 3 1 (.slice (some ⟨g, 0, none⟩) lr lr) lr (zr.map (Value.int .i64)) → Ow W B (inD zr) (.slice (some ⟨g, 0, none⟩) lr lr) (fun x => x = g)) := fun B W g ho => by
  rw [← HLR.out] at ho ⊢
  exact ow_ints ho (fun x e => by cases e; rfl)
 rw [HLE.out] at KEW RA HW0 ⊢
 rw [HLR.out] at KZW RA HW0 ⊢
 clear h6 h11 h12 hm he hz hb0
 go_enter Tryz.func75, Tryz.ntmps75
 go_wp2_with fail
 rw [← HW0.out, ← HV.out, ← HD.out, ← HA.out]
 refine Calls.mono KP.out ?_
 rintro e w1 ⟨g6, rfl, O6, b1⟩
 have S6 : Hid (w0.heap.size ≤ g6 ∧ g6 < w1.heap.size) := World.ownsRow.lt O6 g6 rfl
 have A1 := RA.out.below b1 RA.out.lt
 have D1 : Hid (Row w1 D 90 #[.string ⟨#[]⟩, .string ⟨#[]⟩, .int .i64 0, .int .i64 0, .int .i64 0, .string ⟨#[]⟩, .slice none 0 0, .bool false, .bool false, .bool false, .bool false, .slice none 0 0, .slice none 0 0]) := RD.out.below b1 RD.out.lt
 have V1 := RV.out.below b1 RV.out.lt
 have x7 := A1.cell 7
 have x8 := A1.cell 8
 have x9 := A1.cell 9
 have x10 := A1.cell 10
 have x11 := A1.cell 11
 have y1 := V1.cell 1
 have y2 := V1.cell 2
 have y3 := V1.cell 3
 have y4 := V1.cell 4
 have y5 := V1.cell 5
 have y6 := V1.cell 6
 have y7 := V1.cell 7
 have y8 := V1.cell 8
 have y9 := V1.cell 9
 have y10 := V1.cell 10
 have f1 := V1.free 1
 have f2 := V1.free 2
 have f3 := V1.free 3
 have f4 := V1.free 4
 have f5 := V1.free 5
 have f6 := V1.free 6
 have f7 := V1.free 7
 have f8 := V1.free 8
 have f9 := V1.free 9
 have f10 := V1.free 10
 simp at x7 x8 x9 x10 x11 y1 y2 y3 y4 y5 y6 y7 y8 y9 y10
 have TH : Hid (w1.there V 1 6) := fun j hj => by
  match j, hj with
  | 0, _ => exact ⟨by rw [y1]; rfl, f1⟩
  | 1, _ => exact ⟨by rw [y2]; rfl, f2⟩
  | 2, _ => exact ⟨by rw [y3]; rfl, f3⟩
  | 3, _ => exact ⟨by rw [y4]; rfl, f4⟩
  | 4, _ => exact ⟨by rw [y5]; rfl, f5⟩
  | 5, _ => exact ⟨by rw [y6]; rfl, f6⟩
 clear x7 x8 x9 x10 x11 y1 y2 y3 y4 y5 y6 y7 y8 y9 y10 f1 f2 f3 f4 f5 f6 f7 f8 f9 f10
 obtain ⟨wa, HWa⟩ : ∃ x, Hid (x = w1.setCells V 1 (pcC pr pk pn pi pb (.slice (some ⟨g6, 0, none⟩) m m)).toList) := ⟨_, rfl⟩
 have Va : Hid (Row wa V 90 #[.string r, .string pr, .int .i64 pk, .int .i64 pn, .int .i64 pi, .string pb, .slice (some ⟨g6, 0, none⟩) m m, .bool false, .bool false, .bool false, .bool false, .slice none 0 0, .slice none 0 0]) := by show Row _ _ _ _; rw [HWa.out]; exact ((((((V1.set 1 _).set 2 _).set 3 _).set 4 _).set 5 _).set 6 _)
 have Aa : Hid (Row wa A 115 (slC ⟨r, ⟨pr, pk, pn, pi, pb, m, S⟩, fh, fe, fd, fo, ze, zr⟩ (.slice a6 m c6) (.slice a11 le c11) (.slice a12 lr c12))) := by show Row _ _ _ _; rw [HWa.out]; exact ((((((A1.other 1 _ hVD.out.2.1).other 2 _ hVD.out.2.1).other 3 _ hVD.out.2.1).other 4 _ hVD.out.2.1).other 5 _ hVD.out.2.1).other 6 _ hVD.out.2.1)
 have Da : Hid (Row wa D 90 #[.string ⟨#[]⟩, .string ⟨#[]⟩, .int .i64 0, .int .i64 0, .int .i64 0, .string ⟨#[]⟩, .slice none 0 0, .bool false, .bool false, .bool false, .bool false, .slice none 0 0, .slice none 0 0]) := by show Row _ _ _ _; rw [HWa.out]; exact ((((((D1.out.other 1 _ (Ne.symm hVD.out.1)).other 2 _ (Ne.symm hVD.out.1)).other 3 _ (Ne.symm hVD.out.1)).other 4 _ (Ne.symm hVD.out.1)).other 5 _ (Ne.symm hVD.out.1)).other 6 _ (Ne.symm hVD.out.1))
 have O6a : Hid (OwnT wa w0.heap.size (some ⟨g6, 0, none⟩) m m S) := by show OwnT _ _ _ _ _ _; rw [HWa.out]; exact (OwnT.setFar (OwnT.setFar (OwnT.setFar (OwnT.setFar (OwnT.setFar (OwnT.setFar O6 hVD.out.2.2.2.2.2.1) hVD.out.2.2.2.2.2.1) hVD.out.2.2.2.2.2.1) hVD.out.2.2.2.2.2.1) hVD.out.2.2.2.2.2.1) hVD.out.2.2.2.2.2.1)
 have Ba : Hid (Below w.heap.size w wa) := by show Below _ _ _; rw [HWa.out]; exact (Below.setCell (Below.setCell (Below.setCell (Below.setCell (Below.setCell (Below.setCell (below2 KB0.out b1) hVD.out.2.2.2.2.1 _) hVD.out.2.2.2.2.1 _) hVD.out.2.2.2.2.1 _) hVD.out.2.2.2.2.1 _) hVD.out.2.2.2.2.1 _) hVD.out.2.2.2.2.1 _)
 have sza : Hid (w1.heap.size = wa.heap.size) := by show _ = _; rw [HWa.out]; exact (World.size_setCells _ _ _ _).symm
 have x7 := Aa.out.cell 7
 have x8 := Aa.out.cell 8
 have x9 := Aa.out.cell 9
 have x10 := Aa.out.cell 10
 have x11 := Aa.out.cell 11
 have y7 := Va.out.cell 7
 have y8 := Va.out.cell 8
 have y9 := Va.out.cell 9
 have y10 := Va.out.cell 10
 have f7 := Va.out.free 7
 have f8 := Va.out.free 8
 have f9 := Va.out.free 9
 have f10 := Va.out.free 10
 simp at x7 x8 x9 x10 x11 y7 y8 y9 y10
 obtain ⟨w2, HW2⟩ : ∃ x, Hid (x = ((((wa.setCell ⟨V, 7, none⟩ (.bool fh)).setCell ⟨V, 8, none⟩ (.bool fe)).setCell ⟨V, 9, none⟩ (.bool fd)).setCell ⟨V, 10, none⟩ (.bool fo))) := ⟨_, rfl⟩
 have V2 : Hid (Row w2 V 90 #[.string r, .string pr, .int .i64 pk, .int .i64 pn, .int .i64 pi, .string pb, .slice (some ⟨g6, 0, none⟩) m m, .bool fh, .bool fe, .bool fd, .bool fo, .slice none 0 0, .slice none 0 0]) := by show Row _ _ _ _; rw [HW2.out]; exact ((((Va.out.set 7 _).set 8 _).set 9 _).set 10 _)
 have A2 : Hid (Row w2 A 115 (slC ⟨r, ⟨pr, pk, pn, pi, pb, m, S⟩, fh, fe, fd, fo, ze, zr⟩ (.slice a6 m c6) (.slice a11 le c11) (.slice a12 lr c12))) := by show Row _ _ _ _; rw [HW2.out]; exact ((((Aa.out.other 7 _ hVD.out.2.1).other 8 _ hVD.out.2.1).other 9 _ hVD.out.2.1).other 10 _ hVD.out.2.1)
 have D2 : Hid (Row w2 D 90 #[.string ⟨#[]⟩, .string ⟨#[]⟩, .int .i64 0, .int .i64 0, .int .i64 0, .string ⟨#[]⟩, .slice none 0 0, .bool false, .bool false, .bool false, .bool false, .slice none 0 0, .slice none 0 0]) := by show Row _ _ _ _; rw [HW2.out]; exact ((((Da.out.other 7 _ (Ne.symm hVD.out.1)).other 8 _ (Ne.symm hVD.out.1)).other 9 _ (Ne.symm hVD.out.1)).other 10 _ (Ne.symm hVD.out.1))
 have O62 : Hid (OwnT w2 w0.heap.size (some ⟨g6, 0, none⟩) m m S) := by show OwnT _ _ _ _ _ _; rw [HW2.out]; exact (OwnT.setFar (OwnT.setFar (OwnT.setFar (OwnT.setFar O6a.out hVD.out.2.2.2.2.2.1) hVD.out.2.2.2.2.2.1) hVD.out.2.2.2.2.2.1) hVD.out.2.2.2.2.2.1)
 have BW2 : Hid (Below w.heap.size w w2) := by show Below _ _ _; rw [HW2.out]; exact (Below.setCell (Below.setCell (Below.setCell (Below.setCell Ba.out hVD.out.2.2.2.2.1 _) hVD.out.2.2.2.2.1 _) hVD.out.2.2.2.2.1 _) hVD.out.2.2.2.2.1 _)
 have KE2 : Hid (Calls Tryz.prog 20 #[.slice a11 le c11] w2 fun e w' => e = .returned (.slice (some ⟨w2.heap.size, 0, none⟩) le le) ∧ w'.ownsRow w2.heap.size 3 1 (.slice (some ⟨w2.heap.size, 0, none⟩) le le) le (ze.map (Value.int .i64)) ∧ Below w2.heap.size w2 w') := KEW.out w2 BW2.out
 have sz2 : Hid (w1.heap.size = w2.heap.size) := by show _ = _; rw [sza.out, HW2.out]; simp
 clear A1 V1 b1 O6 D1
 go_wp2_with (refine wpList_store_mid (by rfl) 66 _ _ (by rfl) V 1 (pcC pr pk pn pi pb (.slice (some ⟨g6, 0, none⟩) m m)) (by rfl) (by rfl) ?_ Tryz.infoPc (by simp [Value.oneCell']) ?_; exact TH.out; rw [← HWa.out])
 rw [← HW2.out]
 clear x7 x8 x9 x10 x11 y7 y8 y9 y10 f7 f8 f9 f10
 refine Calls.mono KE2.out ?_
 obtain ⟨g11, HG11⟩ : ∃ x, Hid (x = w2.heap.size) := ⟨_, rfl⟩
 rw [← HG11.out]
 rintro e w3 ⟨rfl, O11, b3⟩
 rw [HG11.out] at b3
 have A3 := A2.out.below b3 A2.out.lt
 have D3 : Hid (Row w3 D 90 #[.string ⟨#[]⟩, .string ⟨#[]⟩, .int .i64 0, .int .i64 0, .int .i64 0, .string ⟨#[]⟩, .slice none 0 0, .bool false, .bool false, .bool false, .bool false, .slice none 0 0, .slice none 0 0]) := D2.out.below b3 D2.out.lt
 have V3 := V2.out.below b3 V2.out.lt
 have x12 := A3.cell 12
 have y11 := V3.cell 11
 have f11 := V3.free 11
 simp at x12 y11
 obtain ⟨w4, HW4⟩ : ∃ x, Hid (x = w3.setCell ⟨V, 11, none⟩ (.slice (some ⟨g11, 0, none⟩) le le)) := ⟨_, rfl⟩
 have V4 : Hid (Row w4 V 90 #[.string r, .string pr, .int .i64 pk, .int .i64 pn, .int .i64 pi, .string pb, .slice (some ⟨g6, 0, none⟩) m m, .bool fh, .bool fe, .bool fd, .bool fo, .slice (some ⟨g11, 0, none⟩) le le, .slice none 0 0]) := by show Row _ _ _ _; rw [HW4.out]; exact V3.set 11 _
 have D4 : Hid (Row w4 D 90 #[.string ⟨#[]⟩, .string ⟨#[]⟩, .int .i64 0, .int .i64 0, .int .i64 0, .string ⟨#[]⟩, .slice none 0 0, .bool false, .bool false, .bool false, .bool false, .slice none 0 0, .slice none 0 0]) := by show Row _ _ _ _; rw [HW4.out]; exact D3.out.other 11 _ (Ne.symm hVD.out.1)
 have hV2 : V < w2.heap.size := V2.out.lt
 have O64 : Hid (OwnT w4 w0.heap.size (some ⟨g6, 0, none⟩) m m S) := by show OwnT _ _ _ _ _ _; rw [HW4.out]; exact OwnT.setFar (OwnT.below O62.out b3) hVD.out.2.2.2.2.2.1
 have O114 : Hid (w4.ownsRow w2.heap.size 3 1 (.slice (some ⟨g11, 0, none⟩) le le) le (ze.map (Value.int .i64))) := by
  show World.ownsRow _ _ _ _ _ _ _
  rw [HW4.out]
  rw [HG11.out] at O11 ⊢
  exact own_kept O11 (grown_set _ _ _ _) (fun x e => by cases e; show w2.heap.size ≠ V; omega)
 have B4 : Hid (Below w.heap.size w w4) := by show Below _ _ _; rw [HW4.out]; exact Below.setCell (below2 BW2.out b3) hVD.out.2.2.2.2.1 _
 have sz4 : Hid (w2.heap.size < w4.heap.size) := by
  show _ < _
  have := (World.ownsRow.lt O114.out g11 rfl)
  have e := HG11.out
  omega
 have KZ4 : Hid (Calls Tryz.prog 20 #[.slice a12 lr c12] w4 fun e w' => e = .returned (.slice (some ⟨w4.heap.size, 0, none⟩) lr lr) ∧ w'.ownsRow w4.heap.size 3 1 (.slice (some ⟨w4.heap.size, 0, none⟩) lr lr) lr (zr.map (Value.int .i64)) ∧ Below w4.heap.size w4 w') := KZW.out w4 B4.out
 clear A3 V3 b3 O11 D3 A2 V2 D2
 go_wp2_with fail
 rw [← HW4.out]
 clear x12 y11 f11
 refine Calls.mono KZ4.out ?_
 obtain ⟨g12, HG12⟩ : ∃ x, Hid (x = w4.heap.size) := ⟨_, rfl⟩
 rw [← HG12.out]
 rintro e w5 ⟨rfl, O12, b5⟩
 rw [HG12.out] at b5
 have D5 : Hid (Row w5 D 90 #[.string ⟨#[]⟩, .string ⟨#[]⟩, .int .i64 0, .int .i64 0, .int .i64 0, .string ⟨#[]⟩, .slice none 0 0, .bool false, .bool false, .bool false, .bool false, .slice none 0 0, .slice none 0 0]) := D4.out.below b5 D4.out.lt
 have V5 := V4.out.below b5 V4.out.lt
 have y12 := V5.cell 12
 have f12 := V5.free 12
 simp at y12
 obtain ⟨w6, HW6⟩ : ∃ x, Hid (x = w5.setCell ⟨V, 12, none⟩ (.slice (some ⟨g12, 0, none⟩) lr lr)) := ⟨_, rfl⟩
 have V6 : Hid (Row w6 V 90 #[.string r, .string pr, .int .i64 pk, .int .i64 pn, .int .i64 pi, .string pb, .slice (some ⟨g6, 0, none⟩) m m, .bool fh, .bool fe, .bool fd, .bool fo, .slice (some ⟨g11, 0, none⟩) le le, .slice (some ⟨g12, 0, none⟩) lr lr]) := by show Row _ _ _ _; rw [HW6.out]; exact V5.set 12 _
 have D6 : Hid (Row w6 D 90 #[.string ⟨#[]⟩, .string ⟨#[]⟩, .int .i64 0, .int .i64 0, .int .i64 0, .string ⟨#[]⟩, .slice none 0 0, .bool false, .bool false, .bool false, .bool false, .slice none 0 0, .slice none 0 0]) := by show Row _ _ _ _; rw [HW6.out]; exact D5.out.other 12 _ (Ne.symm hVD.out.1)
 have hV4 : V < w4.heap.size := V4.out.lt
 have O66 : Hid (OwnT w6 w0.heap.size (some ⟨g6, 0, none⟩) m m S) := by show OwnT _ _ _ _ _ _; rw [HW6.out]; exact OwnT.setFar (OwnT.below O64.out b5) hVD.out.2.2.2.2.2.1
 have O116 : Hid (w6.ownsRow w2.heap.size 3 1 (.slice (some ⟨g11, 0, none⟩) le le) le (ze.map (Value.int .i64))) := by
  show World.ownsRow _ _ _ _ _ _ _
  rw [HW6.out]
  exact own_kept (ownsRow_below O114.out b5) (grown_set _ _ _ _) (fun x e => by cases e; show g11 ≠ V; rw [HG11.out]; omega)
 have O126 : Hid (w6.ownsRow w4.heap.size 3 1 (.slice (some ⟨g12, 0, none⟩) lr lr) lr (zr.map (Value.int .i64))) := by
  show World.ownsRow _ _ _ _ _ _ _
  rw [HW6.out]
  rw [HG12.out] at O12 ⊢
  exact own_kept O12 (grown_set _ _ _ _) (fun x e => by cases e; show w4.heap.size ≠ V; omega)
 have B6 : Hid (Below w.heap.size w w6) := by show Below _ _ _; rw [HW6.out]; exact Below.setCell (below2 B4.out b5) hVD.out.2.2.2.2.1 _
 clear V5 b5 O12 D5 V4 D4
 obtain ⟨w7, HW7⟩ : ∃ x, Hid (x = w6.setRow D #[.string r, .string pr, .int .i64 pk, .int .i64 pn, .int .i64 pi, .string pb, .slice (some ⟨g6, 0, none⟩) m m, .bool fh, .bool fe, .bool fd, .bool fo, .slice (some ⟨g11, 0, none⟩) le le, .slice (some ⟨g12, 0, none⟩) lr lr]) := ⟨_, rfl⟩
 have ZR : Hid (Row w7 D 90 #[.string r, .string pr, .int .i64 pk, .int .i64 pn, .int .i64 pi, .string pb, .slice (some ⟨g6, 0, none⟩) m m, .bool fh, .bool fe, .bool fd, .bool fo, .slice (some ⟨g11, 0, none⟩) le le, .slice (some ⟨g12, 0, none⟩) lr lr]) := by show Row _ _ _ _; rw [HW7.out]; exact D6.out.row
 have ZB : Hid (Below w.heap.size w w7) := by show Below _ _ _; rw [HW7.out]; exact belowSetRow B6.out hVD.out.2.2.2.1 _
 have far6 : ∀ x, (some ⟨g6, 0, none⟩ : Option Addr) = some x → x.block ≠ D := fun x e => by cases e; have h1 := S6.out.1; have h2 := hVD.out.2.2.2.2.2.2; show g6 ≠ D; omega
 have hD2 : D < w2.heap.size := by have h1 := sz2.out; have h2 := S6.out; have h3 := hVD.out.2.2.2.2.2.2; omega
 have far11 : ∀ x, (some ⟨g11, 0, none⟩ : Option Addr) = some x → x.block ≠ D := fun x e => by cases e; show g11 ≠ D; rw [HG11.out]; omega
 have far12 : ∀ x, (some ⟨g12, 0, none⟩ : Option Addr) = some x → x.block ≠ D := fun x e => by cases e; show g12 ≠ D; rw [HG12.out]; have := sz4.out; omega
 have Z6 : Hid (OwnT w7 w0.heap.size (some ⟨g6, 0, none⟩) m m S) := by show OwnT _ _ _ _ _ _; rw [HW7.out]; exact own_kept O66.out (grown_row _ _ _) far6
 have Z11 : Hid (World.ownsRow w7 w2.heap.size 3 1 (.slice (some ⟨g11, 0, none⟩) le le) le (ze.map (Value.int .i64))) := by show World.ownsRow _ _ _ _ _ _ _; rw [HW7.out]; exact own_kept O116.out (grown_row _ _ _) far11
 have Z12 : Hid (World.ownsRow w7 w4.heap.size 3 1 (.slice (some ⟨g12, 0, none⟩) lr lr) lr (zr.map (Value.int .i64))) := by show World.ownsRow _ _ _ _ _ _ _; rw [HW7.out]; exact own_kept O126.out (grown_row _ _ _) far12
 have l12 := (World.ownsRow.lt Z12.out g12 rfl).2
 go_wp2_with (first | (rw [← HW6.out]; refine wpList_load_row (by rfl) 90 _ (by rfl) V (by rfl) 90 _ (0, 0) _ V6.out Tryz.underlying90 (by rfl) Tryz.infoSl ?_; clear y12 f12) | (refine wpList_store_row (by rfl) 90 _ _ (by rfl) D #[.string r, .string pr, .int .i64 pk, .int .i64 pn, .int .i64 pi, .string pb, .slice (some ⟨g6, 0, none⟩) m m, .bool fh, .bool fe, .bool fd, .bool fo, .slice (some ⟨g11, 0, none⟩) le le, .slice (some ⟨g12, 0, none⟩) lr lr] (by rfl) (by rfl) 90 #[.string ⟨#[]⟩, .string ⟨#[]⟩, .int .i64 0, .int .i64 0, .int .i64 0, .string ⟨#[]⟩, .slice none 0 0, .bool false, .bool false, .bool false, .bool false, .slice none 0 0, .slice none 0 0] ?_ Tryz.infoSl rfl (by simp [Value.oneCell']) ?_; exact D6.out; rw [← HW7.out]))
 refine bodyPost_ret (v := .agg #[.string r, .string pr, .int .i64 pk, .int .i64 pn, .int .i64 pi, .string pb, .slice (some ⟨g6, 0, none⟩) m m, .bool fh, .bool fe, .bool fd, .bool fo, .slice (some ⟨g11, 0, none⟩) le le, .slice (some ⟨g12, 0, none⟩) lr lr]) (results_cell_row Tryz.results75 _ _ D 90 _ (0, 0) _ (by rfl) ZR.out Tryz.underlying90 (by rfl) Tryz.infoSl) rfl ⟨g6, g11, g12, rfl, ?_, ?_, ?_, l12, ?_, ?_, ?_, ZB.out⟩
 ·have h1 := S6.out.1; have h2 := KB0.out.size; omega
 ·have h1 := S6.out.2; have h2 := sz2.out; have h3 := HG11.out; omega
 ·have h1 := HG11.out; have h2 := HG12.out; have h3 := sz4.out; omega
 ·exact ow_txt (OwnT.base Z6.out KB0.out.size) (fun x e => by cases e; rfl)
 ·exact OI.out _ _ _ (own_base Z11.out BW2.out.size)
 ·exact OZ.out _ _ _ (own_base Z12.out B4.out.size)
theorem ints_news {w : World} {b off n : Nat} {zs : List Int} (h : IntsAt w (some ⟨b, off, none⟩) n zs) : ∀ (j : Nat) (u : Value), (zs.map (Value.int .i64))[j]? = some u → w.cell? ((⟨b, off, none⟩ : Addr).add j) = some u := fun j u hu => by
 have hj : j < zs.length := by
  have := (List.getElem?_eq_some_iff.1 hu).1
  simpa using this
 obtain ⟨b', off', e, hc⟩ := h.2 j (by rw [← h.1]; exact hj)
 cases e
 have ea : (⟨b, off, none⟩ : Addr).add j = ⟨b, off + j, none⟩ := by unfold Addr.add; split <;> simp_all
 rw [ea, hc, ← hu]
 simp [hj]
theorem ints_spot {w : World} {a : Addr} {n : Nat} {zs : List Int} (h : IntsAt w (some a) n zs) (hn : 0 < n) : a = ⟨a.block, a.off, none⟩ := by
 obtain ⟨b, off, e, _⟩ := h.2 0 hn
 cases e
 rfl
theorem slice_none (n c : Nat) (w : World) : Sem.run Tryz.prog (binOp BinOp.eql 23 (.slice none n c) (.slice none 0 0)) w = .ok (.bool true) w := by rfl
theorem slice_some (x : Addr) (n c : Nat) (w : World) : Sem.run Tryz.prog (binOp BinOp.eql 23 (.slice (some x) n c) (.slice none 0 0)) w = .ok (.bool false) w := by rfl
theorem cloneI_any (a : Option Addr) (cap : Nat) (zs : List Int) (w : World) (h : IntsAt w a zs.length zs) (hn : zs.length ≤ 1048576) :
  Calls Tryz.prog 127 #[.slice a zs.length cap] w fun e w' => ∃ a' c', e = .returned (.slice a' zs.length c') ∧ Ow w' w.heap.size (inD zs) (.slice a' zs.length c') (rng w.heap.size w'.heap.size) ∧ Below w.heap.size w w' := by
 obtain ⟨i0, hi, hz0, hz1, hz2⟩ : ∃ i0, Tryz.prog.info? 3 = some i0 ∧ i0.zero = some (.int .i64 0) ∧ i0.size = 1 ∧ i0.bytes = 8 := ⟨_, rfl, rfl, rfl, rfl⟩
 obtain ⟨n, HN⟩ : ∃ x, Hid (zs.length = x) := ⟨_, rfl⟩
 rw [HN.out] at h hn ⊢
 match a, h with
 | none, h =>
  have e0 : n = 0 := by
   by_cases h0 : n = 0
   ·exact h0
   ·obtain ⟨b, off, e, _⟩ := h.2 0 (by omega)
    cases e
  subst e0
  have ez : zs = [] := List.length_eq_zero_iff.1 HN.out
  subst ez
  have hsn := slice_none
  go_enter Tryz.func127, Tryz.ntmps127
  go_wp2
  go_ret
  exact ⟨none, 0, rfl, ow_ints (zs := []) (World.ownsRow_nil _ _ _ _) (fun x e => by cases e), Below.refl _ _⟩
 | some ad, h =>
  obtain ⟨b, off, sp⟩ := ad
  have HNW : Hid (∀ (j : Nat) (u : Value), (zs.map (Value.int .i64))[j]? = some u → w.cell? ((⟨b, off, sp⟩ : Addr).add j) = some u) := fun j u hu => by
   have hj : 0 < n := by
    have := (List.getElem?_eq_some_iff.1 hu).1
    have := HN.out
    simp at *
    omega
   have e := ints_spot h hj
   simp at e
   subst e
   exact ints_news h j u hu
  have HLL : Hid ((zs.map (Value.int .i64)).length = n * 1) := by show _ = _; simp [HN.out]
  have HO : Hid ((w.alloc (.cells #[] 3)).ownsRow w.heap.size 3 1 (.slice (some ⟨w.heap.size, 0, none⟩) 0 0) 0 []) := by
   have := World.ownsRow_lit (e := 3) (size := 1) (base := w.heap.size) w #[] 0 (by simp) (by unfold maxLen; omega) (by simp)
   exact this
  have HNA : Hid (∀ (j : Nat) (u : Value), (zs.map (Value.int .i64))[j]? = some u → (w.alloc (.cells #[] 3)).cell? ((⟨b, off, sp⟩ : Addr).add j) = some u) := fun j u hu => by
   have := HNW.out j u hu
   rw [((Below.refl w.heap.size w).alloc (Nat.le_refl _) _).cell (block_lt_of_cell this)]
   exact this
  have HB0 : Hid (Below w.heap.size w (w.alloc (.cells #[] 3))) := (Below.refl _ _).alloc (Nat.le_refl _) _
  clear h
  have hss := slice_some
  go_enter Tryz.func127, Tryz.ntmps127
  go_wp2_with (at_builtin; refine wpList_append_all _ (by rfl) _ _ 23 (by rfl) w.heap.size 3 i0 (.int .i64 0) 1 8 Tryz.underlying23 hi hz0 hz1 hz2 rfl (by decide) w.heap.size 0 0 [] (by rfl) ?_ ⟨b, off, sp⟩ n cap (zs.map (Value.int .i64)) (by rfl) ?_ ?_ (by simp [Value.oneCell']) (by unfold maxLen; omega) (by omega) (by simp) ?_; exact HO.out; exact HLL.out; exact HNA.out; intro g3 cap3 w3 hown3 hgrow3)
  have HB3 : Hid (Below w.heap.size w w3) := HB0.out.grown hgrow3 (by simp) (fun x hx => by cases hx; exact Nat.le_refl _)
  have HO3 : Hid (w3.ownsRow w.heap.size 3 1 (.slice (some ⟨g3, 0, none⟩) zs.length cap3) zs.length (zs.map (Value.int .i64))) := by
   show World.ownsRow _ _ _ _ _ _ _
   rw [HN.out]
   simpa using hown3
  have lg := World.ownsRow.lt HO3.out g3 rfl
  clear hown3 hgrow3
  go_wp2
  go_ret
  refine ⟨some ⟨g3, 0, none⟩, cap3, by simp, ?_, HB3.out⟩
  have := ow_ints HO3.out (F := rng w.heap.size w3.heap.size) (fun x e => by cases e; exact lg)
  rw [HN.out] at this
  exact this
theorem mark2_any (B E : Nat) (a : Option Addr) (n cap k : Nat) (zs : List Int) (w : World) (h : RowI w B E a n cap zs) (hn : n ≤ 1048576) (hk : k ≤ 50000000) :
  Calls Tryz.prog 28 #[.slice a n cap, .int .i64 (k : Int)] w fun e w' => e = .returned (.int .i64 ((k + n : Nat) : Int)) ∧ RowI w' B E a n cap (marks k n) ∧ Turned w w' B E := by
 obtain ⟨ho, hl, hcap, hb⟩ := h
 rcases ho.2 with ⟨e, hz⟩ | ⟨g, cap', cur, e, hB, hg, _⟩
 ·cases e
  rw [hl] at *
  clear hl
  have HM : Hid (RowI w B E none 0 0 (marks k 0)) := ⟨World.ownsRow_nil w _ _ _, rfl, Nat.le_refl _, fun k hk => by cases hk⟩
  have HT : Hid (Turned w w B E) := ⟨none, World.grownBy.refl _ _, fun g hg => by cases hg⟩
  rw [hz]
  clear ho hb hz hn hcap
  go_enter Tryz.func28, Tryz.ntmps28
  go_wp2
  go_loopw [1, 5] (fun p i wr => p = .int .i64 (k : Int) ∧ i = .int .i64 0 ∧ wr = w) (fun _ _ _ => 0)
  case atStart => exact ⟨rfl, rfl, rfl⟩
  case round =>
   obtain ⟨rfl, rfl, rfl⟩ := hrel
   go_wp2
   go_ret
   exact ⟨rfl, HM.out, HT.out⟩
 ·have hca : cap = cap' ∧ a = some ⟨g, 0, none⟩ := by cases e; exact ⟨rfl, rfl⟩
  obtain ⟨rfl, rfl⟩ := hca
  have hgE := hb g rfl
  have HL : Hid (zs.length = n) := hl.symm
  have ho' : w.ownsRow B 3 1 (.slice (some ⟨g, 0, none⟩) n cap) n ((marks k 0 ++ zs.drop 0).map (Value.int .i64)) := by
   have h2 := ho
   unfold OwnI at h2
   rw [← hl] at h2
   exact h2
  have H0 : Hid _ := ho'
  clear ho ho' hg e hl hb
  go_enter Tryz.func28, Tryz.ntmps28
  go_wp2
  go_loopw [1, 5] (fun p i wr => ∃ c : Nat, c ≤ n ∧ p = .int .i64 ((k + c : Nat) : Int) ∧ i = .int .i64 c ∧ wr.ownsRow B 3 1 (.slice (some ⟨g, 0, none⟩) n cap) n ((marks k c ++ zs.drop c).map (Value.int .i64)) ∧ w.grownBy wr (some g)) (fun _ i _ => n - (intOf i).toNat)
  case atStart => exact ⟨0, Nat.zero_le _, rfl, rfl, H0.out, World.grownBy.refl _ _⟩
  case round =>
   obtain ⟨c, hc, rfl, rfl, hown, hgr⟩ := hrel
   clear H0
   by_cases hlt : c < n
   ·have hltI : (c : Int) < (n : Int) := by omega
    obtain ⟨old, hold⟩ : ∃ v, wr.cell? ⟨g, c, none⟩ = some v := by
     rw [hown.cellAt c (by omega)]
     exact ⟨_, List.getElem?_eq_getElem (by rw [hown.1]; omega)⟩
    have hfr := hown.frozenAt c
    have hst := hown.stored c (.int .i64 ((k + c : Nat) : Int))
    rw [marks_step k n c zs HL.out hlt] at hst
    have hg2 : wr.grownBy (wr.setCell ⟨g, c, none⟩ (.int .i64 ((k + c : Nat) : Int))) (some g) := ⟨rfl, rfl, rfl, by simp, fun j _ hj => heap_setCell_other wr ⟨g, c, none⟩ j _ (fun e => hj (by simp [e]))⟩
    have HO : Hid _ := And.intro hst.1 (grownBy_trans hgr hg2)
    clear hst hg2 hown hgr
    obtain ⟨kc, hkc⟩ : ∃ kc, k + c = kc := ⟨_, rfl⟩
    rw [hkc] at HO
    rw [hkc]
    go_wp2
    go_roundw
    case rel => exact ⟨c + 1, by omega, by rw [show k + (c + 1) = kc + 1 by omega]; go_num, by go_num, HO.out.1, HO.out.2⟩
    case measure => simp [intOf] <;> omega
   ·obtain rfl : c = n := by omega
    have HR : Hid (RowI wr B E (some ⟨g, 0, none⟩) c cap (marks k c)) := by
     have e : marks k c ++ zs.drop c = marks k c := by rw [List.drop_eq_nil_of_le (by rw [HL.out]; omega), List.append_nil]
     rw [e] at hown
     have hm : (marks k c).length = c := eI_len _ _
     refine ⟨?_, hm.symm, hcap, fun j hj => by cases hj; exact ⟨hB, hgE.2⟩⟩
     unfold OwnI
     rw [hm]
     exact hown
    have HT : Hid (Turned w wr B E) := ⟨some g, hgr, fun j hj => by cases hj; exact ⟨hB, hgE.2⟩⟩
    clear hown hgr
    go_wp2
    go_ret
    exact ⟨rfl, HR.out, HT.out⟩
theorem heldT2_any (a : Option Addr) (n cap k q : Nat) (w : World) (h : TxtAt w a n (fun i => mtxt (k + i))) (hn : n ≤ 1048576) (hk : k ≤ 50000000) (hq : k + n = q) :
  Calls Tryz.prog 14 #[.slice a n cap, .int .i64 (k : Int)] w fun e w' => e = .returned (.int .i64 (q : Int)) ∧ Below w.heap.size w w' := by
 subst hq
 have KH : Hid (TxtAt w a n (fun i => mtxt (k + i))) := h
 clear h
 go_enter Tryz.func14, Tryz.ntmps14
 go_wp2
 go_loopw [1, 5] (fun p i wr => ∃ c x : Nat, c ≤ n ∧ k + c = x ∧ p = .int .i64 (x : Int) ∧ i = .int .i64 (c : Int) ∧ Below w.heap.size w wr) (fun _ i _ => n - (intOf i).toNat)
 case atStart => exact ⟨0, k, Nat.zero_le _, rfl, rfl, rfl, Below.refl _ _⟩
 case round =>
  obtain ⟨c, x, hc, hx, rfl, rfl, hbel⟩ := hrel
  by_cases hlt : c < n
  ·have hlti : (c : Int) < (n : Int) := by omega
   obtain ⟨b, off, rfl, hcell⟩ := KH.out.below hbel c hlt
   simp only [hx] at hcell
   have KC : Hid (∀ w, Calls Tryz.prog 30 #[.int .i64 (x : Int)] w fun e w' => e = .returned (.string (mtxt x)) ∧ Below w.heap.size w w') := fun w => markText_any x w (by omega)
   generalize mtxt x = mx at hcell KC
   have hbq := ba_beq mx
   have hlc := block_lt_of_cell hcell
   go_wp2_with fail
   go_region_held3 (fun w' => w'.cell? ⟨b, off + c, none⟩ = some (.string mx)) (go_keep) ((go_at_call 30; refine Calls.mono (KC.out _) ?_; rintro e w5 ⟨rfl, hb5'⟩; have hb5 := below_of_drew hb5'; clear hb5'; have h50 := (hb5.cell (p := ⟨b, off + c, none⟩) hlc).trans hcell))
   all_goals
    have HB : Hid (Below w.heap.size w w5) := below2 hbel hb5
    clear hb5 h50
    go_wp2
    go_roundw
    case rel => exact ⟨c + 1, x + 1, by omega, by omega, by go_num, by go_num, HB.out⟩
    case measure => simp [intOf] <;> omega
  ·obtain rfl : c = n := by omega
   subst hx
   go_wp2
   go_ret
   exact ⟨rfl, hbel⟩
theorem marks_length (k n : Nat) : (marks k n).length = n := by simp [marks, eI]
theorem Trn.ofTurned {w w' : World} {B E : Nat} {F : Nat → Prop} (h : Turned w w' B E) (hF : ∀ g, B ≤ g → g < E → F g) : Trn w w' F := by
 obtain ⟨r, hg, hr⟩ := h
 exact ⟨hg.os, hg.tape, hg.output, hg.size, fun j hj hn => hg.block j hj (fun e => hn (hF j (hr j e.symm).1 (hr j e.symm).2))⟩
theorem markD_ints (B : Nat) (v : Value) (zs : List Int) (k q : Nat) (F : Nat → Prop) (w : World) (h : Ow w B (inD zs) v F) (hn : zs.length ≤ 1048576) (hk : k ≤ 50000000) (hq : k + zs.length = q) :
  Calls Tryz.prog 28 #[v, .int .i64 (k : Int)] w fun e w' => e = .returned (.int .i64 (q : Int)) ∧ Ow w' B (inD (marks k zs.length)) v F ∧ Trn w w' F := by
 obtain ⟨a, cap, rfl, ho, hF⟩ := ints_ow h
 subst hq
 have back : ∀ {w' : World} {C : Nat}, OwnI w' C (.slice a zs.length cap) (marks k zs.length) → B ≤ C → Ow w' B (inD (marks k zs.length)) (.slice a zs.length cap) F := fun {w'} {C} h' hC => by
  have h2 : w'.ownsRow C 3 1 (.slice a (marks k zs.length).length cap) (marks k zs.length).length ((marks k zs.length).map (Value.int .i64)) := by
   have := h'
   unfold OwnI at this
   rw [marks_length] at this ⊢
   exact this
  have := ow_ints (own_base h2 hC) hF
  rw [marks_length] at this
  exact this
 rcases ho.2 with ⟨h0, hz⟩ | ⟨g, cap', cur, e, hB, hg, hcap, hr⟩
 ·have ea : a = none ∧ cap = 0 := by
   simp only [Value.slice.injEq] at h0
   exact ⟨h0.1, h0.2.2⟩
  obtain ⟨rfl, rfl⟩ := ea
  refine (mark2_any B B none zs.length 0 k zs w ⟨ho, rfl, by omega, fun x hx => by cases hx⟩ hn hk).mono ?_
  rintro e w' ⟨rfl, hR, hT⟩
  exact ⟨rfl, back hR.1 (Nat.le_refl _), Trn.ofTurned hT (fun g h1 h2 => absurd h1 (by omega))⟩
 ·have ea : a = some ⟨g, 0, none⟩ ∧ cap = cap' := by
   simp only [Value.slice.injEq] at e
   exact ⟨e.1, e.2.2⟩
  obtain ⟨rfl, rfl⟩ := ea
  have hO : OwnI w g (.slice (some ⟨g, 0, none⟩) zs.length cap) zs := ⟨ho.1, .inr ⟨g, cap, cur, e, Nat.le_refl _, hg, hcap, hr⟩⟩
  refine (mark2_any g (g + 1) (some ⟨g, 0, none⟩) zs.length cap k zs w ⟨hO, rfl, hcap, fun x hx => by cases hx; exact ⟨Nat.le_refl _, Nat.lt_succ_self _⟩⟩ hn hk).mono ?_
  rintro e w' ⟨rfl, hR, hT⟩
  exact ⟨rfl, back hR.1 hB, Trn.ofTurned hT (fun x h1 h2 => (show x = g by omega) ▸ hF _ rfl)⟩
def slZ : Sl := ⟨ByteArray.empty, ⟨ByteArray.empty, 0, 0, 0, ByteArray.empty, 0, fun _ => ByteArray.empty⟩, false, false, false, false, [], []⟩
def zcS : List Value := [.string ByteArray.empty, .string ByteArray.empty, .int .i64 0, .int .i64 0, .int .i64 0, .string ByteArray.empty, .slice none 0 0, .bool false, .bool false, .bool false, .bool false, .slice none 0 0, .slice none 0 0]
theorem Tryz.infoSlZ : (Tryz.prog.info? 90).map (fun i => (i.zero, i.size, i.bytes)) = some (some (.agg zcS.toArray), 13, 152) := by kernel_rfl
def H3 (g6 g11 g12 q x : Nat) : Prop := (q = 6 ∧ x = g6) ∨ (q = 11 ∧ x = g11) ∨ (q = 12 ∧ x = g12)
theorem ow_slot {w : World} {B g6 g11 g12 : Nat} {s : Sl} {v6 v11 v12 : Value} (h6 : Ow w B (txD s.p.m s.p.S) v6 (fun g => g = g6)) (h11 : Ow w B (inD s.ze) v11 (fun g => g = g11)) (h12 : Ow w B (inD s.zr) v12 (fun g => g = g12)) (q : Nat) (hq : q < 13) :
  Ow w B (slD s q) ((slC s v6 v11 v12).toList.getD q undef) (H3 g6 g11 g12 q) := by
 match q, hq with
 | 0, _ | 1, _ | 2, _ | 3, _ | 4, _ | 5, _ | 7, _ | 8, _ | 9, _ | 10, _ => rfl
 | 6, _ => exact Ow.mono h6 fun g hg => .inl ⟨rfl, hg⟩
 | 11, _ => exact Ow.mono h11 fun g hg => .inr (.inl ⟨rfl, hg⟩)
 | 12, _ => exact Ow.mono h12 fun g hg => .inr (.inr ⟨rfl, hg⟩)
theorem ow_slZ (w : World) (B q : Nat) (hq : q < 13) : Ow w B (slD slZ q) (zcS.getD q undef) (fun _ => False) := by
 match q, hq with
 | 0, _ | 1, _ | 2, _ | 3, _ | 4, _ | 5, _ | 7, _ | 8, _ | 9, _ | 10, _ => rfl
 | 6, _ => exact Ow.nil _ _ _ _ _ _
 | 11, _ => exact Ow.nil _ _ _ _ _ _
 | 12, _ => exact Ow.nil _ _ _ _ _ _
theorem toSls_any (a : Option Addr) (n cap : Nat) (S : Nat → Sl) (w : World) (h : Rd w (slsD n S) (.slice a n cap)) (hn : n ≤ 1048576) (hs : ∀ i, i < n → SlS (S i)) :
  Calls Tryz.prog 53 #[.slice a n cap] w fun e w' => e = .returned (.slice (some ⟨w.heap.size, 0, none⟩) n n) ∧ Ow w' w.heap.size (slsD n S) (.slice (some ⟨w.heap.size, 0, none⟩) n n) (rng w.heap.size w'.heap.size) ∧ Below w.heap.size w w' := by
 obtain ⟨i0, hi, hz0, hz1, hz2⟩ := info_parts Tryz.infoSlZ
 have KH : Hid (Rd w (slsD n S) (.slice a n cap)) := h
 have HS : Hid (∀ i, i < n → SlS (S i)) := hs
 clear h hs
 go_enter Tryz.func53, Tryz.ntmps53
 go_wp2_with (at_make; refine wpList_make_full _ rfl _ _ 70 rfl w.heap.size 90 i0 (.agg zcS.toArray) 13 Tryz.underlying70 hi hz0 hz1 .i64 .i64 _ _ n rfl rfl rfl rfl (by rw [hz2]; omega) (by unfold maxLen; omega) (Nat.le_refl _) ?_; intro w1 hown hgrow)
 have hb1 : Below w.heap.size w w1 := (Below.refl _ _).grown hgrow (Nat.le_refl _) (by simp)
 obtain ⟨g, HG⟩ : ∃ x, Hid (x = w.heap.size) := ⟨_, rfl⟩
 have ho1 : Ow w1 w.heap.size (.lst 90 13 n (fun i => if i < 0 then slD (S i) else slD slZ)) (.slice (some ⟨g, 0, none⟩) n n) (rng w.heap.size w1.heap.size) := by
  have e : (madeCells (Value.agg zcS.toArray).cells (n * 13)).toList = cL 13 (fun _ q => zcS.getD q undef) n := made_cL (zs := zcS) (by simp [zcS])
  rw [e] at hown
  rw [HG.out]
  have := ow_made (F := rng w.heap.size w1.heap.size) hown (fun q hq => ow_slZ w1 w.heap.size q hq) ⟨Nat.le_refl _, (World.ownsRow.lt hown _ rfl).2⟩
  exact this.congr (fun i q _ _ => by simp)
 have gB : g = w.heap.size := HG.out
 rw [← HG.out]
 have HB : Hid (w.heap.size ≤ g) := by show _ ≤ _; omega
 clear hown hgrow gB
 go_loopw [4] (fun i wr => ∃ k : Nat, k ≤ n ∧ i = .int .i64 k ∧ Ow wr w.heap.size (.lst 90 13 n (fun i => if i < k then slD (S i) else slD slZ)) (.slice (some ⟨g, 0, none⟩) n n) (rng w.heap.size wr.heap.size) ∧ Below w.heap.size w wr) (fun i _ => n - (intOf i).toNat)
 case atStart => exact ⟨0, Nat.zero_le _, rfl, ho1, hb1⟩
 case round =>
  obtain ⟨c, hc, rfl, hown, hbel⟩ := hrel
  clear ho1 hb1
  by_cases hlt : c < n
  ·have hlti : (c : Int) < (n : Int) := by omega
   obtain ⟨b1, f1, y1, p6, p11, p12, q6, q11, q12, rfl, hc1, e1, ht1, he1, hz1'⟩ := slot_row (KH.out.below hbel) hlt
   have KT0 := toSl_any (S c) p6 p11 p12 q6 q11 q12 wr ht1 he1 hz1' (HS.out c hlt)
   rw [← e1] at KT0
   have KT : Hid _ := KT0
   clear KT0
   obtain ⟨_, x⟩ := one_row (sz := 12) wr (Below.refl _ _) hc1
   have R1 : Hid (wr.rangeAt b1 (f1 + c * 13) [y1 0, y1 1, y1 2, y1 3, y1 4, y1 5, y1 6, y1 7, y1 8, y1 9, y1 10, y1 11, y1 12]) := range13 x
   have KO : Hid (Ow wr w.heap.size (.lst 90 13 n (fun i => if i < c then slD (S i) else slD slZ)) (.slice (some ⟨g, 0, none⟩) n n) (rng w.heap.size wr.heap.size) ∧ Below w.heap.size w wr) := ⟨hown, hbel⟩
   have lg : g < wr.heap.size := by
    obtain ⟨a', cap', c', G', e', ho', _⟩ := hown
    cases e'
    exact (World.ownsRow.lt ho' g rfl).2
   clear hc1 e1 ht1 he1 hz1' x hbel hown
   go_wp2_with (refine wpList_load_mid (by rfl) 115 _ (by rfl) b1 (f1 + c * 13) (by rfl) [y1 0, y1 1, y1 2, y1 3, y1 4, y1 5, y1 6, y1 7, y1 8, y1 9, y1 10, y1 11, y1 12] _ ?_ Tryz.underlying115 (by rfl) Tryz.infoSlL ?_; exact R1.out)
   refine Calls.mono KT.out ?_
   rintro e w2 ⟨g6, g11, g12, rfl, l1, l2, l3, l4, o6, o11, o12, b2⟩
   have O2 := KO.out.1.below b2
   have TH : Hid (w2.there g (c * 13) 13) := by
    obtain ⟨a', cap', c', G', e', ho', _⟩ := O2
    cases e'
    intro j hj
    refine ⟨?_, World.ownsRow.frozenAt ho' _⟩
    rw [World.ownsRow.cellAt ho' _ (mid_lt hlt hj), cL_get _ _ _ _ _ hlt hj]
    rfl
   have hsz := KO.out.2.size
   have HO : Hid (Ow (w2.setCells g (c * 13) (slC (S c) (.slice (some ⟨g6, 0, none⟩) (S c).p.m (S c).p.m) (.slice (some ⟨g11, 0, none⟩) (S c).ze.length (S c).ze.length) (.slice (some ⟨g12, 0, none⟩) (S c).zr.length (S c).zr.length)).toList) w.heap.size (.lst 90 13 n (fun i => if i < c + 1 then slD (S i) else slD slZ)) (.slice (some ⟨g, 0, none⟩) n n) (rng w.heap.size (w2.setCells g (c * 13) (slC (S c) (.slice (some ⟨g6, 0, none⟩) (S c).p.m (S c).p.m) (.slice (some ⟨g11, 0, none⟩) (S c).ze.length (S c).ze.length) (.slice (some ⟨g12, 0, none⟩) (S c).zr.length (S c).zr.length)).toList).heap.size)) := by
    rw [size_setCells]
    refine Ow.congr (Ow.store (d := slD (S c)) O2 hlt rfl (fun q hq => ow_slot (o6.base hsz) (o11.base hsz) (o12.base hsz) q hq) ?_ ?_ ?_ ?_) ?_
    ·intro q x _ hx hf
     have h2 := hf.2
     rcases hx with ⟨_, rfl⟩ | ⟨_, rfl⟩ | ⟨_, rfl⟩ <;> omega
    ·intro q q' x _ _ hx hx'
     rcases hx with ⟨_, rfl⟩ | ⟨_, rfl⟩ | ⟨_, rfl⟩ <;> rcases hx' with ⟨_, h⟩ | ⟨_, h⟩ | ⟨_, h⟩ <;> omega
    ·intro x hx
     have := b2.size
     exact ⟨hx.1, by have := hx.2; omega⟩
    ·intro q x _ hx
     rcases hx with ⟨_, rfl⟩ | ⟨_, rfl⟩ | ⟨_, rfl⟩ <;> exact ⟨by omega, by omega⟩
    ·intro i q _ _
     by_cases e : i = c
     ·subst e; simp
     ·by_cases e2 : i < c
      ·simp [e, e2, show i < c + 1 by omega]
      ·simp [e, e2, show ¬ i < c + 1 by omega]
   have HBe : Hid (Below w.heap.size w (w2.setCells g (c * 13) (slC (S c) (.slice (some ⟨g6, 0, none⟩) (S c).p.m (S c).p.m) (.slice (some ⟨g11, 0, none⟩) (S c).ze.length (S c).ze.length) (.slice (some ⟨g12, 0, none⟩) (S c).zr.length (S c).zr.length)).toList)) := below_setCells (below2 KO.out.2 b2) HB.out _ _
   clear O2 b2 o6 o11 o12 KT R1 KO
   go_wp2_with (refine wpList_store_mid (by rfl) 90 _ _ (by rfl) g (c * 13) (slC (S c) (.slice (some ⟨g6, 0, none⟩) (S c).p.m (S c).p.m) (.slice (some ⟨g11, 0, none⟩) (S c).ze.length (S c).ze.length) (.slice (some ⟨g12, 0, none⟩) (S c).zr.length (S c).zr.length)) (by rfl) (by rfl) ?_ Tryz.infoSl (by simp [Value.oneCell']) ?_; exact TH.out)
   go_roundw
   case rel => exact ⟨c + 1, by omega, by go_num, HO.out, HBe.out⟩
   case measure => simp [intOf]; omega
  ·obtain rfl : c = n := by omega
   have HO : Hid (Ow wr w.heap.size (slsD c S) (.slice (some ⟨g, 0, none⟩) c c) (rng w.heap.size wr.heap.size)) := hown.congr (fun i q hi _ => by simp [hi])
   clear hown
   go_wp2
   go_ret
   exact ⟨by rw [← HG.out]; rfl, by rw [← HG.out]; rw [HG.out]; have := HO.out; rw [HG.out] at this; exact this, hbel⟩
theorem toNd_any (id f : Int) (a : Option Addr) (n cap : Nat) (S : Nat → Sl) (w : World) (h : Rd w (slsD n S) (.slice a n cap)) (hn : n ≤ 1048576) (hs : ∀ i, i < n → SlS (S i)) :
  Calls Tryz.prog 36 #[.agg #[.int .i64 id, .int .i64 f, .slice a n cap]] w fun e w' => ∃ g, e = .returned (.agg #[.int .i64 id, .int .i64 f, .slice (some ⟨g, 0, none⟩) n n]) ∧ Ow w' w.heap.size (slsD n S) (.slice (some ⟨g, 0, none⟩) n n) (rng w.heap.size w'.heap.size) ∧ Below w.heap.size w w' := by
 obtain ⟨A, HA⟩ : ∃ x, Hid (x = w.heap.size) := ⟨_, rfl⟩
 obtain ⟨D, HD⟩ : ∃ x, Hid (x = w.heap.size + 1) := ⟨_, rfl⟩
 obtain ⟨V, HV⟩ : ∃ x, Hid (x = w.heap.size + 1 + 1) := ⟨_, rfl⟩
 obtain ⟨w0, HW0⟩ : ∃ x, Hid (x = ((w.alloc (.cells #[.int .i64 id, .int .i64 f, .slice a n cap] 60)).alloc (.cells #[.int .i64 0, .int .i64 0, .slice none 0 0] 72)).alloc (.cells #[.int .i64 id, .int .i64 f, .slice none 0 0] 72)) := ⟨_, rfl⟩
 have RD : Hid (Row w0 D 72 #[.int .i64 0, .int .i64 0, .slice none 0 0]) := by
  show Row _ _ _ _
  rw [HW0.out, HD.out]
  have := Row.new (w.alloc (.cells #[.int .i64 id, .int .i64 f, .slice a n cap] 60)) #[.int .i64 0, .int .i64 0, .slice none 0 0] 72
  exact Row.alloc (by simpa using this) _
 have RV : Hid (Row w0 V 72 #[.int .i64 id, .int .i64 f, .slice none 0 0]) := by
  show Row _ _ _ _
  rw [HW0.out, HV.out]
  have := Row.new ((w.alloc (.cells #[.int .i64 id, .int .i64 f, .slice a n cap] 60)).alloc (.cells #[.int .i64 0, .int .i64 0, .slice none 0 0] 72)) #[.int .i64 id, .int .i64 f, .slice none 0 0] 72
  simpa using this
 have hb0 : Below w.heap.size w w0 := by rw [HW0.out]; exact (((Below.refl _ _).alloc (Nat.le_refl _) _).alloc (by simp) _).alloc (by simp; omega) _
 have hVD : Hid (V ≠ D ∧ w.heap.size ≤ D ∧ w.heap.size ≤ V ∧ V < w0.heap.size ∧ D < w0.heap.size) := by
  have h1 := HV.out; have h2 := HD.out
  exact ⟨by omega, by omega, by omega, RV.out.lt, RD.out.lt⟩
 have KB0 : Hid (Below w.heap.size w w0) := hb0
 have KT : Hid _ := toSls_any a n cap S w0 (h.below hb0) hn hs
 obtain ⟨g, HG⟩ : ∃ x, Hid (x = w0.heap.size) := ⟨_, rfl⟩
 clear h hs hb0
 go_enter Tryz.func36, Tryz.ntmps36
 go_wp2_with fail
 rw [← HW0.out, ← HV.out, ← HD.out, ← HA.out]
 refine Calls.mono KT.out ?_
 rintro e w1 ⟨rfl, O1, b1⟩
 rw [← HG.out] at O1
 rw [← HG.out]
 rw [HG.out] at O1
 have V1 := RV.out.below b1 RV.out.lt
 have D1 : Hid (Row w1 D 72 #[.int .i64 0, .int .i64 0, .slice none 0 0]) := RD.out.below b1 RD.out.lt
 have y2 := V1.cell 2
 have f2 := V1.free 2
 simp at y2
 obtain ⟨w2, HW2⟩ : ∃ x, Hid (x = w1.setCell ⟨V, 2, none⟩ (.slice (some ⟨g, 0, none⟩) n n)) := ⟨_, rfl⟩
 have V2 : Hid (Row w2 V 72 #[.int .i64 id, .int .i64 f, .slice (some ⟨g, 0, none⟩) n n]) := by show Row _ _ _ _; rw [HW2.out]; exact V1.set 2 _
 have D2 : Hid (Row w2 D 72 #[.int .i64 0, .int .i64 0, .slice none 0 0]) := by show Row _ _ _ _; rw [HW2.out]; exact D1.out.other 2 _ (Ne.symm hVD.out.1)
 obtain ⟨w3, HW3⟩ : ∃ x, Hid (x = w2.setRow D #[.int .i64 id, .int .i64 f, .slice (some ⟨g, 0, none⟩) n n]) := ⟨_, rfl⟩
 have D3 : Hid (Row w3 D 72 #[.int .i64 id, .int .i64 f, .slice (some ⟨g, 0, none⟩) n n]) := by show Row _ _ _ _; rw [HW3.out]; exact D2.out.row
 have B3 : Hid (Below w.heap.size w w3) := by
  show Below _ _ _
  rw [HW3.out, HW2.out]
  exact belowSetRow (Below.setCell (below2 KB0.out b1) hVD.out.2.2.1 _) hVD.out.2.1 _
 have O3 : Hid (Ow w3 w.heap.size (slsD n S) (.slice (some ⟨g, 0, none⟩) n n) (rng w.heap.size w3.heap.size)) := by
  have h1 : w3.heap.size = w1.heap.size := by rw [HW3.out, HW2.out]; simp
  have h2 := KB0.out.size
  have h3 := (O1.base h2).frame (w' := w3) (fun x hx _ => by
   have l1 := hx.1
   have l2 := hVD.out.2.2.2.1
   have l3 := hVD.out.2.2.2.2
   rw [HW3.out, setRow_other _ _ _ _ (by omega), HW2.out]
   exact heap_setCell_other w1 ⟨V, 2, none⟩ x _ (by show x ≠ V; omega))
  rw [HG.out]
  exact h3.mono (fun x hx => ⟨by have := hx.1; omega, by have := hx.2; omega⟩)
 clear V1 b1 O1
 go_wp2_with (first | (rw [← HW2.out]; refine wpList_load_row (by rfl) 72 _ (by rfl) V (by rfl) 72 _ (0, 0) _ V2.out Tryz.underlying72 (by rfl) Tryz.infoNd ?_; clear y2 f2) | (refine wpList_store_row (by rfl) 72 _ _ (by rfl) D #[.int .i64 id, .int .i64 f, .slice (some ⟨g, 0, none⟩) n n] (by rfl) (by rfl) 72 #[.int .i64 0, .int .i64 0, .slice none 0 0] ?_ Tryz.infoNd rfl (by simp [Value.oneCell']) ?_; exact D2.out; rw [← HW3.out]))
 refine bodyPost_ret (v := .agg #[.int .i64 id, .int .i64 f, .slice (some ⟨g, 0, none⟩) n n]) (results_cell_row Tryz.results36 _ _ D 72 _ (0, 0) _ (by rfl) D3.out Tryz.underlying72 (by rfl) Tryz.infoNd) rfl ⟨g, rfl, O3.out, B3.out⟩
theorem copiedP_any (r : ByteArray) (k n i : Int) (b : ByteArray) (a : Option Addr) (m c : Nat) (S : Nat → ByteArray) (w : World) (h : TxtAt w a m S) (hm : m ≤ 1048576) (hr : r.size ≤ 1048576) (hb : b.size ≤ 1048576) (hS : ∀ i, i < m → (S i).size ≤ 1048576) :
  Calls Tryz.prog 126 #[pcV r k n i b (.slice a m c)] w fun e w' => ∃ g, e = .returned (pcV r k n i b (.slice (some ⟨g, 0, none⟩) m m)) ∧ OwnT w' w.heap.size (some ⟨g, 0, none⟩) m m S ∧ Below w.heap.size w w' := by
 obtain ⟨i0, hi, hz0, hz1, hz2⟩ := info_parts Tryz.infoStr
 obtain ⟨A, HA⟩ : ∃ x, Hid (x = w.heap.size) := ⟨_, rfl⟩
 obtain ⟨D, HD⟩ : ∃ x, Hid (x = w.heap.size + 1) := ⟨_, rfl⟩
 obtain ⟨w0, HW0⟩ : ∃ x, Hid (x = (w.alloc (.cells (pcC r k n i b (.slice a m c)) 66)).alloc (.cells #[.string ⟨#[]⟩, .int .i64 0, .int .i64 0, .int .i64 0, .string ⟨#[]⟩, .slice none 0 0] 66)) := ⟨_, rfl⟩
 have RA : Hid (Row w0 A 66 (pcC r k n i b (.slice a m c))) := by show Row _ _ _ _; rw [HW0.out, HA.out]; exact Row.alloc (Row.new w _ _) _
 have RD : Hid (Row w0 D 66 #[.string ⟨#[]⟩, .int .i64 0, .int .i64 0, .int .i64 0, .string ⟨#[]⟩, .slice none 0 0]) := by
  show Row _ _ _ _
  rw [HW0.out, HD.out]
  have := Row.new (w.alloc (.cells (pcC r k n i b (.slice a m c)) 66)) #[.string ⟨#[]⟩, .int .i64 0, .int .i64 0, .int .i64 0, .string ⟨#[]⟩, .slice none 0 0] 66
  simpa using this
 have hb0 : Below w.heap.size w w0 := by rw [HW0.out]; exact ((Below.refl _ _).alloc (Nat.le_refl _) _).alloc (by simp) _
 have KB0 : Hid (Below w.heap.size w w0) := hb0
 have hAD : Hid (A ≠ D ∧ w.heap.size ≤ A ∧ w.heap.size ≤ D) := ⟨by have := HA.out; have := HD.out; omega, by have := HA.out; omega, by have := HD.out; omega⟩
 have KH : Hid (TxtAt w a m S) := h
 have KCr : Hid (∀ W, Calls Tryz.prog 23 #[.string r] W fun e w' => e = .returned (.string r) ∧ Below W.heap.size W w') := fun W => clone_any r W hr
 have KCb : Hid (∀ W, Calls Tryz.prog 23 #[.string b] W fun e w' => e = .returned (.string b) ∧ Below W.heap.size W w') := fun W => clone_any b W hb
 have KCS : Hid (∀ i, i < m → ∀ W, Calls Tryz.prog 23 #[.string (S i)] W fun e w' => e = .returned (.string (S i)) ∧ Below W.heap.size W w') := fun i hi W => clone_any (S i) W (hS i hi)
 clear h hb0 hr hb hS
 go_enter Tryz.func126, Tryz.ntmps126
 go_wp2_with fail
 rw [← HW0.out, ← HD.out, ← HA.out]
 go_cut [] from 6 to 13 (fun wx => Hid (Row wx A 66 (pcC r k n i b (.slice a m c)) ∧ Row wx D 66 #[.string ⟨#[]⟩, .int .i64 0, .int .i64 0, .int .i64 0, .string ⟨#[]⟩, .slice none 0 0] ∧ Below w.heap.size w wx))
 case first =>
  have lA := RA.out.lt
  have lD := RD.out.lt
  have q0 := RA.out.cell 0
  have q1 := RA.out.cell 1
  have q2 := RA.out.cell 2
  have q3 := RA.out.cell 3
  have q4 := RA.out.cell 4
  have q5 := RA.out.cell 5
  have f0 := RA.out.free 0
  have f4 := RA.out.free 4
  simp at q0 q1 q2 q3 q4 q5
  have KTW : Hid (∀ W, Below w0.heap.size w0 W → Row W A 66 (pcC r k n i b (.slice a m c)) ∧ Row W D 66 #[.string ⟨#[]⟩, .int .i64 0, .int .i64 0, .int .i64 0, .string ⟨#[]⟩, .slice none 0 0] ∧ Below w.heap.size w W) := fun W hW => ⟨RA.out.below hW lA, RD.out.below hW lD, below2 KB0.out hW⟩
  have KQ : Hid (∀ W, Below w0.heap.size w0 W → W.cell? ⟨A, 0, none⟩ = some (.string r) ∧ W.cell? ⟨A, 1, none⟩ = some (.int .i64 k) ∧ W.cell? ⟨A, 2, none⟩ = some (.int .i64 n) ∧ W.cell? ⟨A, 3, none⟩ = some (.int .i64 i) ∧ W.cell? ⟨A, 4, none⟩ = some (.string b) ∧ W.cell? ⟨A, 5, none⟩ = some (.slice a m c)) := fun W hW => by
   have := (KTW.out W hW).1
   have z0 := this.cell 0
   have z1 := this.cell 1
   have z2 := this.cell 2
   have z3 := this.cell 3
   have z4 := this.cell 4
   have z5 := this.cell 5
   simp at z0 z1 z2 z3 z4 z5
   exact ⟨z0, z1, z2, z3, z4, z5⟩
  have KF : Hid (∀ W, Below w0.heap.size w0 W → W.frozen? ⟨A, 0, none⟩ = false ∧ W.frozen? ⟨A, 4, none⟩ = false) := fun W hW => ⟨(KTW.out W hW).1.free 0, (KTW.out W hW).1.free 4⟩
  go_region_held3 (fun w' => w'.cell? ⟨A, 0, none⟩ = some (.string r) ∧ w'.cell? ⟨A, 1, none⟩ = some (.int .i64 k) ∧ w'.cell? ⟨A, 2, none⟩ = some (.int .i64 n) ∧ w'.cell? ⟨A, 3, none⟩ = some (.int .i64 i) ∧ w'.cell? ⟨A, 4, none⟩ = some (.string b) ∧ w'.cell? ⟨A, 5, none⟩ = some (.slice a m c)) (go_keep) ((first | (guard_hyp d1; go_at_call 23; refine Calls.mono (KCb.out _) ?_; rintro e w8 ⟨rfl, b8⟩; have b08 := below2 b07 b8; obtain ⟨t0, t1, t2, t3, t4, t5⟩ := KQ.out _ b08; have g0 := (KF.out _ b08).1; have g4 := (KF.out _ b08).2; have RB8 := (KTW.out _ b08).1.set 0 (.string r); have RC8 := RB8.set 4 (.string b); have s0 := RB8.cell 0; have v0 := RC8.cell 0; have s1 := RB8.cell 1; have v1 := RC8.cell 1; have s2 := RB8.cell 2; have v2 := RC8.cell 2; have s3 := RB8.cell 3; have v3 := RC8.cell 3; have s4 := RB8.cell 4; have v4 := RC8.cell 4; have s5 := RB8.cell 5; have v5 := RC8.cell 5; simp at s0 v0 s1 v1 s2 v2 s3 v3 s4 v4 s5 v5; clear RB8 RC8) | (go_at_call 23; refine Calls.mono (KCr.out _) ?_; rintro e w7 ⟨rfl, b7'⟩; have b07 := below_of_drew b7'; clear b7'; have d1 : Hid True := trivial; obtain ⟨p0, p1, p2, p3, p4, p5⟩ := KQ.out _ b07)))
  all_goals
   obtain ⟨RA8, RD8, B8⟩ := KTW.out _ b08
   go_wp2_with fail
   go_meet
   exact ⟨(RA8.set 0 _).set 4 _, (RD8.other 0 _ (Ne.symm hAD.out.1)).other 4 _ (Ne.symm hAD.out.1), (B8.setCell hAD.out.2.1 _).setCell hAD.out.2.1 _⟩
 obtain ⟨RAc, RDc, Bc⟩ := hcut.out
 clear hcut RA RD KB0 HW0 KCr KCb
 have RA : Hid (Row wc A 66 (pcC r k n i b (.slice a m c))) := RAc
 have RD : Hid (Row wc D 66 #[.string ⟨#[]⟩, .int .i64 0, .int .i64 0, .int .i64 0, .string ⟨#[]⟩, .slice none 0 0]) := RDc
 have KBc : Hid (Below w.heap.size w wc) := Bc
 have x5 := RAc.cell 5
 simp at x5
 obtain ⟨g, HG⟩ : ∃ x, Hid (x = wc.heap.size) := ⟨_, rfl⟩
 clear RAc RDc Bc
 go_wp2_with (at_make; refine wpList_make_full _ rfl _ _ 27 rfl wc.heap.size 9 i0 (.string ByteArray.empty) 1 Tryz.underlying27 hi hz0 hz1 .i64 .i64 _ _ m rfl rfl rfl rfl (by rw [hz2]; omega) (by unfold maxLen; omega) (Nat.le_refl _) ?_; intro w1 hown hgrow; have ho1 : OwnT w1 wc.heap.size (some ⟨wc.heap.size, 0, none⟩) m m (fun i => if i < 0 then S i else ByteArray.empty) := (by have e : sL (fun i => if i < 0 then S i else ByteArray.empty) m = List.replicate m (Value.string ByteArray.empty) := (by rw [← sL_empty]; exact sL_congr (fun i _ => by simp)); unfold OwnT; rw [e]; simpa [Value.cells, toList_madeCells_one] using hown); have hb1 : Below wc.heap.size wc w1 := (Below.refl _ _).grown hgrow (Nat.le_refl _) (by simp); have y5 := (hb1.cell (p := ⟨A, 5, none⟩) RA.out.lt).trans x5)
 rw [← HG.out] at ho1
 rw [← HG.out]
 clear hown hgrow
 go_loopw [21] (fun vi wr => ∃ q : Nat, q ≤ m ∧ vi = .int .i64 (q : Int) ∧ Hid (OwnT wr g (some ⟨g, 0, none⟩) m m (fun i => if i < q then S i else ByteArray.empty)) ∧ Below wc.heap.size wc wr) (fun vi _ => m - (intOf vi).toNat)
 case atStart => exact ⟨0, Nat.zero_le _, rfl, ho1, hb1⟩
 case round =>
  obtain ⟨q, hq, rfl, hown, hbel⟩ := hrel
  clear ho1 hb1 y5 x5
  by_cases hlt : q < m
  ·obtain ⟨b', off', rfl, hc⟩ := (KH.out.below KBc.out).below hbel q hlt
   have hlti : (q : Int) < (m : Int) := by omega
   have KC1 : Hid _ := KCS.out q hlt
   obtain ⟨s, HS⟩ : ∃ x, Hid (S q = x) := ⟨_, rfl⟩
   rw [HS.out] at hc KC1
   have KB1 : Hid (Below wc.heap.size wc wr) := hbel
   clear hbel
   go_wp2_with fail
   refine Calls.mono (KC1.out _) ?_
   rintro e w2 ⟨rfl, b2⟩
   have hown2 : OwnT w2 g (some ⟨g, 0, none⟩) m m (fun i => if i < q then S i else ByteArray.empty) := hown.out.below b2
   obtain ⟨old, hold⟩ : ∃ v, w2.cell? ⟨g, q, none⟩ = some v := by
    rw [World.ownsRow.cellAt hown2 q (by omega)]
    exact ⟨_, sL_get _ _ _ hlt⟩
   have hfr := World.ownsRow.frozenAt hown2 q
   have hst := World.ownsRow.stored hown2 q (.string s)
   rw [sL_set _ _ _ _ hlt] at hst
   have HO : Hid (OwnT (w2.setCell ⟨g, q, none⟩ (.string s)) g (some ⟨g, 0, none⟩) m m (fun i => if i < q + 1 then S i else ByteArray.empty)) := OwnT.congr hst.1 (fun i _ => by
    by_cases e : i = q
    ·simp [e, HS.out]
    ·by_cases e2 : i < q
     ·simp [e, e2, show i < q + 1 by omega]
     ·simp [e, e2, show ¬ i < q + 1 by omega])
   have hne : Below wc.heap.size wc (w2.setCell ⟨g, q, none⟩ (.string s)) := (below2 KB1.out b2).setCell (by rw [HG.out]; exact Nat.le_refl _) _
   have KNE : Hid _ := hne
   clear hst hown2 hown b2 hne hc
   go_wp2
   go_roundw
   case rel => exact ⟨q + 1, by omega, by go_num, HO, KNE.out⟩
   case measure => simp [intOf]; omega
  ·obtain rfl : q = m := by omega
   have HO : OwnT wr g (some ⟨g, 0, none⟩) q q S := hown.out.congr (fun i hi => if_pos hi)
   have RAr := RA.out.below hbel RA.out.lt
   have RDr := RD.out.below hbel RD.out.lt
   have hgA : A < g ∧ D < g := by rw [HG.out]; exact ⟨RA.out.lt, RD.out.lt⟩
   have HR3 : Hid (Row (((((((wr.setCell ⟨A, 5, none⟩ (.slice (some ⟨g, 0, none⟩) q q)).setCell ⟨D, 0, none⟩ (.string r)).setCell ⟨D, 1, none⟩ (.int .i64 k)).setCell ⟨D, 2, none⟩ (.int .i64 n)).setCell ⟨D, 3, none⟩ (.int .i64 i)).setCell ⟨D, 4, none⟩ (.string b)).setCell ⟨D, 5, none⟩ (.slice (some ⟨g, 0, none⟩) q q)) D 66 (pcC r k n i b (.slice (some ⟨g, 0, none⟩) q q))) := ((((((RDr.other 5 _ (Ne.symm hAD.out.1)).set 0 _).set 1 _).set 2 _).set 3 _).set 4 _).set 5 _
   have HO3 : Hid (OwnT (((((((wr.setCell ⟨A, 5, none⟩ (.slice (some ⟨g, 0, none⟩) q q)).setCell ⟨D, 0, none⟩ (.string r)).setCell ⟨D, 1, none⟩ (.int .i64 k)).setCell ⟨D, 2, none⟩ (.int .i64 n)).setCell ⟨D, 3, none⟩ (.int .i64 i)).setCell ⟨D, 4, none⟩ (.string b)).setCell ⟨D, 5, none⟩ (.slice (some ⟨g, 0, none⟩) q q)) w.heap.size (some ⟨g, 0, none⟩) q q S) := OwnT.base ((((((((HO.setFar hgA.1).setFar hgA.2).setFar hgA.2).setFar hgA.2).setFar hgA.2).setFar hgA.2).setFar hgA.2)) (by rw [HG.out]; exact KBc.out.size)
   have HB3 : Hid (Below w.heap.size w (((((((wr.setCell ⟨A, 5, none⟩ (.slice (some ⟨g, 0, none⟩) q q)).setCell ⟨D, 0, none⟩ (.string r)).setCell ⟨D, 1, none⟩ (.int .i64 k)).setCell ⟨D, 2, none⟩ (.int .i64 n)).setCell ⟨D, 3, none⟩ (.int .i64 i)).setCell ⟨D, 4, none⟩ (.string b)).setCell ⟨D, 5, none⟩ (.slice (some ⟨g, 0, none⟩) q q))) := (((((((below2 KBc.out hbel).setCell hAD.out.2.1 _).setCell hAD.out.2.2 _).setCell hAD.out.2.2 _).setCell hAD.out.2.2 _).setCell hAD.out.2.2 _).setCell hAD.out.2.2 _).setCell hAD.out.2.2 _
   have x0 := RAr.cell 0
   have x1 := RAr.cell 1
   have x2 := RAr.cell 2
   have x3 := RAr.cell 3
   have x4 := RAr.cell 4
   have x5 := RAr.cell 5
   have y0 := RDr.cell 0
   have y1 := RDr.cell 1
   have y2 := RDr.cell 2
   have y3 := RDr.cell 3
   have y4 := RDr.cell 4
   have y5 := RDr.cell 5
   have fA := RAr.free 5
   have f0 := RDr.free 0
   have f1 := RDr.free 1
   have f2 := RDr.free 2
   have f3 := RDr.free 3
   have f4 := RDr.free 4
   have f5 := RDr.free 5
   simp at x0 x1 x2 x3 x4 x5 y0 y1 y2 y3 y4 y5
   have hDA : ¬ D = A := fun e => hAD.out.1 e.symm
   have hAD' : ¬ A = D := hAD.out.1
   clear RAr RDr HO hbel hown
   go_wp2
   refine bodyPost_ret (v := pcV r k n i b (.slice (some ⟨g, 0, none⟩) q q)) (by
    have p0 := HR3.out.cell 0
    have p1 := HR3.out.cell 1
    have p2 := HR3.out.cell 2
    have p3 := HR3.out.cell 3
    have p4 := HR3.out.cell 4
    have p5 := HR3.out.cell 5
    simp at p0 p1 p2 p3 p4 p5
    simp [results, Tryz.results126, go_sem, p0, p1, p2, p3, p4, p5]) rfl ⟨g, rfl, HO3.out, HB3.out⟩
def MineP (root : ByteArray) (id f : Int) (r : ByteArray) (k n i : Int) : Prop := r = root ∧ k = f + 1 ∧ n = 3 * f + 1 ∧ i = id
instance (root : ByteArray) (id f : Int) (r : ByteArray) (k n i : Int) : Decidable (MineP root id f r k n i) := by unfold MineP; infer_instance
def wkS (s : Sl) : Nat := 10 + s.p.m + s.ze.length + s.zr.length
theorem tot_step {g : Nat → Nat} {c n : Nat} (h : c < n) : tot g c + g c ≤ tot g n := by
 induction n with
 | zero => omega
 | succ n ih =>
  rw [show tot g (n + 1) = tot g n + g n from rfl]
  by_cases e : c = n
  ·subst e; omega
  ·have := ih (by omega); omega
theorem ag13_list {y : Nat → Value} {c0 c1 c2 c3 c4 c5 c6 c7 c8 c9 c10 c11 c12 : Value} (h : ag13 y = .agg #[c0, c1, c2, c3, c4, c5, c6, c7, c8, c9, c10, c11, c12]) : [y 0, y 1, y 2, y 3, y 4, y 5, y 6, y 7, y 8, y 9, y 10, y 11, y 12] = [c0, c1, c2, c3, c4, c5, c6, c7, c8, c9, c10, c11, c12] := by
 have h' := congrArg (fun v => match v with | Value.agg a => a.toList | _ => []) h
 exact h'
abbrev slL (s : Sl) (v6 v11 v12 : Value) : List Value := [.string s.r, .string s.p.r, .int .i64 s.p.k, .int .i64 s.p.n, .int .i64 s.p.i, .string s.p.b, v6, .bool s.h, .bool s.e, .bool s.d, .bool s.o, v11, v12]
theorem slot_at {w : World} {n : Nat} {S : Nat → Sl} {a : Option Addr} {cap : Nat} (h : Rd w (slsD n S) (.slice a n cap)) {i : Nat} (hi : i < n) :
  ∃ (b off : Nat) (a6 a11 a12 : Option Addr) (c6 c11 c12 : Nat), a = some ⟨b, off, none⟩ ∧ w.rangeAt b (off + i * 13) (slL (S i) (.slice a6 (S i).p.m c6) (.slice a11 (S i).ze.length c11) (.slice a12 (S i).zr.length c12)) ∧ TxtAt w a6 (S i).p.m (S i).p.S ∧ IntsAt w a11 (S i).ze.length (S i).ze ∧ IntsAt w a12 (S i).zr.length (S i).zr := by
 obtain ⟨b, off, y, a6, a11, a12, c6, c11, c12, ea, hc, e, t6, t11, t12⟩ := slot_row h hi
 obtain ⟨_, x⟩ := one_row (sz := 12) w (Below.refl _ _) hc
 have R := range13 x
 rw [ag13_list e] at R
 exact ⟨b, off, a6, a11, a12, c6, c11, c12, ea, R, t6, t11, t12⟩
end Go.Proofs.YtgooamiggebibaaGreatDoor
