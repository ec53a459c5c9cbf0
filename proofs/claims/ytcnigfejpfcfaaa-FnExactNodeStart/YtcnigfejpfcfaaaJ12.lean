/- A piece that checks by itself, in the program and in its model: what each answers. Conditions: a proof of at most 2^20 texts; texts that a machine holds. -/
import Derived.Test.YtcnigfejpfcfaaaJ3
import Derived.Test.YtcnigfejpfcfaaaJ7
import Derived.Test.YtcnigfejpfcfaaaJ10
import Derived.Test.YtcnigfejpfcfaaaQVPc
import Derived.Test.YtcnigfejpfcfaaaJ6
import Derived.Test.YtcnigfejpfcfaaaJ1
import Derived.Deep.RegionHeld3
import Derived.Deep.AppendLies
namespace Go.Proofs.Ytcnigfejpfcfaaa
set_option maxRecDepth 2000
open Go.ChangeShapes Go.WideShapes Go.ChangeAt Go.RowKit

def kOk (k n : Int) (b : ByteArray) : Prop := 1 ≤ k ∧ k ≤ n ∧ n ≤ 16 ∧ 1 ≤ b.size ∧ b.size ≤ 2002
instance (k n : Int) (b : ByteArray) : Decidable (kOk k n b) := by unfold kOk; exact inferInstance
noncomputable def okP (r : ByteArray) (k n i : Int) (b : ByteArray) (m : Nat) (S : Nat → ByteArray) : Bool := if kOk k n b then pvB r (plf k n i b) i n m S else false
theorem okP_no {r : ByteArray} {k n i : Int} {b : ByteArray} {m : Nat} {S : Nat → ByteArray} (h : ¬ kOk k n b) : okP r k n i b m S = false := if_neg h
theorem okP_yes {r : ByteArray} {k n i : Int} {b : ByteArray} {m : Nat} {S : Nat → ByteArray} (h : kOk k n b) : okP r k n i b m S = pvB r (plf k n i b) i n m S := if_pos h
theorem pvB_out {r x : ByteArray} {i n : Int} {m : Nat} {S : Nat → ByteArray} (h : ¬ (0 ≤ i ∧ i ≤ n - 1)) : pvB r x i n m S = false := by
  unfold pvB
  cases hB : prB x i n m S with
  | false => rfl
  | true =>
    obtain ⟨_, h2, _⟩ := prB_parts hB
    have := plI_in (i := i) (n := n) (by omega)
    simp [inT] at this
    omega
theorem pvB_parts {r x : ByteArray} {i n : Int} {m : Nat} {S : Nat → ByteArray} (h : pvB r x i n m S = true) : 0 ≤ i ∧ i < n ∧ n ≤ 64 ∧ r.size = 16 ∧ m ≤ 6 ∧ ∀ j, j < m → (S j).size = 16 := by
  unfold pvB at h
  rw [Bool.and_eq_true] at h
  obtain ⟨h1, h2⟩ := h
  obtain ⟨h3, h4, h5⟩ := prB_parts h1
  have h6 := plI_in (i := i) (n := n) (by omega)
  have h7 : 0 ≤ i ∧ i < n ∧ n ≤ 64 := by simp [inT] at h6; omega
  have h8 : plI i n ≤ 6 := by
    unfold plI
    rw [if_pos h6]
    have := Gt.pl_le 6 i.toNat n.toNat (by omega)
    omega
  refine ⟨h7.1, h7.2.1, h7.2.2, ?_, by omega, h5⟩
  have h9 := of_decide_eq_true h2
  rw [← h9]
  unfold prS
  rw [if_pos h1]
  exact Gt.pr_size _ _ _ h3

theorem sprOk_is {k n : Int} (h1 : 1 ≤ k) (h2 : k ≤ n) (h3 : n ≤ 16) : sprOk k n = true := by unfold sprOk side; simp; omega
set_option maxHeartbeats 4000000 in
theorem pieceOk_any (r : ByteArray) (k n i : Int) (b : ByteArray) (a : Option Addr) (m cap : Nat) (S : Nat → ByteArray) (w : World) (h : TxtAt w a m S) (hm : m ≤ 1048576) (hL : ∀ i, i < m → (S i).size ≤ maxLen) :
    Calls Try.prog 83 #[pcV r k n i b (.slice a m cap)] w fun e w' => e = .returned (.bool (okP r k n i b m S)) ∧ Below w.heap.size w w' := by
  obtain ⟨sz, hsz⟩ : ∃ sz, b.size = sz := ⟨_, rfl⟩
  have hb0 : Below w.heap.size w (w.alloc (.cells (pcC r k n i b (.slice a m cap)) 39)) := (Below.refl _ _).alloc (Nat.le_refl _) _
  have HB0 : Hid (Below w.heap.size w (w.alloc (.cells (pcC r k n i b (.slice a m cap)) 39))) := hb0
  by_cases c1 : k < 1
  · rw [okP_no (by unfold kOk; omega)]
    clear h hL hb0
    go_enter Try.func83, Try.ntmps83
    go_wp2
    go_ret
    exact ⟨rfl, HB0.out⟩
  by_cases c2 : n < k
  · rw [okP_no (by unfold kOk; omega)]
    clear h hL hb0
    go_enter Try.func83, Try.ntmps83
    go_wp2
    go_ret
    exact ⟨rfl, HB0.out⟩
  by_cases c3 : 16 < n
  · rw [okP_no (by unfold kOk; omega)]
    clear h hL hb0
    go_enter Try.func83, Try.ntmps83
    go_wp2
    go_ret
    exact ⟨rfl, HB0.out⟩
  by_cases c4 : (sz : Int) < 1
  · rw [okP_no (by unfold kOk; omega)]
    clear h hL hb0
    go_enter Try.func83, Try.ntmps83
    go_wp2
    go_ret
    exact ⟨rfl, HB0.out⟩
  by_cases c5 : 2002 < (sz : Int)
  · rw [okP_no (by unfold kOk; omega)]
    clear h hL hb0
    go_enter Try.func83, Try.ntmps83
    go_wp2
    go_ret
    exact ⟨rfl, HB0.out⟩
  rw [okP_yes (by unfold kOk; omega)]
  obtain ⟨w0, HW0⟩ : ∃ x, Hid (x = w.alloc (.cells (pcC r k n i b (.slice a m cap)) 39)) := ⟨_, rfl⟩
  obtain ⟨B, HB⟩ : ∃ x, Hid (x = w.heap.size) := ⟨_, rfl⟩
  rw [← HW0.out] at HB0 hb0
  have HR : Hid (Row w0 B 39 (pcC r k n i b (.slice a m cap))) := by show Row _ _ _ _; rw [HW0.out, HB.out]; exact Row.new w _ _
  have KL : Hid (∀ W, Calls Try.prog 94 #[.int .i64 k, .int .i64 n, .int .i64 i, .string b] W fun e w' => e = .returned (.string (plf k n i b)) ∧ Below W.heap.size W w') := fun W => pieceLeaf_any k n i b W (by omega)
  have KP : Hid (∀ W, Below w0.heap.size w0 W → Calls Try.prog 102 #[.string r, .string (plf k n i b), .int .i64 i, .int .i64 n, .slice a m cap] W fun e w' => e = .returned (.bool (pvB r (plf k n i b) i n m S)) ∧ Below W.heap.size W w') := fun W hW => proved_any r (plf k n i b) i n a m cap S W ((h.below hb0).below hW) hm hL
  generalize plf k n i b = x at KL KP ⊢
  generalize pvB r x i n m S = ans at KP ⊢
  have q0 := HR.out.cell 0
  have q1 := HR.out.cell 1
  have q2 := HR.out.cell 2
  have q3 := HR.out.cell 3
  have q4 := HR.out.cell 4
  have q5 := HR.out.cell 5
  have lB := HR.out.lt
  simp at q0 q1 q2 q3 q4 q5
  clear h hL hb0
  go_enter Try.func83, Try.ntmps83
  go_wp2_with fail
  rw [← HW0.out, ← HB.out]
  go_region_held3 (fun w' => w'.cell? ⟨B, 0, none⟩ = some (.string r) ∧ w'.cell? ⟨B, 1, none⟩ = some (.int .i64 k) ∧ w'.cell? ⟨B, 2, none⟩ = some (.int .i64 n) ∧ w'.cell? ⟨B, 3, none⟩ = some (.int .i64 i) ∧ w'.cell? ⟨B, 4, none⟩ = some (.string b) ∧ w'.cell? ⟨B, 5, none⟩ = some (.slice a m cap)) (go_keep) ((first | (go_at_call 94; refine Calls.mono (KL.out _) ?_; rintro e w5 ⟨rfl, hb5'⟩; have hb5 := below_of_drew hb5'; clear hb5'; have p0 := (hb5.cell (p := ⟨B, 0, none⟩) lB).trans q0; have p1 := (hb5.cell (p := ⟨B, 1, none⟩) lB).trans q1; have p2 := (hb5.cell (p := ⟨B, 2, none⟩) lB).trans q2; have p3 := (hb5.cell (p := ⟨B, 3, none⟩) lB).trans q3; have p4 := (hb5.cell (p := ⟨B, 4, none⟩) lB).trans q4; have p5 := (hb5.cell (p := ⟨B, 5, none⟩) lB).trans q5) | (guard_hyp hb5; go_at_call 102; refine Calls.mono (KP.out _ hb5) ?_; rintro e w6 ⟨rfl, hb6⟩; have hb56 := below2 hb5 hb6; have u0 := (hb56.cell (p := ⟨B, 0, none⟩) lB).trans q0; have u1 := (hb56.cell (p := ⟨B, 1, none⟩) lB).trans q1; have u2 := (hb56.cell (p := ⟨B, 2, none⟩) lB).trans q2; have u3 := (hb56.cell (p := ⟨B, 3, none⟩) lB).trans q3; have u4 := (hb56.cell (p := ⟨B, 4, none⟩) lB).trans q4; have u5 := (hb56.cell (p := ⟨B, 5, none⟩) lB).trans q5)))
  all_goals
    go_wp2
    go_ret
    exact ⟨rfl, HB0.out.trans ((below2 hb5 hb6).mono HB0.out.size)⟩
set_option maxHeartbeats 4000000 in
theorem sPieceOk_any (r : ByteArray) (k n i : Int) (b : ByteArray) (a : Option Addr) (m cap : Nat) (S : Nat → ByteArray) (w : World) (h : TxtAt w a m S) (hm : m ≤ 1048576) (hL : ∀ i, i < m → (S i).size ≤ maxLen) :
    Calls Try.prog 59 #[pcV r k n i b (.slice a m cap)] w fun e w' => e = .returned (.bool (okP r k n i b m S)) ∧ Below w.heap.size w w' := by
  obtain ⟨sz, hsz⟩ : ∃ sz, b.size = sz := ⟨_, rfl⟩
  have hb0 : Below w.heap.size w (w.alloc (.cells (pcC r k n i b (.slice a m cap)) 39)) := (Below.refl _ _).alloc (Nat.le_refl _) _
  have HB0 : Hid (Below w.heap.size w (w.alloc (.cells (pcC r k n i b (.slice a m cap)) 39))) := hb0
  have KO : Hid (∀ W, Calls Try.prog 78 #[.int .i64 k, .int .i64 n] W fun e w' => e = .returned (.bool (sprOk k n)) ∧ w' = W) := fun W => s4Ok_any k n W
  have KI : Hid (∀ x y z W, Calls Try.prog 26 #[.int .i64 x, .int .i64 y, .int .i64 z] W fun e w' => e = .returned (.bool (inB x y z)) ∧ w' = W) := fun x y z W => sIn_any x y z W
  cases c1 : sprOk k n with
  | false =>
    rw [okP_no (by unfold kOk; intro hk; rw [sprOk_is hk.1 hk.2.1 hk.2.2.1] at c1; cases c1)]
    rw [c1] at KO
    clear h hL hb0
    go_enter Try.func59, Try.ntmps59
    go_wp2_with (go_at_call 78; refine (KO.out _).mono ?_; rintro e w' ⟨rfl, hw⟩; obtain rfl := hw.symm)
    go_ret
    exact ⟨rfl, HB0.out⟩
  | true =>
  rw [c1] at KO
  obtain ⟨k1, k2, k3⟩ := sprOk_parts c1
  have hwn : IntKind.i64.wrap (n - 1) = n - 1 := by rw [IntKind.wrap_i64]; omega
  cases c2 : inB i 0 (n - 1) with
  | false =>
    rw [show okP r k n i b m S = false by unfold okP; rw [pvB_out (by simp [inB] at c2; omega)]; simp]
    have KI2 : Hid (∀ W, Calls Try.prog 26 #[.int .i64 i, .int .i64 0, .int .i64 (n - 1)] W fun e w' => e = .returned (.bool false) ∧ w' = W) := fun W => by have := KI.out i 0 (n - 1) W; rw [c2] at this; exact this
    clear h hL hb0 k1 k2 k3
    go_enter Try.func59, Try.ntmps59
    go_wp2_with (first | (go_at_call 78; refine (KO.out _).mono ?_; rintro e w' ⟨rfl, hw⟩; obtain rfl := hw.symm) | (go_at_call 26; refine (KI2.out _).mono ?_; rintro e w' ⟨rfl, hw⟩; obtain rfl := hw.symm))
    go_ret
    exact ⟨rfl, HB0.out⟩
  | true =>
  have KI2 : Hid (∀ W, Calls Try.prog 26 #[.int .i64 i, .int .i64 0, .int .i64 (n - 1)] W fun e w' => e = .returned (.bool true) ∧ w' = W) := fun W => by have := KI.out i 0 (n - 1) W; rw [c2] at this; exact this
  cases c3 : inB (sz : Int) 1 2002 with
  | false =>
    rw [okP_no (by unfold kOk; simp [inB] at c3; omega)]
    have KI3 : Hid (∀ W, Calls Try.prog 26 #[.int .i64 (sz : Int), .int .i64 1, .int .i64 2002] W fun e w' => e = .returned (.bool false) ∧ w' = W) := fun W => by have := KI.out (sz : Int) 1 2002 W; rw [c3] at this; exact this
    clear h hL hb0 k1 k2 k3
    go_enter Try.func59, Try.ntmps59
    go_wp2_with fail
    refine (KO.out _).mono ?_
    rintro e w' ⟨rfl, hw⟩
    obtain rfl := hw.symm
    clear hw
    go_wp2_with fail
    refine (KI2.out _).mono ?_
    rintro e w' ⟨rfl, hw⟩
    obtain rfl := hw.symm
    clear hw
    go_wp2_with fail
    refine (KI3.out _).mono ?_
    rintro e w' ⟨rfl, hw⟩
    obtain rfl := hw.symm
    clear hw
    go_wp2
    go_ret
    exact ⟨rfl, HB0.out⟩
  | true =>
  have KI3 : Hid (∀ W, Calls Try.prog 26 #[.int .i64 (sz : Int), .int .i64 1, .int .i64 2002] W fun e w' => e = .returned (.bool true) ∧ w' = W) := fun W => by have := KI.out (sz : Int) 1 2002 W; rw [c3] at this; exact this
  have c34 : 1 ≤ sz ∧ sz ≤ 2002 := by simp [inB] at c3; omega
  rw [okP_yes (by unfold kOk; omega)]
  obtain ⟨w0, HW0⟩ : ∃ x, Hid (x = w.alloc (.cells (pcC r k n i b (.slice a m cap)) 39)) := ⟨_, rfl⟩
  obtain ⟨B, HB⟩ : ∃ x, Hid (x = w.heap.size) := ⟨_, rfl⟩
  rw [← HW0.out] at HB0 hb0
  have HR : Hid (Row w0 B 39 (pcC r k n i b (.slice a m cap))) := by show Row _ _ _ _; rw [HW0.out, HB.out]; exact Row.new w _ _
  have KL : Hid (∀ W, Calls Try.prog 80 #[.int .i64 k, .int .i64 n, .int .i64 i, .string b] W fun e w' => e = .returned (.string (plf k n i b)) ∧ Below W.heap.size W w') := fun W => sPieceLeaf_any k n i b W (by omega)
  have KP : Hid (∀ W, Below w0.heap.size w0 W → Calls Try.prog 79 #[.string r, .string (plf k n i b), .int .i64 i, .int .i64 n, .slice a m cap] W fun e w' => e = .returned (.bool (pvB r (plf k n i b) i n m S)) ∧ Below W.heap.size W w') := fun W hW => sProved_any r (plf k n i b) i n a m cap S W ((h.below hb0).below hW) hm hL
  generalize plf k n i b = x at KL KP ⊢
  generalize pvB r x i n m S = ans at KP ⊢
  have q0 := HR.out.cell 0
  have q1 := HR.out.cell 1
  have q2 := HR.out.cell 2
  have q3 := HR.out.cell 3
  have q4 := HR.out.cell 4
  have q5 := HR.out.cell 5
  have lB := HR.out.lt
  simp at q0 q1 q2 q3 q4 q5
  clear h hL hb0 k1 k2 k3 c34 KI
  go_enter Try.func59, Try.ntmps59
  go_wp2_with fail
  refine (KO.out _).mono ?_
  rintro e w' ⟨rfl, hw⟩
  obtain rfl := hw.symm
  clear hw
  go_wp2_with fail
  refine (KI2.out _).mono ?_
  rintro e w' ⟨rfl, hw⟩
  obtain rfl := hw.symm
  clear hw
  go_wp2_with fail
  refine (KI3.out _).mono ?_
  rintro e w' ⟨rfl, hw⟩
  obtain rfl := hw.symm
  clear hw
  go_wp2_with fail
  rw [← HW0.out, ← HB.out]
  go_region_held3 (fun w' => w'.cell? ⟨B, 0, none⟩ = some (.string r) ∧ w'.cell? ⟨B, 1, none⟩ = some (.int .i64 k) ∧ w'.cell? ⟨B, 2, none⟩ = some (.int .i64 n) ∧ w'.cell? ⟨B, 3, none⟩ = some (.int .i64 i) ∧ w'.cell? ⟨B, 4, none⟩ = some (.string b) ∧ w'.cell? ⟨B, 5, none⟩ = some (.slice a m cap)) (go_keep) ((first | (go_at_call 80; refine Calls.mono (KL.out _) ?_; rintro e w5 ⟨rfl, hb5'⟩; have hb5 := below_of_drew hb5'; clear hb5'; have p0 := (hb5.cell (p := ⟨B, 0, none⟩) lB).trans q0; have p1 := (hb5.cell (p := ⟨B, 1, none⟩) lB).trans q1; have p2 := (hb5.cell (p := ⟨B, 2, none⟩) lB).trans q2; have p3 := (hb5.cell (p := ⟨B, 3, none⟩) lB).trans q3; have p4 := (hb5.cell (p := ⟨B, 4, none⟩) lB).trans q4; have p5 := (hb5.cell (p := ⟨B, 5, none⟩) lB).trans q5) | (guard_hyp hb5; go_at_call 79; refine Calls.mono (KP.out _ hb5) ?_; rintro e w6 ⟨rfl, hb6⟩; have hb56 := below2 hb5 hb6; have u0 := (hb56.cell (p := ⟨B, 0, none⟩) lB).trans q0; have u1 := (hb56.cell (p := ⟨B, 1, none⟩) lB).trans q1; have u2 := (hb56.cell (p := ⟨B, 2, none⟩) lB).trans q2; have u3 := (hb56.cell (p := ⟨B, 3, none⟩) lB).trans q3; have u4 := (hb56.cell (p := ⟨B, 4, none⟩) lB).trans q4; have u5 := (hb56.cell (p := ⟨B, 5, none⟩) lB).trans q5)))
  all_goals
    go_wp2
    go_ret
    exact ⟨rfl, HB0.out.trans ((below2 hb5 hb6).mono HB0.out.size)⟩
end Go.Proofs.Ytcnigfejpfcfaaa

/- One piece of a cutting, in the program. Conditions: at most 64 bodies; a place among them. -/
namespace Go.Proofs.Ytcnigfejpfcfaaa
set_option maxRecDepth 2000
open Go.ChangeShapes Go.WideShapes Go.ChangeAt Go.RowKit

set_option maxHeartbeats 4000000 in
theorem piece_any (k : Int) (ab : Option Addr) (n cb : Nat) (S : Nat → ByteArray) (G : Nat) (L : Nat → ByteArray) (rt : ByteArray) (i : Nat) (w : World) (h : TxtAt w ab n S) (hg : TxtAt w (some ⟨G, 0, none⟩) n L) (hi : i < n) (hn : n ≤ 64) (hL : ∀ i, (L i).size ≤ 16) (hr : rt.size ≤ 1048576) :
    Calls Try.prog 74 #[.agg #[.int .i64 k, .slice ab n cb, .slice (some ⟨G, 0, none⟩) n n, .string rt], .int .i64 (i : Int)] w fun e w' => ∃ v, e = .returned (pcV rt k (n : Int) (i : Int) (S i) v) ∧ ResT w w' v (pfR n L (i : Int)) (pfF n L (i : Int)) ∧ Below w.heap.size w w' := by
  obtain ⟨B, HB⟩ : ∃ x, Hid (x = w.heap.size) := ⟨_, rfl⟩
  obtain ⟨w0, HW0⟩ : ∃ x, Hid (x = (w.alloc (.cells #[.int .i64 k, .slice ab n cb, .slice (some ⟨G, 0, none⟩) n n, .string rt] 100)).alloc (.cells #[.string ⟨#[]⟩, .int .i64 0, .int .i64 0, .int .i64 0, .string ⟨#[]⟩, .slice none 0 0] 39)) := ⟨_, rfl⟩
  have HR0 : Hid (Row w0 B 100 #[.int .i64 k, .slice ab n cb, .slice (some ⟨G, 0, none⟩) n n, .string rt]) := by show Row _ _ _ _; rw [HW0.out, HB.out]; exact (Row.new w _ _).alloc _
  have HP0 : Hid (Row w0 (B + 1) 39 #[.string ⟨#[]⟩, .int .i64 0, .int .i64 0, .int .i64 0, .string ⟨#[]⟩, .slice none 0 0]) := by
    show Row _ _ _ _
    rw [HW0.out, HB.out]
    have := Row.new (w.alloc (.cells #[.int .i64 k, .slice ab n cb, .slice (some ⟨G, 0, none⟩) n n, .string rt] 100)) #[.string ⟨#[]⟩, .int .i64 0, .int .i64 0, .int .i64 0, .string ⟨#[]⟩, .slice none 0 0] 39
    simpa using this
  have hb0 : Below w.heap.size w w0 := by rw [HW0.out]; exact ((Below.refl _ _).alloc (Nat.le_refl _) _).alloc (by simp) _
  have hl1 : B + 1 < w0.heap.size := HP0.out.lt
  have hBw : w.heap.size ≤ B := by rw [HB.out]; exact Nat.le_refl _
  have hs1 : Hid (w.heap.size + 1 = B + 1) := by show _ = _; rw [HB.out]
  obtain ⟨bb, ob, rfl, hcb⟩ := h i hi
  have lbb : bb < w.heap.size := block_lt_of_cell hcb
  have KP : Hid (Calls Try.prog 96 #[.slice (some ⟨G, 0, none⟩) n n, .int .i64 (i : Int)] w0 fun e w' => ∃ v, e = .returned (.tuple #[v, .bool (pfB n L (i : Int))]) ∧ ResT w0 w' v (pfR n L (i : Int)) (pfF n L (i : Int)) ∧ Below w0.heap.size w0 w') := proof_any _ _ _ L _ _ (hg.below hb0) (by omega) (fun i _ => by have := hL i; unfold maxLen; omega)
  have KC : Hid (∀ W, Calls Try.prog 52 #[.string rt] W fun e w' => e = .returned (.string rt) ∧ Below W.heap.size W w') := fun W => clone_any rt W hr
  have KB0 : Hid (Below w.heap.size w w0) := hb0
  obtain ⟨m, HM⟩ : ∃ m, Hid (pfR n L (i : Int) = m) := ⟨_, rfl⟩
  obtain ⟨F, HF⟩ : ∃ m, Hid (pfF n L (i : Int) = m) := ⟨_, rfl⟩
  rw [HM.out, HF.out] at KP
  rw [HM.out, HF.out]
  generalize pfB n L (i : Int) = okp at KP
  have c0 := HR0.out.cell 2
  simp at c0
  have hcb0 : Hid (w0.cell? ⟨bb, ob + i, none⟩ = some (.string (S i))) := (KB0.out.cell (p := ⟨bb, ob + i, none⟩) lbb).trans hcb
  have hii : (i : Int) < (n : Int) := by omega
  obtain ⟨sb, HSB⟩ : ∃ m, Hid (S i = m) := ⟨_, rfl⟩
  rw [HSB.out] at hcb0
  rw [HSB.out]
  clear h hg hb0 hcb hL
  go_enter Try.func74, Try.ntmps74
  go_wp2_with fail
  rw [← HW0.out, ← HB.out]
  refine Calls.mono KP.out ?_
  rintro e w1 ⟨v1, rfl, ⟨aP, cP, rfl, O1⟩, hb1⟩
  have HR1 : Hid (Row w1 B 100 #[.int .i64 k, .slice (some ⟨bb, ob, none⟩) n cb, .slice (some ⟨G, 0, none⟩) n n, .string rt]) := HR0.out.below hb1 HR0.out.lt
  have HP1 : Hid (Row w1 (B + 1) 39 #[.string ⟨#[]⟩, .int .i64 0, .int .i64 0, .int .i64 0, .string ⟨#[]⟩, .slice none 0 0]) := HP0.out.below hb1 hl1
  have lbb0 : bb < w0.heap.size := Nat.lt_of_lt_of_le lbb KB0.out.size
  have hcb1 := (hb1.cell (p := ⟨bb, ob + i, none⟩) lbb0).trans hcb0.out
  have lbb1 : bb < w1.heap.size := Nat.lt_of_lt_of_le lbb0 hb1.size
  have q0 := HR1.out.cell 0
  have q1 := HR1.out.cell 1
  have q3 := HR1.out.cell 3
  simp at q0 q1 q3
  have lB := HR1.out.lt
  have hne : ¬ bb = B + 1 := by have := hs1.out; omega
  have hne' : ¬ B + 1 = bb := by have := hs1.out; omega
  have lP := HP1.out.lt
  have KO1 : Hid (OwnT w1 w0.heap.size aP m cP F) := O1
  have KB1 : Hid (Below w.heap.size w w1) := KB0.out.trans (hb1.mono KB0.out.size)
  clear O1 KP c0 hcb0 hb1 KB0
  go_wp2_with fail
  go_region_held3 (fun w' => w'.cell? ⟨B, 0, none⟩ = some (.int .i64 k) ∧ w'.cell? ⟨B, 1, none⟩ = some (.slice (some ⟨bb, ob, none⟩) n cb) ∧ w'.cell? ⟨B, 3, none⟩ = some (.string rt) ∧ w'.cell? ⟨bb, ob + i, none⟩ = some (.string sb)) (go_keep) ((go_at_call 52; refine Calls.mono (KC.out _) ?_; rintro e w5 ⟨rfl, hb5'⟩; have hb5 := below_of_drew hb5'; clear hb5'; have p0 := (hb5.cell (p := ⟨B, 0, none⟩) lB).trans q0; have p1 := (hb5.cell (p := ⟨B, 1, none⟩) lB).trans q1; have p3 := (hb5.cell (p := ⟨B, 3, none⟩) lB).trans q3; have p4 := (hb5.cell (p := ⟨bb, ob + i, none⟩) lbb1).trans hcb1; have HP5 : Hid (Row w5 (B + 1) 39 #[.string ⟨#[]⟩, .int .i64 0, .int .i64 0, .int .i64 0, .string ⟨#[]⟩, .slice none 0 0]) := HP1.out.below hb5 lP; have x0 := HP5.out.cell 0; have x1 := HP5.out.cell 1; have x2 := HP5.out.cell 2; have x3 := HP5.out.cell 3; have x4 := HP5.out.cell 4; have x5 := HP5.out.cell 5; have f0 := HP5.out.free 0; have f1 := HP5.out.free 1; have f2 := HP5.out.free 2; have f3 := HP5.out.free 3; have f4 := HP5.out.free 4; have f5 := HP5.out.free 5; simp at x0 x1 x2 x3 x4 x5))
  all_goals
    have ZR : Hid (Row ((((((w5.setCell ⟨B + 1, 0, none⟩ (.string rt)).setCell ⟨B + 1, 1, none⟩ (.int .i64 k)).setCell ⟨B + 1, 2, none⟩ (.int .i64 (n : Int))).setCell ⟨B + 1, 3, none⟩ (.int .i64 (i : Int))).setCell ⟨B + 1, 4, none⟩ (.string sb)).setCell ⟨B + 1, 5, none⟩ (.slice aP m cP)) (B + 1) 39 (pcC rt k (n : Int) (i : Int) sb (.slice aP m cP))) := (((((HP5.out.set 0 _).set 1 _).set 2 _).set 3 _).set 4 _).set 5 _
    have ZO : Hid (OwnT ((((((w5.setCell ⟨B + 1, 0, none⟩ (.string rt)).setCell ⟨B + 1, 1, none⟩ (.int .i64 k)).setCell ⟨B + 1, 2, none⟩ (.int .i64 (n : Int))).setCell ⟨B + 1, 3, none⟩ (.int .i64 (i : Int))).setCell ⟨B + 1, 4, none⟩ (.string sb)).setCell ⟨B + 1, 5, none⟩ (.slice aP m cP)) w.heap.size aP m cP F) := OwnT.base (OwnT.setFar (OwnT.setFar (OwnT.setFar (OwnT.setFar (OwnT.setFar (OwnT.setFar (OwnT.below KO1.out hb5) hl1) hl1) hl1) hl1) hl1) hl1) (by have := hs1.out; omega)
    have KB5 : Hid (Below w.heap.size w w5) := KB1.out.trans (hb5.mono KB1.out.size)
    have hB1 : w.heap.size ≤ B + 1 := by omega
    clear p0 p1 p3 p4 x0 x1 x2 x3 x4 x5 f0 f1 f2 f3 f4 f5
    go_wp2
    refine bodyPost_ret (v := pcV rt k (n : Int) (i : Int) sb (.slice aP m cP)) (results_cell_row Try.results74 _ _ (B + 1) 39 _ (0, 0) _ (by simp) ZR.out Try.underlying39 (by rfl) Try.infoPc) rfl ⟨_, rfl, ⟨_, _, rfl, ZO.out⟩, ?_⟩
    exact Below.setCell (Below.setCell (Below.setCell (Below.setCell (Below.setCell (Below.setCell KB5.out hB1 _) hB1 _) hB1 _) hB1 _) hB1 _) hB1 _
end Go.Proofs.Ytcnigfejpfcfaaa

/- Pieces in memory: a list of pieces that is ours, and one that is read. No condition but what each says. -/
namespace Go.Proofs.Ytcnigfejpfcfaaa
set_option maxRecDepth 2000
open Go.ChangeShapes Go.WideShapes Go.ChangeAt Go.RowKit

/-- A piece by plain values: its proof has m texts S. -/
structure Pc where
  r : ByteArray
  k : Int
  n : Int
  i : Int
  b : ByteArray
  m : Nat
  S : Nat → ByteArray
def cel (p : Pc) (v : Value) : Nat → Value
  | 0 => .string p.r
  | 1 => .int .i64 p.k
  | 2 => .int .i64 p.n
  | 3 => .int .i64 p.i
  | 4 => .string p.b
  | _ => v
/-- The cells of n structs of six. -/
def gL (c : Nat → Nat → Value) (n : Nat) : List Value := (List.range (n * 6)).map fun j => c (j / 6) (j % 6)
theorem gL_len (c : Nat → Nat → Value) (n : Nat) : (gL c n).length = n * 6 := by simp [gL]
theorem gL_get (c : Nat → Nat → Value) (n i q : Nat) (hi : i < n) (hq : q < 6) : (gL c n)[i * 6 + q]? = some (c i q) := by
  have h : i * 6 + q < n * 6 := by omega
  simp [gL, h, show (i * 6 + q) / 6 = i by omega, show (i * 6 + q) % 6 = q by omega]
theorem gL_congr {c c' : Nat → Nat → Value} {n : Nat} (h : ∀ i q, i < n → q < 6 → c i q = c' i q) : gL c n = gL c' n := by
  unfold gL
  refine List.map_congr_left fun j hj => ?_
  have : j < n * 6 := by simpa using hj
  exact h _ _ (by omega) (by omega)
theorem gL_set (c : Nat → Nat → Value) (n i q : Nat) (v : Value) (hi : i < n) (hq : q < 6) : (gL c n).set (i * 6 + q) v = gL (fun i' q' => if i' = i ∧ q' = q then v else c i' q') n := by
  apply List.ext_getElem?
  intro j
  rw [List.getElem?_set]
  by_cases hj : j < n * 6
  · by_cases e : i * 6 + q = j
    · subst e
      rw [if_pos rfl, if_pos (by rw [gL_len]; omega), gL_get _ _ _ _ hi hq]
      simp
    · rw [if_neg e]
      have h1 := gL_get c n (j / 6) (j % 6) (by omega) (by omega)
      have h2 := gL_get (fun i' q' => if i' = i ∧ q' = q then v else c i' q') n (j / 6) (j % 6) (by omega) (by omega)
      rw [show j / 6 * 6 + j % 6 = j by omega] at h1 h2
      rw [h1, h2, if_neg (by omega)]
  · rw [if_neg (by omega)]
    rw [List.getElem?_eq_none (by rw [gL_len]; omega), List.getElem?_eq_none (by rw [gL_len]; omega)]
theorem gL_snoc (c : Nat → Nat → Value) (n : Nat) : gL c (n + 1) = gL c n ++ [c n 0, c n 1, c n 2, c n 3, c n 4, c n 5] := by
  apply List.ext_getElem?
  intro j
  by_cases hj : j < n * 6
  · rw [List.getElem?_append_left (by rw [gL_len]; omega)]
    have h1 := gL_get c (n + 1) (j / 6) (j % 6) (by omega) (by omega)
    have h2 := gL_get c n (j / 6) (j % 6) (by omega) (by omega)
    rw [show j / 6 * 6 + j % 6 = j by omega] at h1 h2
    rw [h1, h2]
  · rw [List.getElem?_append_right (by rw [gL_len]; omega), gL_len]
    by_cases h6 : j < (n + 1) * 6
    · obtain ⟨q, rfl⟩ : ∃ q, j = n * 6 + q := ⟨j - n * 6, by omega⟩
      have hq : q < 6 := by omega
      rw [gL_get _ _ _ _ (by omega) hq, show n * 6 + q - n * 6 = q by omega]
      match q, hq with
      | 0, _ => rfl
      | 1, _ => rfl
      | 2, _ => rfl
      | 3, _ => rfl
      | 4, _ => rfl
      | 5, _ => rfl
    · rw [List.getElem?_eq_none (by rw [gL_len]; omega), List.getElem?_eq_none (by simp; omega)]

/-- A list of pieces that is ours, cell by cell. -/
def OwnC (w : World) (B : Nat) (a : Option Addr) (n cap : Nat) (c : Nat → Nat → Value) : Prop := w.ownsRow B 39 6 (.slice a n cap) n (gL c n)
theorem OwnC.congr {w : World} {B : Nat} {a : Option Addr} {n cap : Nat} {c c' : Nat → Nat → Value} (h : OwnC w B a n cap c) (e : ∀ i q, i < n → q < 6 → c i q = c' i q) : OwnC w B a n cap c' := by
  unfold OwnC
  rw [← gL_congr e]
  exact h
theorem OwnC.below {w w' : World} {B : Nat} {a : Option Addr} {n cap : Nat} {c : Nat → Nat → Value} (h : OwnC w B a n cap c) (hb : Below w.heap.size w w') : OwnC w' B a n cap c := ownsRow_below h hb
theorem OwnC.cell {w : World} {B g : Nat} {n cap : Nat} {c : Nat → Nat → Value} (h : OwnC w B (some ⟨g, 0, none⟩) n cap c) {i q : Nat} (hi : i < n) (hq : q < 6) : w.cell? ⟨g, i * 6 + q, none⟩ = some (c i q) := by
  have := World.ownsRow.cellAt h (i * 6 + q) (by omega)
  rw [this]
  exact gL_get _ _ _ _ hi hq
theorem OwnC.set {w : World} {B g : Nat} {n cap : Nat} {c : Nat → Nat → Value} (h : OwnC w B (some ⟨g, 0, none⟩) n cap c) {i q : Nat} (hi : i < n) (hq : q < 6) (v : Value) : OwnC (w.setCell ⟨g, i * 6 + q, none⟩ v) B (some ⟨g, 0, none⟩) n cap (fun i' q' => if i' = i ∧ q' = q then v else c i' q') := by
  have := World.ownsRow.stored h (i * 6 + q) v
  rw [gL_set _ _ _ _ _ hi hq] at this
  exact this.1
/-- A list of pieces that is ours, with all that it leads to; no two lists of it share memory. -/
def OwnP (w : World) (B : Nat) (a : Option Addr) (n cap : Nat) (A : Nat → Option Addr) (C : Nat → Nat) (P : Nat → Pc) : Prop :=
  OwnC w B a n cap (fun i => cel (P i) (.slice (A i) (P i).m (C i))) ∧ (∀ i, i < n → OwnT w B (A i) (P i).m (C i) (P i).S) ∧
  (∀ i j x y, i < j → j < n → A i = some x → A j = some y → x.block ≠ y.block) ∧ (∀ i x y, i < n → A i = some x → a = some y → x.block ≠ y.block)
theorem OwnP.below {w w' : World} {B : Nat} {a : Option Addr} {n cap : Nat} {A : Nat → Option Addr} {C : Nat → Nat} {P : Nat → Pc} (h : OwnP w B a n cap A C P) (hb : Below w.heap.size w w') : OwnP w' B a n cap A C P :=
  ⟨h.1.below hb, fun i hi => OwnT.below (h.2.1 i hi) hb, h.2.2⟩
def ResP (w w' : World) (v : Value) (n : Nat) (P : Nat → Pc) : Prop := ∃ g cap A C, v = .slice (some ⟨g, 0, none⟩) n cap ∧ OwnP w' w.heap.size (some ⟨g, 0, none⟩) n cap A C P
/-- A list of pieces that is read. -/
def PiAt (w : World) (a : Option Addr) (n : Nat) (P : Nat → Pc) : Prop := ∀ i, i < n → ∃ b off ap cp, a = some ⟨b, off, none⟩ ∧ (∀ q, q < 6 → w.cell? ⟨b, off + (i * 6 + q), none⟩ = some (cel (P i) (.slice ap (P i).m cp) q)) ∧ TxtAt w ap (P i).m (P i).S
theorem PiAt.below {w w' : World} {a : Option Addr} {n : Nat} {P : Nat → Pc} (h : PiAt w a n P) (hb : Below w.heap.size w w') : PiAt w' a n P := fun i hi => by
  obtain ⟨b, off, ap, cp, e, hc, ht⟩ := h i hi
  refine ⟨b, off, ap, cp, e, fun q hq => ?_, ht.below hb⟩
  exact (hb.cell (p := ⟨b, off + (i * 6 + q), none⟩) (block_lt_of_cell (hc q hq))).trans (hc q hq)
theorem OwnP.at {w : World} {B : Nat} {a : Option Addr} {n cap : Nat} {A : Nat → Option Addr} {C : Nat → Nat} {P : Nat → Pc} (h : OwnP w B a n cap A C P) : PiAt w a n P := fun i hi => by
  have h1 := h.1
  obtain ⟨g, rfl⟩ : ∃ g, a = some ⟨g, 0, none⟩ := by
    rcases h1.2 with ⟨e, h0⟩ | ⟨g, cap', cur, e, _⟩
    · omega
    · cases e; exact ⟨g, rfl⟩
  refine ⟨g, 0, A i, C i, rfl, fun q hq => ?_, OwnT.at (h.2.1 i hi)⟩
  rw [Nat.zero_add]
  exact h1.cell hi hq
/-- The pieces of n bodies. -/
noncomputable def cutP (k : Int) (n : Nat) (S : Nat → ByteArray) : Nat → Pc := fun i => ⟨rtS n (lvs k n S), k, (n : Int), (i : Int), S i, pfR n (lvs k n S) (i : Int), pfF n (lvs k n S) (i : Int)⟩
end Go.Proofs.Ytcnigfejpfcfaaa

/- The laws' marks over lists of texts. Conditions: at most 1000 texts, marks up to 10^6. -/
namespace Go.Proofs.Ytcnigfejpfcfaaa
set_option maxRecDepth 2000
open Go.ChangeShapes Go.WideShapes Go.ChangeAt Go.RowKit

def mtGo : Nat → Nat → ByteArray → ByteArray
  | 0, _, o => o
  | f + 1, k, o => if k = 0 then o else mtGo f (k / 10) (strOfNums [((48 + k % 10 : Nat) : Int)] ++ o)
/-- The text of a mark. -/
def mtxt (k : Nat) : ByteArray := if k = 0 then ⟨#[109, 48]⟩ else (⟨#[109]⟩ : ByteArray) ++ mtGo k k ByteArray.empty
theorem mtGo_zero (f : Nat) (o : ByteArray) : mtGo f 0 o = o := by cases f <;> rfl
set_option maxRecDepth 100000 in
set_option maxHeartbeats 1000000 in
theorem markText_any (k : Nat) (w : World) (hk : k ≤ 10000000) : Calls Try.prog 54 #[.int .i64 (k : Int)] w fun e w' => e = .returned (.string (mtxt k)) ∧ Below w.heap.size w w' := by
  by_cases h0 : k = 0
  · subst h0
    have HM : Hid (mtxt 0 = ⟨#[109, 48]⟩) := rfl
    go_enter Try.func54, Try.ntmps54
    go_wp2
    go_ret
    exact ⟨ret_str HM.out.symm, Below.refl _ _⟩
  · have hki : ¬ (k : Int) ≤ 0 := by omega
    have HM : Hid (mtxt k = (⟨#[109]⟩ : ByteArray) ++ mtGo k k ByteArray.empty) := by show _ = _; unfold mtxt; rw [if_neg h0]
    go_enter Try.func54, Try.ntmps54
    go_wp2
    go_loopw [0, 3] (fun v0 v3 wr => ∃ (j f : Nat) (o : ByteArray), j ≤ f ∧ o.size + j ≤ k ∧ v0 = .int .i64 (j : Int) ∧ v3 = .string o ∧ Hid (mtGo f j o = mtGo k k ByteArray.empty) ∧ Below w.heap.size w wr) (fun v0 _ _ => (intOf v0).toNat)
    case atStart => exact ⟨k, k, ByteArray.empty, Nat.le_refl _, by show 0 + k ≤ k; omega, rfl, rfl, rfl, Below.refl _ _⟩
    case round =>
      obtain ⟨j, f, o, hjf, hoj, rfl, rfl, HG, hbel⟩ := hrel
      by_cases hj : j = 0
      · subst hj
        have HO : Hid (mtxt k = (⟨#[109]⟩ : ByteArray) ++ o) := by show _ = _; rw [HM.out, ← HG.out, mtGo_zero]
        have hsz : o.size ≤ 10000000 := by omega
        go_wp2
        go_ret
        exact ⟨ret_str HO.out.symm, hbel⟩
      · have hji : (0 : Int) < (j : Int) := by omega
        have hji2 : (j : Int) > 0 := by omega
        obtain ⟨f', rfl⟩ : ∃ f', f = f' + 1 := ⟨f - 1, by omega⟩
        have HG2 : Hid (mtGo f' (j / 10) (strOfNums [((48 + j % 10 : Nat) : Int)] ++ o) = mtGo k k ByteArray.empty) := by
          show _ = _
          rw [← HG.out]
          show _ = if j = 0 then _ else _
          rw [if_neg hj]
        obtain ⟨d, hd⟩ : ∃ d, 48 + j % 10 = d := ⟨_, rfl⟩
        rw [hd] at HG2
        have hdl : d < 256 := by omega
        have e1 : Int.tmod (j : Int) 10 = (j : Int) % 10 := by rw [Int.tmod_eq_emod_of_nonneg (by omega)]
        have e2 : Int.tdiv (j : Int) 10 = (j : Int) / 10 := by rw [Int.tdiv_eq_ediv_of_nonneg (by omega)]
        have e3 : IntKind.i64.wrap (48 + (j : Int) % 10) = (d : Int) := by rw [IntKind.wrap_i64]; omega
        have e4 : IntKind.u8.wrap (d : Int) = (d : Int) := by rw [IntKind.wrap_u8]; omega
        obtain ⟨j', hj'⟩ : ∃ j', j / 10 = j' := ⟨_, rfl⟩
        have e5 : (j : Int) / 10 = (j' : Int) := by omega
        have e6 : IntKind.i64.wrap (j' : Int) = (j' : Int) := by rw [IntKind.wrap_i64]; omega
        rw [hj'] at HG2
        have hcv := run_convert_bytes_arg (P := Try.prog) (wr.alloc (.cells #[.int .u8 (d : Int)] 5)) 103 5 Try.underlying103 Try.underlying5 wr.heap.size 0 1 1 [(d : Int)] rfl (fun i hi => by
          obtain rfl : i = 0 := by omega
          rw [cell_of_one (heap_alloc_new wr _)]
          rfl) 9 Try.underlying9
        have hss : (strOfNums [(d : Int)]).size = 1 := by rw [strOfNums_size]; rfl
        have hso : o.size ≤ 10000000 := by omega
        have HS : Hid ((strOfNums [(d : Int)] ++ o).size + j' ≤ k) := by show _ ≤ _; rw [ByteArray.size_append, hss]; omega
        have hb2 : Below w.heap.size w (wr.alloc (.cells #[.int .u8 (d : Int)] 5)) := hbel.alloc hbel.size _
        generalize strOfNums [(d : Int)] = sd at hcv hss HS HG2
        clear HG hd
        go_wp2
        go_roundw
        case rel => exact ⟨j', f', sd ++ o, by omega, HS.out, by simp [*], rfl, HG2, hb2⟩
        case measure => simp [intOf, *] <;> omega
/-- A list of texts of ours that lies from block 'B' on, ahead of block 'E'. -/
def RowT (w : World) (B E : Nat) (a : Option Addr) (n cap : Nat) (S : Nat → ByteArray) : Prop := OwnT w B a n cap S ∧ ∀ x, a = some x → B ≤ x.block ∧ x.block < E
theorem OwnT.row {w : World} {B : Nat} {a : Option Addr} {n cap : Nat} {S : Nat → ByteArray} (h : OwnT w B a n cap S) : RowT w B w.heap.size a n cap S := by
  refine ⟨h, fun x e => ?_⟩
  subst e
  exact World.ownsRow.lt h x.block rfl
theorem ResT.row {w w' : World} {v : Value} {n : Nat} {S : Nat → ByteArray} (h : ResT w w' v n S) : ∃ a cap, v = .slice a n cap ∧ RowT w' w.heap.size w'.heap.size a n cap S := by
  obtain ⟨a, cap, rfl, ho⟩ := h
  exact ⟨a, cap, rfl, ho.row⟩
theorem RowT.below {w w' : World} {B E : Nat} {a : Option Addr} {n cap : Nat} {S : Nat → ByteArray} (h : RowT w B E a n cap S) (hb : Below w.heap.size w w') : RowT w' B E a n cap S := ⟨h.1.below hb, h.2⟩
theorem RowT.at {w : World} {B E : Nat} {a : Option Addr} {n cap : Nat} {S : Nat → ByteArray} (h : RowT w B E a n cap S) : TxtAt w a n S := h.1.at
theorem RowT.turned {w w' : World} {B E B' E' : Nat} {a : Option Addr} {n cap : Nat} {S : Nat → ByteArray} (h : RowT w B E a n cap S) (ht : TurnM w w' B' E') (hd : E ≤ B' ∨ E' ≤ B) : RowT w' B E a n cap S :=
  ⟨own_turn2 h.1 ht (fun x e hx => by have := h.2 x e; omega), h.2⟩
theorem TurnM.ofBelow {w w' : World} (B E : Nat) (h : Below w.heap.size w w') : TurnM w w' B E := ⟨h.os, h.tape, h.output, h.size, fun j hj _ => h.block j hj⟩
theorem TurnM.set (w : World) {B E g : Nat} (j : Nat) (v : Value) (hB : B ≤ g) (hE : g < E) : TurnM w (w.setCell ⟨g, j, none⟩ v) B E := ⟨rfl, rfl, rfl, by simp, fun i _ hi => heap_setCell_other w ⟨g, j, none⟩ i v (fun e => by have e' : i = g := e; omega)⟩
set_option maxHeartbeats 1000000 in
theorem markT_any (B E : Nat) (a : Option Addr) (n cap : Nat) (S : Nat → ByteArray) (k q : Nat) (w : World) (h : RowT w B E a n cap S) (hn : n ≤ 1000) (hk : k ≤ 1000000) (hq : k + n = q) :
    Calls Try.prog 55 #[.slice a n cap, .int .i64 (k : Int)] w fun e w' => e = .returned (.int .i64 (q : Int)) ∧ RowT w' B E a n cap (fun i => mtxt (k + i)) ∧ TurnM w w' B E := by
  subst hq
  have K0 : Hid (RowT w B E a n cap (fun i => if i < 0 then mtxt (k + i) else S i)) := ⟨h.1.congr (fun i _ => by simp), h.2⟩
  clear h
  go_enter Try.func55, Try.ntmps55
  go_wp2
  go_loopw [1, 5] (fun p i wr => ∃ c x : Nat, c ≤ n ∧ k + c = x ∧ p = .int .i64 (x : Int) ∧ i = .int .i64 (c : Int) ∧ RowT wr B E a n cap (fun i => if i < c then mtxt (k + i) else S i) ∧ TurnM w wr B E) (fun _ i _ => n - (intOf i).toNat)
  case atStart => exact ⟨0, k, Nat.zero_le _, rfl, rfl, rfl, K0.out, TurnM.refl _ _ _⟩
  case round =>
    obtain ⟨c, x, hc, hx, rfl, rfl, hR, hT⟩ := hrel
    clear K0
    by_cases hlt : c < n
    · have hlti : (c : Int) < (n : Int) := by omega
      obtain ⟨g, rfl⟩ : ∃ g, a = some ⟨g, 0, none⟩ := by
        rcases own_shape hR.1 with ⟨_, h0, _⟩ | ⟨g, _, e, _⟩
        · omega
        · exact ⟨g, e⟩
      have hgB := hR.2 _ rfl
      have KR : Hid (RowT wr B E (some ⟨g, 0, none⟩) n cap (fun i => if i < c then mtxt (k + i) else S i)) := hR
      have KT : Hid (TurnM w wr B E) := hT
      clear hR hT
      go_wp2_with fail
      refine (markText_any x _ (by omega)).mono ?_
      rintro e w1 ⟨rfl, hb1⟩
      have hR1 := KR.out.below hb1
      obtain ⟨old, hold⟩ : ∃ v, w1.cell? ⟨g, c, none⟩ = some v := by
        rw [World.ownsRow.cellAt hR1.1 c (by omega)]
        exact ⟨_, sL_get _ _ _ hlt⟩
      have hfr := World.ownsRow.frozenAt hR1.1 c
      have hst := World.ownsRow.stored hR1.1 c (.string (mtxt x))
      rw [sL_set _ _ _ _ hlt] at hst
      have HO : Hid (RowT (w1.setCell ⟨g, c, none⟩ (.string (mtxt x))) B E (some ⟨g, 0, none⟩) n cap (fun i => if i < c + 1 then mtxt (k + i) else S i)) := ⟨OwnT.congr hst.1 (fun i _ => by
        by_cases e : i = c
        · subst e; simp [hx]
        · by_cases e2 : i < c
          · simp [e, e2, show i < c + 1 by omega]
          · simp [e, e2, show ¬ i < c + 1 by omega]), hR1.2⟩
      have HT : Hid (TurnM w (w1.setCell ⟨g, c, none⟩ (.string (mtxt x))) B E) := (KT.out.trans (TurnM.ofBelow B E hb1)).trans (TurnM.set w1 c _ hgB.1 hgB.2)
      generalize mtxt x = mx at HO HT
      clear hst hR1 KR KT
      go_wp2
      go_roundw
      case rel => exact ⟨c + 1, x + 1, by omega, by omega, by go_num, by go_num, HO.out, HT.out⟩
      case measure => simp [intOf] <;> omega
    · obtain rfl : c = n := by omega
      subst hx
      have HR : Hid (RowT wr B E a c cap (fun i => mtxt (k + i))) := ⟨hR.1.congr (fun i hi => if_pos hi), hR.2⟩
      have HT : Hid (TurnM w wr B E) := hT
      clear hR hT
      go_wp2
      go_ret
      exact ⟨rfl, HR.out, HT.out⟩
set_option maxHeartbeats 1000000 in
theorem heldT_any (a : Option Addr) (n cap k q : Nat) (w : World) (h : TxtAt w a n (fun i => mtxt (k + i))) (hn : n ≤ 1000) (hk : k ≤ 1000000) (hq : k + n = q) :
    Calls Try.prog 56 #[.slice a n cap, .int .i64 (k : Int)] w fun e w' => e = .returned (.int .i64 (q : Int)) ∧ Below w.heap.size w w' := by
  subst hq
  have KH : Hid (TxtAt w a n (fun i => mtxt (k + i))) := h
  clear h
  go_enter Try.func56, Try.ntmps56
  go_wp2
  go_loopw [1, 5] (fun p i wr => ∃ c x : Nat, c ≤ n ∧ k + c = x ∧ p = .int .i64 (x : Int) ∧ i = .int .i64 (c : Int) ∧ Below w.heap.size w wr) (fun _ i _ => n - (intOf i).toNat)
  case atStart => exact ⟨0, k, Nat.zero_le _, rfl, rfl, rfl, Below.refl _ _⟩
  case round =>
    obtain ⟨c, x, hc, hx, rfl, rfl, hbel⟩ := hrel
    by_cases hlt : c < n
    · have hlti : (c : Int) < (n : Int) := by omega
      obtain ⟨b, off, rfl, hcell⟩ := KH.out.below hbel c hlt
      simp only [hx] at hcell
      have KC : Hid (∀ w, Calls Try.prog 54 #[.int .i64 (x : Int)] w fun e w' => e = .returned (.string (mtxt x)) ∧ Below w.heap.size w w') := fun w => markText_any x w (by omega)
      generalize mtxt x = mx at hcell KC
      have hbq := ba_beq mx
      have hlc := block_lt_of_cell hcell
      go_wp2_with fail
      go_region_held3 (fun w' => w'.cell? ⟨b, off + c, none⟩ = some (.string mx)) (go_keep) ((go_at_call 54; refine Calls.mono (KC.out _) ?_; rintro e w5 ⟨rfl, hb5'⟩; have hb5 := below_of_drew hb5'; clear hb5'; have h50 := (hb5.cell (p := ⟨b, off + c, none⟩) hlc).trans hcell))
      all_goals
        have HB : Hid (Below w.heap.size w w5) := below2 hbel hb5
        clear hb5 h50
        go_wp2
        go_roundw
        case rel => exact ⟨c + 1, x + 1, by omega, by omega, by go_num, by go_num, HB.out⟩
        case measure => simp [intOf] <;> omega
    · obtain rfl : c = n := by omega
      subst hx
      go_wp2
      go_ret
      exact ⟨rfl, hbel⟩
end Go.Proofs.Ytcnigfejpfcfaaa

/- Marks over long lists of texts; a list of texts that came in. Conditions: at most 2^20 texts. -/
namespace Go.Proofs.Ytcnigfejpfcfaaa
set_option maxRecDepth 2000
open Go.ChangeShapes Go.WideShapes Go.ChangeAt Go.RowKit

/-- A list of texts that came in. -/
def IsTxt (w : World) (a : Option Addr) (n : Nat) (S : Nat → ByteArray) : Prop := TxtAt w a n S ∧ n ≤ maxLen ∧ ∀ i, i < n → (S i).size ≤ maxLen
/-- As the form reads it. -/
theorem isTxt_of {w : World} {a : Addr} {len cap m : Nat} {S : Nat → ByteArray} (hl : len ≤ cap) (hm : cap ≤ maxLen) (hlm : len ≤ m) (h : ∀ i, i < m → w.cell? (a.add i) = some (.string (S i)) ∧ (S i).size ≤ maxLen) : IsTxt w (some a) len S := by
  refine ⟨fun i hi => ?_, Nat.le_trans hl hm, fun i hi => (h i (by omega)).2⟩
  have h1 := (h i (by omega)).1
  obtain ⟨b, off, spot⟩ := a
  have hspot : spot = none := by
    have h0 := (h 0 (by omega)).1
    simpa [Addr.add] using World.cell?_spot h0
  subst hspot
  have ea : ∀ (b off i : Nat), (⟨b, off, none⟩ : Addr).add i = ⟨b, off + i, none⟩ := fun b off i => by unfold Addr.add; split <;> simp_all
  rw [ea] at h1
  exact ⟨b, off, rfl, h1⟩
/-- The same, known to lie ahead of block 's'. -/
def ArgT (w : World) (s : Nat) (a : Option Addr) (n : Nat) (S : Nat → ByteArray) : Prop := TxtAt w a n S ∧ (0 < n → ∀ b off, a = some ⟨b, off, none⟩ → b < s)
theorem TxtAt.arg {w : World} {a : Option Addr} {n : Nat} {S : Nat → ByteArray} (h : TxtAt w a n S) : ArgT w w.heap.size a n S := by
  refine ⟨h, fun hn b off e => ?_⟩
  obtain ⟨b', off', e', hc⟩ := h 0 hn
  rw [e] at e'
  cases e'
  exact block_lt_of_cell hc
theorem ArgT.below {w w' : World} {s : Nat} {a : Option Addr} {n : Nat} {S : Nat → ByteArray} (h : ArgT w s a n S) (hb : Below w.heap.size w w') : ArgT w' s a n S := ⟨h.1.below hb, h.2⟩
theorem ArgT.keep {w w' : World} {s : Nat} {a : Option Addr} {n : Nat} {S : Nat → ByteArray} (h : ArgT w s a n S) (hb : Below s w w') : ArgT w' s a n S :=
  ⟨fun i hi => by
    obtain ⟨b, off, e, hc⟩ := h.1 i hi
    exact ⟨b, off, e, (hb.cell (p := ⟨b, off + i, none⟩) (h.2 (by omega) b off e)).trans hc⟩, h.2⟩
set_option maxHeartbeats 1000000 in
theorem markT2_any (B E : Nat) (a : Option Addr) (n cap : Nat) (S : Nat → ByteArray) (k q : Nat) (w : World) (h : RowT w B E a n cap S) (hn : n ≤ 1048576) (hk : k ≤ 2000000) (hq : k + n = q) :
    Calls Try.prog 55 #[.slice a n cap, .int .i64 (k : Int)] w fun e w' => e = .returned (.int .i64 (q : Int)) ∧ RowT w' B E a n cap (fun i => mtxt (k + i)) ∧ TurnM w w' B E := by
  subst hq
  have K0 : Hid (RowT w B E a n cap (fun i => if i < 0 then mtxt (k + i) else S i)) := ⟨h.1.congr (fun i _ => by simp), h.2⟩
  clear h
  go_enter Try.func55, Try.ntmps55
  go_wp2
  go_loopw [1, 5] (fun p i wr => ∃ c x : Nat, c ≤ n ∧ k + c = x ∧ p = .int .i64 (x : Int) ∧ i = .int .i64 (c : Int) ∧ RowT wr B E a n cap (fun i => if i < c then mtxt (k + i) else S i) ∧ TurnM w wr B E) (fun _ i _ => n - (intOf i).toNat)
  case atStart => exact ⟨0, k, Nat.zero_le _, rfl, rfl, rfl, K0.out, TurnM.refl _ _ _⟩
  case round =>
    obtain ⟨c, x, hc, hx, rfl, rfl, hR, hT⟩ := hrel
    clear K0
    by_cases hlt : c < n
    · have hlti : (c : Int) < (n : Int) := by omega
      obtain ⟨g, rfl⟩ : ∃ g, a = some ⟨g, 0, none⟩ := by
        rcases own_shape hR.1 with ⟨_, h0, _⟩ | ⟨g, _, e, _⟩
        · omega
        · exact ⟨g, e⟩
      have hgB := hR.2 _ rfl
      have KR : Hid (RowT wr B E (some ⟨g, 0, none⟩) n cap (fun i => if i < c then mtxt (k + i) else S i)) := hR
      have KT : Hid (TurnM w wr B E) := hT
      clear hR hT
      go_wp2_with fail
      refine (markText_any x _ (by omega)).mono ?_
      rintro e w1 ⟨rfl, hb1⟩
      have hR1 := KR.out.below hb1
      obtain ⟨old, hold⟩ : ∃ v, w1.cell? ⟨g, c, none⟩ = some v := by
        rw [World.ownsRow.cellAt hR1.1 c (by omega)]
        exact ⟨_, sL_get _ _ _ hlt⟩
      have hfr := World.ownsRow.frozenAt hR1.1 c
      have hst := World.ownsRow.stored hR1.1 c (.string (mtxt x))
      rw [sL_set _ _ _ _ hlt] at hst
      have HO : Hid (RowT (w1.setCell ⟨g, c, none⟩ (.string (mtxt x))) B E (some ⟨g, 0, none⟩) n cap (fun i => if i < c + 1 then mtxt (k + i) else S i)) := ⟨OwnT.congr hst.1 (fun i _ => by
        by_cases e : i = c
        · subst e; simp [hx]
        · by_cases e2 : i < c
          · simp [e, e2, show i < c + 1 by omega]
          · simp [e, e2, show ¬ i < c + 1 by omega]), hR1.2⟩
      have HT : Hid (TurnM w (w1.setCell ⟨g, c, none⟩ (.string (mtxt x))) B E) := (KT.out.trans (TurnM.ofBelow B E hb1)).trans (TurnM.set w1 c _ hgB.1 hgB.2)
      generalize mtxt x = mx at HO HT
      clear hst hR1 KR KT
      go_wp2
      go_roundw
      case rel => exact ⟨c + 1, x + 1, by omega, by omega, by go_num, by go_num, HO.out, HT.out⟩
      case measure => simp [intOf] <;> omega
    · obtain rfl : c = n := by omega
      subst hx
      have HR : Hid (RowT wr B E a c cap (fun i => mtxt (k + i))) := ⟨hR.1.congr (fun i hi => if_pos hi), hR.2⟩
      have HT : Hid (TurnM w wr B E) := hT
      clear hR hT
      go_wp2
      go_ret
      exact ⟨rfl, HR.out, HT.out⟩
end Go.Proofs.Ytcnigfejpfcfaaa

/- Pieces as the exact laws hand them in: counted, copied, compared. Conditions stand at each. -/
namespace Go.Proofs.Ytcnigfejpfcfaaa
set_option maxRecDepth 2000
open Go.ChangeShapes Go.WideShapes Go.ChangeAt Go.RowKit

/-- What is left of l behind a piece; -1 where it is not enough. -/
def szPc (r b : ByteArray) (m : Nat) (S : Nat → ByteArray) (l : Nat) : Int := if r.size + b.size ≤ l then szF (fun i => (S i).size) m (l - r.size - b.size) else -1
theorem szPc_yes {r b : ByteArray} {m : Nat} {S : Nat → ByteArray} {l : Nat} (h : r.size + b.size + (m + tot (fun i => (S i).size) m) ≤ l) : szPc r b m S l = ((l - (r.size + b.size + (m + tot (fun i => (S i).size) m)) : Nat) : Int) := by
  unfold szPc szF
  rw [if_pos (by omega), if_pos (by omega)]
  omega
theorem szPc_no {r b : ByteArray} {m : Nat} {S : Nat → ByteArray} {l : Nat} (h : ¬ r.size + b.size + (m + tot (fun i => (S i).size) m) ≤ l) : szPc r b m S l = -1 := by
  unfold szPc szF
  by_cases h1 : r.size + b.size ≤ l
  · rw [if_pos h1, if_neg (by omega)]
  · rw [if_neg h1]

set_option maxHeartbeats 2000000 in
theorem szPc_any (r : ByteArray) (k n i : Int) (b : ByteArray) (a : Option Addr) (m cap : Nat) (S : Nat → ByteArray) (l : Nat) (w : World) (h : TxtAt w a m S) (hl : l ≤ 1048576) (hm : m ≤ maxLen) (hL : ∀ i, i < m → (S i).size ≤ maxLen) (hr : r.size ≤ maxLen) (hb : b.size ≤ maxLen) :
    Calls Try.prog 76 #[pcV r k n i b (.slice a m cap), .int .i64 (l : Int)] w fun e w' => e = .returned (.int .i64 (szPc r b m S l)) ∧ Below w.heap.size w w' := by
  obtain ⟨w0, HW0⟩ : ∃ x, Hid (x = w.alloc (.cells (pcC r k n i b (.slice a m cap)) 83)) := ⟨_, rfl⟩
  have hb0 : Below w.heap.size w w0 := by rw [HW0.out]; exact (Below.refl _ _).alloc (Nat.le_refl _) _
  have HB0 : Hid (Below w.heap.size w w0) := hb0
  have KT : Hid (TxtAt w0 a m S) := h.below hb0
  obtain ⟨x, hx⟩ : ∃ x, r.size = x := ⟨_, rfl⟩
  obtain ⟨y, hy⟩ : ∃ x, b.size = x := ⟨_, rfl⟩
  unfold szPc
  rw [hx, hy]
  unfold maxLen at hr hb
  clear h hb0
  by_cases h1 : l < x
  · have h1' : (l : Int) - (x : Int) < 0 := by omega
    have e1 : IntKind.i64.wrap ((l : Int) - (x : Int)) = (l : Int) - (x : Int) := by rw [IntKind.wrap_i64]; omega
    rw [if_neg (by omega)]
    clear hL
    go_enter Try.func76, Try.ntmps76
    go_wp2
    go_ret
    exact ⟨rfl, by rw [← HW0.out]; exact HB0.out⟩
  obtain ⟨l1, hl1⟩ : ∃ l1, l = x + l1 := ⟨l - x, by omega⟩
  have e1 : IntKind.i64.wrap ((l : Int) - (x : Int)) = (l1 : Int) := by rw [IntKind.wrap_i64]; omega
  have p1 : ¬ ((l1 : Int) < 0) := by omega
  by_cases h2 : l1 < y
  · have h2' : (l1 : Int) - (y : Int) < 0 := by omega
    have e2 : IntKind.i64.wrap ((l1 : Int) - (y : Int)) = (l1 : Int) - (y : Int) := by rw [IntKind.wrap_i64]; omega
    rw [if_neg (by omega)]
    clear hL hl1
    go_enter Try.func76, Try.ntmps76
    go_wp2
    go_ret
    exact ⟨rfl, by rw [← HW0.out]; exact HB0.out⟩
  obtain ⟨l2, hl2⟩ : ∃ l2, l1 = y + l2 := ⟨l1 - y, by omega⟩
  have e2 : IntKind.i64.wrap ((l1 : Int) - (y : Int)) = (l2 : Int) := by rw [IntKind.wrap_i64]; omega
  have p2 : ¬ ((l2 : Int) < 0) := by omega
  rw [if_pos (by omega), show l - x - y = l2 by omega]
  have KZ : Hid (Calls Try.prog 97 #[.slice a m cap, .int .i64 (l2 : Int)] w0 fun e w' => e = .returned (.int .i64 (szF (fun i => (S i).size) m l2)) ∧ w' = w0) := szT_any a m cap S l2 w0 KT.out (by omega) hm hL
  clear hL hl1 hl2
  by_cases h3 : m + tot (fun i => (S i).size) m ≤ l2
  · obtain ⟨z, hz⟩ : ∃ z : Nat, szF (fun i => (S i).size) m l2 = (z : Int) := ⟨l2 - (m + tot (fun i => (S i).size) m), by unfold szF; rw [if_pos h3]⟩
    rw [hz] at KZ ⊢
    have p3 : ¬ ((z : Int) < 0) := by omega
    clear hz h3
    go_enter Try.func76, Try.ntmps76
    go_wp2_with fail
    rw [← HW0.out]
    refine Calls.mono KZ.out ?_
    rintro e w' ⟨rfl, hw⟩
    obtain rfl := hw.symm
    clear hw
    go_wp2
    go_ret
    exact ⟨rfl, HB0.out⟩
  · have hz : szF (fun i => (S i).size) m l2 = -1 := by unfold szF; rw [if_neg h3]
    rw [hz] at KZ ⊢
    clear hz h3
    go_enter Try.func76, Try.ntmps76
    go_wp2_with fail
    rw [← HW0.out]
    refine Calls.mono KZ.out ?_
    rintro e w' ⟨rfl, hw⟩
    obtain rfl := hw.symm
    clear hw
    go_wp2
    go_ret
    exact ⟨rfl, HB0.out⟩

set_option maxHeartbeats 4000000 in
theorem toPc_any (r : ByteArray) (k n i : Int) (b : ByteArray) (a : Option Addr) (m cap : Nat) (S : Nat → ByteArray) (w : World) (h : TxtAt w a m S) (hm : m ≤ 1048576) :
    Calls Try.prog 81 #[pcV r k n i b (.slice a m cap)] w fun e w' => ∃ g, e = .returned (pcV r k n i b (.slice (some ⟨g, 0, none⟩) m m)) ∧ OwnT w' w.heap.size (some ⟨g, 0, none⟩) m m S ∧ Below w.heap.size w w' := by
  obtain ⟨D, HD⟩ : ∃ x, Hid (x = w.heap.size + 1) := ⟨_, rfl⟩
  obtain ⟨V, HV⟩ : ∃ x, Hid (x = w.heap.size + 1 + 1) := ⟨_, rfl⟩
  obtain ⟨w0, HW0⟩ : ∃ x, Hid (x = ((w.alloc (.cells (pcC r k n i b (.slice a m cap)) 83)).alloc (.cells (pcC ⟨#[]⟩ 0 0 0 ⟨#[]⟩ (.slice none 0 0)) 39)).alloc (.cells (pcC r k n i b (.slice none 0 0)) 39)) := ⟨_, rfl⟩
  have HRV : Hid (Row w0 V 39 (pcC r k n i b (.slice none 0 0))) := by
    show Row _ _ _ _
    rw [HW0.out, HV.out]
    have := Row.new ((w.alloc (.cells (pcC r k n i b (.slice a m cap)) 83)).alloc (.cells (pcC ⟨#[]⟩ 0 0 0 ⟨#[]⟩ (.slice none 0 0)) 39)) (pcC r k n i b (.slice none 0 0)) 39
    simpa using this
  have HRD : Hid (Row w0 D 39 (pcC ⟨#[]⟩ 0 0 0 ⟨#[]⟩ (.slice none 0 0))) := by
    show Row _ _ _ _
    rw [HW0.out, HD.out]
    have := Row.new (w.alloc (.cells (pcC r k n i b (.slice a m cap)) 83)) (pcC ⟨#[]⟩ 0 0 0 ⟨#[]⟩ (.slice none 0 0)) 39
    exact Row.alloc (by simpa using this) _
  have hb0 : Below w.heap.size w w0 := by rw [HW0.out]; exact (((Below.refl _ _).alloc (Nat.le_refl _) _).alloc (by simp) _).alloc (by simp; omega) _
  have hVD : Hid (V ≠ D ∧ w.heap.size ≤ D ∧ w.heap.size ≤ V) := by
    have := HV.out; have := HD.out; exact ⟨by omega, by omega, by omega⟩
  have KB0 : Hid (Below w.heap.size w w0) := hb0
  have KT : Hid (Calls Try.prog 101 #[.slice a m cap] w0 fun e w' => e = .returned (.slice (some ⟨w0.heap.size, 0, none⟩) m m) ∧ OwnT w' w0.heap.size (some ⟨w0.heap.size, 0, none⟩) m m S ∧ Below w0.heap.size w0 w') := toT_any a m cap S w0 (h.below hb0) hm
  obtain ⟨g, HG⟩ : ∃ x, Hid (x = w0.heap.size) := ⟨_, rfl⟩
  rw [← HG.out] at KT
  clear h hb0
  go_enter Try.func81, Try.ntmps81
  go_wp2_with fail
  rw [← HW0.out, ← HV.out, ← HD.out]
  rw [HG.out] at KT
  refine Calls.mono KT.out ?_
  rw [← HG.out]
  rintro e w1 ⟨rfl, O1, b1⟩
  have lV0 := HRV.out.lt
  have lD0 := HRD.out.lt
  have HV1 : Hid (Row w1 V 39 (pcC r k n i b (.slice none 0 0))) := HRV.out.below (HG.out ▸ b1) lV0
  have HD1 : Hid (Row w1 D 39 (pcC ⟨#[]⟩ 0 0 0 ⟨#[]⟩ (.slice none 0 0))) := HRD.out.below (HG.out ▸ b1) lD0
  obtain ⟨w2, HW2⟩ : ∃ x, Hid (x = w1.setCell ⟨V, 5, none⟩ (.slice (some ⟨g, 0, none⟩) m m)) := ⟨_, rfl⟩
  have HV2 : Hid (Row w2 V 39 (pcC r k n i b (.slice (some ⟨g, 0, none⟩) m m))) := by show Row _ _ _ _; rw [HW2.out]; exact HV1.out.set 5 _
  have HD2 : Hid (Row w2 D 39 (pcC ⟨#[]⟩ 0 0 0 ⟨#[]⟩ (.slice none 0 0))) := by show Row _ _ _ _; rw [HW2.out]; exact HD1.out.other 5 _ (Ne.symm hVD.out.1)
  have O2 : Hid (OwnT w2 w0.heap.size (some ⟨g, 0, none⟩) m m S) := by show OwnT _ _ _ _ _ _; rw [HW2.out]; exact OwnT.setFar (HG.out ▸ O1) lV0
  have KB2 : Hid (Below w.heap.size w w2) := by show Below _ _ _; rw [HW2.out]; exact (KB0.out.trans ((HG.out ▸ b1 : Below w0.heap.size w0 w1).mono KB0.out.size)).setCell hVD.out.2.2 _
  have v5 := HV1.out.cell 5
  have vf := HV1.out.free 5
  simp at v5
  clear b1 O1 KT
  go_wp2_with (rw [← HW2.out]; refine wpList_load_row (by rfl) 39 _ (by rfl) V (by rfl) 39 _ (0, 0) _ HV2.out Try.underlying39 (by rfl) Try.infoPc ?_; clear v5 vf; have x0 := HD2.out.cell 0; have x1 := HD2.out.cell 1; have x2 := HD2.out.cell 2; have x3 := HD2.out.cell 3; have x4 := HD2.out.cell 4; have x5 := HD2.out.cell 5; have f0 := HD2.out.free 0; have f1 := HD2.out.free 1; have f2 := HD2.out.free 2; have f3 := HD2.out.free 3; have f4 := HD2.out.free 4; have f5 := HD2.out.free 5; simp at x0 x1 x2 x3 x4 x5)
  have ZR : Hid (Row ((((((w2.setCell ⟨D, 0, none⟩ (.string r)).setCell ⟨D, 1, none⟩ (.int .i64 k)).setCell ⟨D, 2, none⟩ (.int .i64 n)).setCell ⟨D, 3, none⟩ (.int .i64 i)).setCell ⟨D, 4, none⟩ (.string b)).setCell ⟨D, 5, none⟩ (.slice (some ⟨g, 0, none⟩) m m)) D 39 (pcC r k n i b (.slice (some ⟨g, 0, none⟩) m m))) := (((((HD2.out.set 0 _).set 1 _).set 2 _).set 3 _).set 4 _).set 5 _
  have ZO : Hid (OwnT ((((((w2.setCell ⟨D, 0, none⟩ (.string r)).setCell ⟨D, 1, none⟩ (.int .i64 k)).setCell ⟨D, 2, none⟩ (.int .i64 n)).setCell ⟨D, 3, none⟩ (.int .i64 i)).setCell ⟨D, 4, none⟩ (.string b)).setCell ⟨D, 5, none⟩ (.slice (some ⟨g, 0, none⟩) m m)) w.heap.size (some ⟨g, 0, none⟩) m m S) := OwnT.base (OwnT.setFar (OwnT.setFar (OwnT.setFar (OwnT.setFar (OwnT.setFar (OwnT.setFar O2.out lD0) lD0) lD0) lD0) lD0) lD0) KB0.out.size
  have hDw := hVD.out.2.1
  refine bodyPost_ret (v := pcV r k n i b (.slice (some ⟨g, 0, none⟩) m m)) (results_cell_row Try.results81 _ _ D 39 _ (0, 0) _ (by simp) ZR.out Try.underlying39 (by rfl) Try.infoPc) rfl ⟨g, rfl, ZO.out, ?_⟩
  exact Below.setCell (Below.setCell (Below.setCell (Below.setCell (Below.setCell (Below.setCell KB2.out hDw _) hDw _) hDw _) hDw _) hDw _) hDw _

set_option maxHeartbeats 2000000 in
theorem eqPc_same (r : ByteArray) (k n i : Int) (b : ByteArray) (a a' : Option Addr) (m ca ca' : Nat) (S : Nat → ByteArray) (w : World) (h : TxtAt w a m S) (h' : TxtAt w a' m S) (hm : m ≤ 1048576) :
    Calls Try.prog 41 #[pcV r k n i b (.slice a m ca), pcV r k n i b (.slice a' m ca')] w fun e w' => e = .returned (.bool true) ∧ Below w.heap.size w w' := by
  obtain ⟨w0, HW0⟩ : ∃ x, Hid (x = (w.alloc (.cells (pcC r k n i b (.slice a m ca)) 39)).alloc (.cells (pcC r k n i b (.slice a' m ca')) 39)) := ⟨_, rfl⟩
  have hb0 : Below w.heap.size w w0 := by rw [HW0.out]; exact ((Below.refl _ _).alloc (Nat.le_refl _) _).alloc (by simp) _
  have HB0 : Hid (Below w.heap.size w w0) := hb0
  have KE : Hid _ := eqT_same a a' m ca ca' S w0 (h.below hb0) (h'.below hb0) hm
  have hf1 : (r.toList != r.toList) = false := by simp
  have hf2 := ba_beq r
  have hf3 : (b.toList != b.toList) = false := by simp
  have hf4 := ba_beq b
  have hf5 : (k != k) = false := by simp
  have hf6 : (n != n) = false := by simp
  have hf7 : (i != i) = false := by simp
  clear h h' hb0
  go_enter Try.func41, Try.ntmps41
  go_wp2_with fail
  rw [← HW0.out]
  refine Calls.mono KE.out ?_
  rintro e w1 ⟨rfl, b1⟩
  go_wp2
  go_ret
  exact ⟨rfl, below2 HB0.out b1⟩
end Go.Proofs.Ytcnigfejpfcfaaa
