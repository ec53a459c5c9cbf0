/- Whether a piece goes with others, in the program. Condition: at most 64 others. -/
import Derived.Test.YthnjhjgffkilcaaGreatDoorH33
namespace Go.Proofs.YthnjhjgffkilcaaGreatDoor
set_option maxRecDepth 2000
open Go.ChangeShapes Go.WideShapes Go.ChangeAt Go.RowKit

def GwP (k n i : Int) (c : Nat) (Q : Nat → Pc) : Prop := ∀ j, j < c → k = (Q j).k ∧ n = (Q j).n ∧ i ≠ (Q j).i
noncomputable def gwB (k n i : Int) (c : Nat) (Q : Nat → Pc) : Bool := @decide (GwP k n i c Q) (Classical.propDecidable _)
theorem gwB_yes {k n i : Int} {c : Nat} {Q : Nat → Pc} (h : GwP k n i c Q) : gwB k n i c Q = true := by unfold gwB; simpa using h
theorem gwB_no {k n i : Int} {c : Nat} {Q : Nat → Pc} (h : ¬ GwP k n i c Q) : gwB k n i c Q = false := by unfold gwB; simpa using h

set_option maxHeartbeats 4000000 in
theorem goesWith_any (r : ByteArray) (k n i : Int) (b : ByteArray) (v : Value) (g c cc : Nat) (Q : Nat → Pc) (A : Nat → Option Addr) (C : Nat → Nat) (w : World) (hcell : ∀ j q, j < c → q < 6 → w.cell? ⟨g, j * 6 + q, none⟩ = some (cel (Q j) (.slice (A j) (Q j).m (C j)) q)) (hc : c ≤ 64) :
    Calls Tryz.prog 132 #[pcV r k n i b v, .slice (some ⟨g, 0, none⟩) c cc] w fun e w' => e = .returned (.bool (gwB k n i c Q)) ∧ Below w.heap.size w w' := by
  obtain ⟨w0, HW0⟩ : ∃ x, Hid (x = w.alloc (.cells (pcC r k n i b v) 33)) := ⟨_, rfl⟩
  obtain ⟨B, HB⟩ : ∃ x, Hid (x = w.heap.size) := ⟨_, rfl⟩
  have HR : Hid (Row w0 B 33 (pcC r k n i b v)) := by show Row _ _ _ _; rw [HW0.out, HB.out]; exact Row.new w _ _
  have KB : Hid (Below w.heap.size w w0) := by show Below _ _ _; rw [HW0.out]; exact (Below.refl _ _).alloc (Nat.le_refl _) _
  have HC : Hid (∀ j q, j < c → q < 6 → w0.cell? ⟨g, j * 6 + q, none⟩ = some (cel (Q j) (.slice (A j) (Q j).m (C j)) q)) := fun j q hj hq => (KB.out.cell (p := ⟨g, j * 6 + q, none⟩) (block_lt_of_cell (hcell j q hj hq))).trans (hcell j q hj hq)
  clear hcell
  go_enter Tryz.func132, Tryz.ntmps132
  go_wp2_with fail
  rw [← HW0.out, ← HB.out]
  go_loopw [9] (fun vi wr => ∃ j : Nat, j ≤ c ∧ vi = .int .i64 (j : Int) ∧ Hid (GwP k n i j Q) ∧ Below w0.heap.size w0 wr) (fun vi _ => c - (intOf vi).toNat)
  case atStart => exact ⟨0, Nat.zero_le _, rfl, fun j hj => absurd hj (Nat.not_lt_zero _), Below.refl _ _⟩
  case round =>
    obtain ⟨j, hj, rfl, HG, hbel⟩ := hrel
    by_cases hlt : j < c
    · have hji : (j : Int) < (c : Int) := by omega
      have hx := fun q (hq : q < 6) => (hbel.cell (p := ⟨g, j * 6 + q, none⟩) (block_lt_of_cell (HC.out j q hlt hq))).trans (HC.out j q hlt hq)
      have HRr := HR.out.below hbel HR.out.lt
      have q1 := HRr.cell 1
      have q2 := HRr.cell 2
      have q3 := HRr.cell 3
      simp at q1 q2 q3
      have lB : B < wr.heap.size := HRr.lt
      have nB : ¬ B = wr.heap.size := by omega
      have nB' : ¬ wr.heap.size = B := by omega
      have x0 := hx 0 (by omega)
      have x1 := hx 1 (by omega)
      have x2 := hx 2 (by omega)
      have x3 := hx 3 (by omega)
      have x4 := hx 4 (by omega)
      have x5 := hx 5 (by omega)
      simp only [cel, Nat.add_zero] at x0 x1 x2 x3 x4 x5
      have HN : Hid (GwP k n i (j + 1) Q ↔ k = (Q j).k ∧ n = (Q j).n ∧ i ≠ (Q j).i) := by
        constructor
        · intro h; exact h j (by omega)
        · intro h y hy
          by_cases e : y = j
          · subst e; exact h
          · exact HG.out y (by omega)
      have HX : Hid (¬ (k = (Q j).k ∧ n = (Q j).n ∧ i ≠ (Q j).i) → gwB k n i c Q = false) := fun h => gwB_no fun h' => h (h' j hlt)
      generalize (Q j).k = kj at x1 HN HX
      generalize (Q j).n = nj at x2 HN HX
      generalize (Q j).i = ij at x3 HN HX
      generalize (Q j).r = rj at x0
      generalize (Q j).b = bj at x4
      generalize (Q j).m = mj at x5
      generalize A j = aj at x5
      generalize C j = cj at x5
      obtain ⟨D, HD⟩ : ∃ x, Hid (x = wr.heap.size) := ⟨_, rfl⟩
      obtain ⟨w1, HW1⟩ : ∃ x, Hid (x = wr.alloc (.cells (pcC rj kj nj ij bj (.slice aj mj cj)) 33)) := ⟨_, rfl⟩
      have HB1 : Hid (Below w0.heap.size w0 w1) := by show Below _ _ _; rw [HW1.out]; exact hbel.alloc hbel.size _
      clear HRr hx
      by_cases hk : k = kj
      · subst hk
        have nk : (k != k) = false := by simp
        by_cases hn : n = nj
        · subst hn
          have nn : (n != n) = false := by simp
          by_cases hi : i = ij
          · subst hi
            have ni : (i == i) = true := by simp
            have HF : Hid (gwB k n i c Q = false) := HX.out (by simp)
            go_wp2
            go_ret
            exact ⟨by rw [HF.out]; rfl, by rw [← HW1.out]; exact below2 KB.out HB1.out⟩
          · have ni : (i == ij) = false := by simpa using hi
            have HG2 : Hid (GwP k n i (j + 1) Q) := HN.out.2 ⟨rfl, rfl, hi⟩
            go_wp2
            go_roundw
            case rel => exact ⟨j + 1, by omega, by go_num, HG2, by rw [← HW1.out]; exact HB1.out⟩
            case measure => simp [intOf]; omega
        · have nn : (n != nj) = true := by simpa using hn
          have HF : Hid (gwB k n i c Q = false) := HX.out (fun h => hn h.2.1)
          go_wp2
          go_ret
          exact ⟨by rw [HF.out]; rfl, by rw [← HW1.out]; exact below2 KB.out HB1.out⟩
      · have nk : (k != kj) = true := by simpa using hk
        have HF : Hid (gwB k n i c Q = false) := HX.out (fun h => hk h.1)
        go_wp2
        go_ret
        exact ⟨by rw [HF.out]; rfl, by rw [← HW1.out]; exact below2 KB.out HB1.out⟩
    · obtain rfl : j = c := by omega
      have HF : Hid (gwB k n i j Q = true) := gwB_yes HG.out
      go_wp2
      go_ret
      exact ⟨by rw [HF.out]; rfl, below2 KB.out hbel⟩
end Go.Proofs.YthnjhjgffkilcaaGreatDoor
