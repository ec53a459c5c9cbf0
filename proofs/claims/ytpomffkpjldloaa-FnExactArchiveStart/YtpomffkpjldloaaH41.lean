/- A net's start in the program. Conditions: lists of at most 2^20. -/
import Derived.Test.YtpomffkpjldloaaH39
import Derived.Test.YtpomffkpjldloaaH29
import Derived.Test.YtpomffkpjldloaaH28
import Derived.Test.YtpomffkpjldloaaH40
namespace Go.Proofs.Ytpomffkpjldloaa
set_option maxRecDepth 2000
open Go.ChangeShapes Go.WideShapes Go.ChangeAt Go.RowKit

set_option maxHeartbeats 1000000 in
theorem areLi_any (f : Int) (a : Option Addr) (cap : Nat) (zs : List Int) (w : World) (h : IntsAt w a zs.length zs) (hf : 1 ≤ f ∧ f ≤ 3) (hn : zs.length ≤ 1048576) :
    Calls Try.prog 27 #[.slice a zs.length cap, .int .i64 f] w fun e w' => e = .returned (.bool (lsB f zs)) ∧ Below w.heap.size w w' := by
  have KA : Hid _ := areNodes_any 0 f (.slice none 0 0) a zs.length cap zs w h hf hn
  obtain ⟨n, HN⟩ : ∃ x, Hid (zs.length = x) := ⟨_, rfl⟩
  unfold lsB
  rw [HN.out] at KA ⊢
  clear h hf
  by_cases hl : (n : Int) ≤ f
  · rw [decide_eq_true hl, Bool.true_and]
    go_enter Try.func27, Try.ntmps27
    go_wp2_with fail
    refine Calls.mono KA.out ?_
    rintro e w1 ⟨rfl, b1⟩
    go_wp2
    go_ret
    exact ⟨rfl, b1⟩
  · rw [decide_eq_false hl, Bool.false_and]
    go_enter Try.func27, Try.ntmps27
    go_wp2
    go_ret
    exact ⟨rfl, Below.refl _ _⟩
set_option maxHeartbeats 4000000 in
theorem netStart_no (f : Int) (a : Option Addr) (cap : Nat) (zs : List Int) (w : World) (h : IntsAt w a zs.length zs) (hn : zs.length ≤ 1048576) (hb : nsB f zs = false) :
    Calls Try.prog 13 #[.int .i64 f, .slice a zs.length cap] w fun e w' => e = .returned (.tuple #[ntV 0 (.slice none 0 0) (.slice none 0 0) (.slice none 0 0), .bool false]) ∧ Below w.heap.size w w' := by
  obtain ⟨D, HD⟩ : ∃ x, Hid (x = w.heap.size) := ⟨_, rfl⟩
  obtain ⟨w0, HW0⟩ : ∃ x, Hid (x = w.alloc (.cells #[.int .i64 0, .slice none 0 0, .slice none 0 0, .slice none 0 0] 26)) := ⟨_, rfl⟩
  have RD : Hid (Row w0 D 26 #[.int .i64 0, .slice none 0 0, .slice none 0 0, .slice none 0 0]) := by show Row _ _ _ _; rw [HW0.out, HD.out]; exact Row.new w _ _
  have b0 : Below w.heap.size w w0 := by rw [HW0.out]; exact (Below.refl _ _).alloc (Nat.le_refl _) _
  have KB0 : Hid (Below w.heap.size w w0) := b0
  have hDw : w.heap.size ≤ D := by rw [HD.out]; exact Nat.le_refl _
  have KI : Hid (∀ W, Calls Try.prog 26 #[.int .i64 f] W fun e w' => e = .returned (.bool (fB f)) ∧ w' = W) := fun W => isF_any f W
  cases hf : fB f with
  | false =>
    rw [hf] at KI
    clear b0 h
    go_enter Try.func13, Try.ntmps13
    go_wp2_with (go_at_call 26; refine Calls.mono (KI.out _) ?_; rintro e w' ⟨rfl, hw⟩; obtain rfl := hw.symm; clear hw)
    refine bodyPost_ret (v := .tuple #[ntV 0 (.slice none 0 0) (.slice none 0 0) (.slice none 0 0), .bool false]) (by simp [results, Try.results13, go_sem]) rfl ⟨rfl, (Below.refl _ _).alloc (Nat.le_refl _) _⟩
  | true =>
    rw [hf] at KI
    have hf' : 1 ≤ f ∧ f ≤ 3 := of_decide_eq_true hf
    have e0 : lsB f zs = false := by unfold nsB at hb; rw [hf, Bool.true_and] at hb; exact hb
    have KN : Hid _ := areLi_any f a cap zs w0 (h.below b0) hf' hn
    rw [e0] at KN
    obtain ⟨n, HN⟩ : ∃ x, Hid (zs.length = x) := ⟨_, rfl⟩
    rw [HN.out] at KN ⊢
    clear b0 h hf hf' e0 hb
    go_enter Try.func13, Try.ntmps13
    go_wp2_with (first | (go_at_call 26; refine Calls.mono (KI.out _) ?_; rintro e w' ⟨rfl, hw⟩; obtain rfl := hw.symm; clear hw) | (go_at_call 27; rw [← HW0.out, ← HD.out]; refine Calls.mono KN.out ?_; rintro e w1 ⟨rfl, b1⟩; have R1 := RD.out.below b1 RD.out.lt; have x0 := R1.cell 0; have x1 := R1.cell 1; have x2 := R1.cell 2; have x3 := R1.cell 3; have f0 := R1.free 0; have f1 := R1.free 1; have f2 := R1.free 2; have f3 := R1.free 3; simp at x0 x1 x2 x3; have HR3 : Hid (Row ((((w1.setCell ⟨D, 0, none⟩ (.int .i64 0)).setCell ⟨D, 1, none⟩ (.slice none 0 0)).setCell ⟨D, 2, none⟩ (.slice none 0 0)).setCell ⟨D, 3, none⟩ (.slice none 0 0)) D 26 #[.int .i64 0, .slice none 0 0, .slice none 0 0, .slice none 0 0]) := (((R1.set 0 _).set 1 _).set 2 _).set 3 _; have HB3 : Hid (Below w.heap.size w ((((w1.setCell ⟨D, 0, none⟩ (.int .i64 0)).setCell ⟨D, 1, none⟩ (.slice none 0 0)).setCell ⟨D, 2, none⟩ (.slice none 0 0)).setCell ⟨D, 3, none⟩ (.slice none 0 0))) := Below.setCell (Below.setCell (Below.setCell (Below.setCell (below2 KB0.out b1) hDw _) hDw _) hDw _) hDw _; clear R1 b1))
    refine bodyPost_ret (v := .tuple #[ntV 0 (.slice none 0 0) (.slice none 0 0) (.slice none 0 0), .bool false]) (by
      have p0 := HR3.out.cell 0
      have p1 := HR3.out.cell 1
      have p2 := HR3.out.cell 2
      have p3 := HR3.out.cell 3
      simp at p0 p1 p2 p3
      simp [results, Try.results13, go_sem, p0, p1, p2, p3]) rfl ⟨rfl, HB3.out⟩
end Go.Proofs.Ytpomffkpjldloaa
