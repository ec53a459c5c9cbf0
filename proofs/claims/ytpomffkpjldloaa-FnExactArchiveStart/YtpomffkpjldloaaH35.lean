/- A net's start in the model. Conditions: lists of at most 2^20. -/
import Derived.Test.YtpomffkpjldloaaH32
import Derived.Test.YtpomffkpjldloaaH29
import Derived.Test.YtpomffkpjldloaaH19
import Derived.Test.YtpomffkpjldloaaH30
namespace Go.Proofs.Ytpomffkpjldloaa
set_option maxRecDepth 2000
open Go.ChangeShapes Go.WideShapes Go.ChangeAt Go.RowKit

/-- A node at its start. -/
def nd0 (f : Int) (i : Nat) : Nd := ⟨(i : Int), f, 0, fun _ => slZ⟩
/-- Whether a net may start so. -/
noncomputable def lsB (f : Int) (zs : List Int) : Bool := decide ((zs.length : Int) ≤ f) && numB f zs
noncomputable def nsB (f : Int) (zs : List Int) : Bool := fB f && lsB f zs
set_option maxHeartbeats 4000000 in
theorem sNetStart_no (f : Int) (a : Option Addr) (cap : Nat) (zs : List Int) (w : World) (h : IntsAt w a zs.length zs) (hn : zs.length ≤ 1048576) (hb : nsB f zs = false) :
    Calls Try.prog 12 #[.int .i64 f, .slice a zs.length cap] w fun e w' => e = .returned (.tuple #[ntV 0 (.slice none 0 0) (.slice none 0 0) (.slice none 0 0), .bool false]) ∧ Below w.heap.size w w' := by
  obtain ⟨D, HD⟩ : ∃ x, Hid (x = w.heap.size) := ⟨_, rfl⟩
  obtain ⟨w0, HW0⟩ : ∃ x, Hid (x = w.alloc (.cells #[.int .i64 0, .slice none 0 0, .slice none 0 0, .slice none 0 0] 26)) := ⟨_, rfl⟩
  have RD : Hid (Row w0 D 26 #[.int .i64 0, .slice none 0 0, .slice none 0 0, .slice none 0 0]) := by show Row _ _ _ _; rw [HW0.out, HD.out]; exact Row.new w _ _
  have b0 : Below w.heap.size w w0 := by rw [HW0.out]; exact (Below.refl _ _).alloc (Nat.le_refl _) _
  have KB0 : Hid (Below w.heap.size w w0) := b0
  have hDw : w.heap.size ≤ D := by rw [HD.out]; exact Nat.le_refl _
  have KI : Hid (∀ W, Calls Try.prog 23 #[.int .i64 f, .int .i64 1, .int .i64 3] W fun e w' => e = .returned (.bool (inB f 1 3)) ∧ w' = W) := fun W => sIn_any f 1 3 W
  by_cases hf : 1 ≤ f ∧ f ≤ 3
  case neg =>
    have i1 : inB f 1 3 = false := decide_eq_false hf
    rw [i1] at KI
    clear b0 h
    go_enter Try.func12, Try.ntmps12
    go_wp2_with (go_at_call 23; refine Calls.mono (KI.out _) ?_; rintro e w' ⟨rfl, hw⟩; obtain rfl := hw.symm; clear hw)
    refine bodyPost_ret (v := .tuple #[ntV 0 (.slice none 0 0) (.slice none 0 0) (.slice none 0 0), .bool false]) (by simp [results, Try.results12, go_sem]) rfl ⟨rfl, (Below.refl _ _).alloc (Nat.le_refl _) _⟩
  have i1 : inB f 1 3 = true := decide_eq_true hf
  rw [i1] at KI
  have KN : Hid _ := sNums_any f a zs.length cap zs w0 (h.below b0) hf hn
  have e0 : lsB f zs = false := by unfold nsB fB at hb; rw [decide_eq_true hf, Bool.true_and] at hb; exact hb
  unfold lsB at e0
  obtain ⟨n, HN⟩ : ∃ x, Hid (zs.length = x) := ⟨_, rfl⟩
  rw [HN.out] at KN e0 ⊢
  clear b0 h i1
  cases hnu : numB f zs with
  | false =>
    rw [hnu] at KN
    clear e0
    go_enter Try.func12, Try.ntmps12
    go_wp2_with (first | (go_at_call 23; refine Calls.mono (KI.out _) ?_; rintro e w' ⟨rfl, hw⟩; obtain rfl := hw.symm; clear hw) | (go_at_call 24; rw [← HW0.out, ← HD.out]; refine Calls.mono KN.out ?_; rintro e w1 ⟨rfl, b1⟩; have R1 := RD.out.below b1 RD.out.lt; have x0 := R1.cell 0; have x1 := R1.cell 1; have x2 := R1.cell 2; have x3 := R1.cell 3; have f0 := R1.free 0; have f1 := R1.free 1; have f2 := R1.free 2; have f3 := R1.free 3; simp at x0 x1 x2 x3; have HR3 : Hid (Row ((((w1.setCell ⟨D, 0, none⟩ (.int .i64 0)).setCell ⟨D, 1, none⟩ (.slice none 0 0)).setCell ⟨D, 2, none⟩ (.slice none 0 0)).setCell ⟨D, 3, none⟩ (.slice none 0 0)) D 26 #[.int .i64 0, .slice none 0 0, .slice none 0 0, .slice none 0 0]) := (((R1.set 0 _).set 1 _).set 2 _).set 3 _; have HB3 : Hid (Below w.heap.size w ((((w1.setCell ⟨D, 0, none⟩ (.int .i64 0)).setCell ⟨D, 1, none⟩ (.slice none 0 0)).setCell ⟨D, 2, none⟩ (.slice none 0 0)).setCell ⟨D, 3, none⟩ (.slice none 0 0))) := Below.setCell (Below.setCell (Below.setCell (Below.setCell (below2 KB0.out b1) hDw _) hDw _) hDw _) hDw _; clear R1 b1))
    refine bodyPost_ret (v := .tuple #[ntV 0 (.slice none 0 0) (.slice none 0 0) (.slice none 0 0), .bool false]) (by
      have p0 := HR3.out.cell 0
      have p1 := HR3.out.cell 1
      have p2 := HR3.out.cell 2
      have p3 := HR3.out.cell 3
      simp at p0 p1 p2 p3
      simp [results, Try.results12, go_sem, p0, p1, p2, p3]) rfl ⟨rfl, HB3.out⟩
  | true =>
    rw [hnu] at KN e0
    have hgt : (n : Int) > f := by
      rw [Bool.and_true] at e0
      have := of_decide_eq_false e0
      omega
    clear e0
    go_enter Try.func12, Try.ntmps12
    go_wp2_with (first | (go_at_call 23; refine Calls.mono (KI.out _) ?_; rintro e w' ⟨rfl, hw⟩; obtain rfl := hw.symm; clear hw) | (go_at_call 24; rw [← HW0.out, ← HD.out]; refine Calls.mono KN.out ?_; rintro e w1 ⟨rfl, b1⟩; have R1 := RD.out.below b1 RD.out.lt; have x0 := R1.cell 0; have x1 := R1.cell 1; have x2 := R1.cell 2; have x3 := R1.cell 3; have f0 := R1.free 0; have f1 := R1.free 1; have f2 := R1.free 2; have f3 := R1.free 3; simp at x0 x1 x2 x3; have HR3 : Hid (Row ((((w1.setCell ⟨D, 0, none⟩ (.int .i64 0)).setCell ⟨D, 1, none⟩ (.slice none 0 0)).setCell ⟨D, 2, none⟩ (.slice none 0 0)).setCell ⟨D, 3, none⟩ (.slice none 0 0)) D 26 #[.int .i64 0, .slice none 0 0, .slice none 0 0, .slice none 0 0]) := (((R1.set 0 _).set 1 _).set 2 _).set 3 _; have HB3 : Hid (Below w.heap.size w ((((w1.setCell ⟨D, 0, none⟩ (.int .i64 0)).setCell ⟨D, 1, none⟩ (.slice none 0 0)).setCell ⟨D, 2, none⟩ (.slice none 0 0)).setCell ⟨D, 3, none⟩ (.slice none 0 0))) := Below.setCell (Below.setCell (Below.setCell (Below.setCell (below2 KB0.out b1) hDw _) hDw _) hDw _) hDw _; clear R1 b1))
    refine bodyPost_ret (v := .tuple #[ntV 0 (.slice none 0 0) (.slice none 0 0) (.slice none 0 0), .bool false]) (by
      have p0 := HR3.out.cell 0
      have p1 := HR3.out.cell 1
      have p2 := HR3.out.cell 2
      have p3 := HR3.out.cell 3
      simp at p0 p1 p2 p3
      simp [results, Try.results12, go_sem, p0, p1, p2, p3]) rfl ⟨rfl, HB3.out⟩
end Go.Proofs.Ytpomffkpjldloaa
