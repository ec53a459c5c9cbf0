/- One node, marked and asked for, all told. Conditions: lists of at most 2^20. -/
import Derived.Test.YtgiegoamcfjfmaaGreatH29
import Derived.Test.YtgiegoamcfjfmaaGreatH18
namespace Go.Proofs.YtgiegoamcfjfmaaGreat
set_option maxRecDepth 2000
open Go.ChangeShapes Go.WideShapes Go.ChangeAt Go.RowKit

set_option maxHeartbeats 1000000 in
theorem markNdF_any (id f : Int) (B : Nat) (a : Option Addr) (n c : Nat) (S : Nat → Sl) (k q : Nat) (F : Nat → Prop) (w : World) (h : Ow w B (slsD n S) (.slice a n c) F) (hn : n ≤ 1048576) (hm : ∀ i, i < n → SlS (S i)) (hq : k + tot (fun i => wkS (S i)) n = q) (hk : q ≤ 40000000) :
    Calls Tryz.prog 18 #[ndV id f (.slice a n c), .int .i64 (k : Int)] w fun e w' => e = .returned (.int .i64 (q : Int)) ∧ Ow w' B (slsD n (mkL k S)) (.slice a n c) F ∧ Trn w w' F := by
  obtain ⟨w0, HW0⟩ : ∃ x, Hid (x = w.alloc (.cells #[.int .i64 id, .int .i64 f, .slice a n c] 34)) := ⟨_, rfl⟩
  have hb0 : Below w.heap.size w w0 := by rw [HW0.out]; exact (Below.refl _ _).alloc (Nat.le_refl _) _
  have KT0 : Hid (Trn w w0 F) := Trn.ofBelow F hb0
  have KM : Hid (Calls Tryz.prog 78 #[.slice a n c, .int .i64 (k : Int)] w0 _) := markD_sls B (.slice a n c) n S k F w0 (h.below hb0) hn hm (by rw [hq]; exact hk)
  rw [hq] at KM
  clear h hb0 hm hk hq
  go_enter Tryz.func18, Tryz.ntmps18
  go_wp2_with fail
  rw [← HW0.out]
  refine Calls.mono KM.out ?_
  rintro e w1 ⟨rfl, hO, hT⟩
  have KT : Hid (Ow w1 B (slsD n (mkL k S)) (.slice a n c) F ∧ Trn w w1 F) := ⟨hO, KT0.out.trans hT⟩
  clear hT hO
  go_wp2
  go_ret
  exact ⟨rfl, KT.out.1, KT.out.2⟩
set_option maxHeartbeats 1000000 in
theorem heldNdF_any (id f : Int) (a : Option Addr) (n c : Nat) (S : Nat → Sl) (k q : Nat) (w : World) (h : Rd w (slsD n (mkL k S)) (.slice a n c)) (hn : n ≤ 1048576) (hm : ∀ i, i < n → SlS (S i)) (hq : k + tot (fun i => wkS (S i)) n = q) (hk : q ≤ 40000000) :
    Calls Tryz.prog 21 #[ndV id f (.slice a n c), .int .i64 (k : Int)] w fun e w' => e = .returned (.int .i64 (q : Int)) ∧ Below w.heap.size w w' := by
  obtain ⟨w0, HW0⟩ : ∃ x, Hid (x = w.alloc (.cells #[.int .i64 id, .int .i64 f, .slice a n c] 34)) := ⟨_, rfl⟩
  have hb0 : Below w.heap.size w w0 := by rw [HW0.out]; exact (Below.refl _ _).alloc (Nat.le_refl _) _
  have KB0 : Hid (Below w.heap.size w w0) := hb0
  have KM : Hid (Calls Tryz.prog 82 #[.slice a n c, .int .i64 (k : Int)] w0 _) := heldSlsF_any a n c S k w0 (h.below hb0) hn hm (by rw [hq]; exact hk)
  rw [hq] at KM
  have nq : ¬ ((q : Int) < 0) := by omega
  clear h hb0 hm hk hq
  go_enter Tryz.func21, Tryz.ntmps21
  go_wp2_with fail
  rw [← HW0.out]
  refine Calls.mono KM.out ?_
  rintro e w1 ⟨rfl, b1⟩
  go_wp2
  go_ret
  exact ⟨rfl, below2 KB0.out b1⟩
end Go.Proofs.YtgiegoamcfjfmaaGreat
