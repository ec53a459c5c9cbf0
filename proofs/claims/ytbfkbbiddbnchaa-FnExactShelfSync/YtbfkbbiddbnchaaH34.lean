/- Marks laid into lists of nodes and into nets, and asked for. Conditions: lists of at most 2^20. Written by mkmarkn.py. -/
import Derived.Test.YtbfkbbiddbnchaaH32
import Derived.Test.YtbfkbbiddbnchaaH27
import Derived.Test.YtbfkbbiddbnchaaH28
import Derived.Test.YtbfkbbiddbnchaaH22
namespace Go.Proofs.Ytbfkbbiddbnchaa
set_option maxRecDepth 2000
open Go.ChangeShapes Go.WideShapes Go.ChangeAt Go.RowKit

theorem markSls_0 (a : Option Addr) (cap k : Nat) (w : World) : Calls Try.prog 24 #[.slice a 0 cap, .int .i64 (k : Int)] w fun e w' => e = .returned (.int .i64 (k : Int)) ∧ w' = w := by
  go_enter Try.func24, Try.ntmps24
  go_wp2
  go_loopw [1, 5] (fun vk vi wr => vk = .int .i64 (k : Int) ∧ vi = .int .i64 0 ∧ wr = w) (fun _ _ _ => 0)
  case atStart => exact ⟨rfl, rfl, rfl⟩
  case round =>
    obtain ⟨rfl, rfl, hw⟩ := hrel
    obtain rfl := hw.symm
    go_wp2
    go_ret
    exact ⟨rfl, rfl⟩
/-- The two shapes of a list that is ours. -/
theorem ow_shape {w : World} {B t sz n : Nat} {D : Nat → Nat → Dt} {v : Value} {F : Nat → Prop} (h : Ow w B (.lst t sz n D) v F) : (v = .slice none 0 0 ∧ n = 0) ∨ ∃ g cap, v = .slice (some ⟨g, 0, none⟩) n cap := by
  obtain ⟨a, cap, c, G, rfl, ho, _⟩ := h
  rcases ho.2 with ⟨h0, hz⟩ | ⟨g, cap', cur, e, _⟩
  · exact .inl ⟨h0, hz⟩
  · exact .inr ⟨g, cap', e⟩
/-- Marks over a list of slots, by data. -/
theorem markD_sls (B : Nat) (v : Value) (n : Nat) (S : Nat → Sl) (k : Nat) (F : Nat → Prop) (w : World) (h : Ow w B (slsD n S) v F) (hn : n ≤ 1048576) (hm : ∀ i, i < n → SlS (S i)) (hk : k + tot (fun i => wkS (S i)) n ≤ 40000000) :
    Calls Try.prog 24 #[v, .int .i64 (k : Int)] w fun e w' => e = .returned (.int .i64 ((k + tot (fun i => wkS (S i)) n : Nat) : Int)) ∧ Ow w' B (slsD n (mkL k S)) v F ∧ Trn w w' F := by
  rcases ow_shape h with ⟨rfl, rfl⟩ | ⟨g, cap, rfl⟩
  · refine (markSls_0 none 0 k w).mono ?_
    rintro e w' ⟨rfl, rfl⟩
    exact ⟨rfl, Ow.nil _ _ _ _ _ _, Trn.refl _ _⟩
  · exact markSlsF_any B g n cap F S k w h hn hm hk
end Go.Proofs.Ytbfkbbiddbnchaa
/- One node, marked and asked for, all told. Conditions: lists of at most 2^20. -/
namespace Go.Proofs.Ytbfkbbiddbnchaa
set_option maxRecDepth 2000
open Go.ChangeShapes Go.WideShapes Go.ChangeAt Go.RowKit

set_option maxHeartbeats 1000000 in
theorem markNdF_any (id f : Int) (B : Nat) (a : Option Addr) (n c : Nat) (S : Nat → Sl) (k q : Nat) (F : Nat → Prop) (w : World) (h : Ow w B (slsD n S) (.slice a n c) F) (hn : n ≤ 1048576) (hm : ∀ i, i < n → SlS (S i)) (hq : k + tot (fun i => wkS (S i)) n = q) (hk : q ≤ 40000000) :
    Calls Try.prog 16 #[ndV id f (.slice a n c), .int .i64 (k : Int)] w fun e w' => e = .returned (.int .i64 (q : Int)) ∧ Ow w' B (slsD n (mkL k S)) (.slice a n c) F ∧ Trn w w' F := by
  obtain ⟨w0, HW0⟩ : ∃ x, Hid (x = w.alloc (.cells #[.int .i64 id, .int .i64 f, .slice a n c] 30)) := ⟨_, rfl⟩
  have hb0 : Below w.heap.size w w0 := by rw [HW0.out]; exact (Below.refl _ _).alloc (Nat.le_refl _) _
  have KT0 : Hid (Trn w w0 F) := Trn.ofBelow F hb0
  have KM : Hid (Calls Try.prog 24 #[.slice a n c, .int .i64 (k : Int)] w0 _) := markD_sls B (.slice a n c) n S k F w0 (h.below hb0) hn hm (by rw [hq]; exact hk)
  rw [hq] at KM
  clear h hb0 hm hk hq
  go_enter Try.func16, Try.ntmps16
  go_wp2_with fail
  rw [← HW0.out]
  refine Calls.mono KM.out ?_
  rintro e w1 ⟨rfl, hO, hT⟩
  have KT : Hid (Ow w1 B (slsD n (mkL k S)) (.slice a n c) F ∧ Trn w w1 F) := ⟨hO, KT0.out.trans hT⟩
  clear hT hO
  go_wp2
  go_ret
  exact ⟨rfl, KT.out.1, KT.out.2⟩
set_option maxHeartbeats 1000000 in
theorem heldNdF_any (id f : Int) (a : Option Addr) (n c : Nat) (S : Nat → Sl) (k q : Nat) (w : World) (h : Rd w (slsD n (mkL k S)) (.slice a n c)) (hn : n ≤ 1048576) (hm : ∀ i, i < n → SlS (S i)) (hq : k + tot (fun i => wkS (S i)) n = q) (hk : q ≤ 40000000) :
    Calls Try.prog 17 #[ndV id f (.slice a n c), .int .i64 (k : Int)] w fun e w' => e = .returned (.int .i64 (q : Int)) ∧ Below w.heap.size w w' := by
  obtain ⟨w0, HW0⟩ : ∃ x, Hid (x = w.alloc (.cells #[.int .i64 id, .int .i64 f, .slice a n c] 30)) := ⟨_, rfl⟩
  have hb0 : Below w.heap.size w w0 := by rw [HW0.out]; exact (Below.refl _ _).alloc (Nat.le_refl _) _
  have KB0 : Hid (Below w.heap.size w w0) := hb0
  have KM : Hid (Calls Try.prog 25 #[.slice a n c, .int .i64 (k : Int)] w0 _) := heldSlsF_any a n c S k w0 (h.below hb0) hn hm (by rw [hq]; exact hk)
  rw [hq] at KM
  have nq : ¬ ((q : Int) < 0) := by omega
  clear h hb0 hm hk hq
  go_enter Try.func17, Try.ntmps17
  go_wp2_with fail
  rw [← HW0.out]
  refine Calls.mono KM.out ?_
  rintro e w1 ⟨rfl, b1⟩
  go_wp2
  go_ret
  exact ⟨rfl, below2 KB0.out b1⟩
end Go.Proofs.Ytbfkbbiddbnchaa
