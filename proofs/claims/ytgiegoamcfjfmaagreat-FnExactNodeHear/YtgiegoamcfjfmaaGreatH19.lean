/- One saying that the exact laws mark. Conditions: lists of at most 2^20. -/
import Derived.Test.YtgiegoamcfjfmaaGreatH13
import Derived.Test.YtgiegoamcfjfmaaGreatH17
namespace Go.Proofs.YtgiegoamcfjfmaaGreat
set_option maxRecDepth 2000
open Go.ChangeShapes Go.WideShapes Go.ChangeAt Go.RowKit

set_option maxHeartbeats 1000000 in
theorem markPcO_any (r : ByteArray) (k n i : Int) (b : ByteArray) (B : Nat) (v : Value) (m : Nat) (S : Nat → ByteArray) (l q : Nat) (F : Nat → Prop) (w : World) (h : Ow w B (txD m S) v F) (hm : m ≤ 1048576) (hk : l ≤ 50000000) (hq : l + m = q) :
    Calls Tryz.prog 79 #[pcV r k n i b v, .int .i64 (l : Int)] w fun e w' => e = .returned (.int .i64 (q : Int)) ∧ Trn w w' F := by
  obtain ⟨w0, HW0⟩ : ∃ x, Hid (x = w.alloc (.cells (pcC r k n i b v) 39)) := ⟨_, rfl⟩
  have hb0 : Below w.heap.size w w0 := by rw [HW0.out]; exact (Below.refl _ _).alloc (Nat.le_refl _) _
  have KT0 : Hid (Trn w w0 F) := Trn.ofBelow F hb0
  have KM : Hid (Calls Tryz.prog 81 #[v, .int .i64 (l : Int)] w0 _) := markD_txt B v m S l q F w0 (h.below hb0) hm hk hq
  clear h hb0 hm hk hq
  go_enter Tryz.func79, Tryz.ntmps79
  go_wp2_with fail
  rw [← HW0.out]
  refine Calls.mono KM.out ?_
  rintro e w1 ⟨rfl, _, hT⟩
  have KT : Hid (Trn w w1 F) := KT0.out.trans hT
  clear hT
  go_wp2
  go_ret
  exact ⟨rfl, KT.out⟩
set_option maxHeartbeats 1000000 in
theorem markSyO_any (y : Sy) (B : Nat) (v : Value) (l q : Nat) (F : Nat → Prop) (w : World) (h : Ow w B (txD y.p.m y.p.S) v F) (hm : y.p.m ≤ 1048576) (hk : l ≤ 50000000) (hq : l + y.p.m = q) :
    Calls Tryz.prog 19 #[syV y v, .int .i64 (l : Int)] w fun e w' => e = .returned (.int .i64 (q : Int)) ∧ Trn w w' F := by
  obtain ⟨w0, HW0⟩ : ∃ x, Hid (x = w.alloc (.cells (syC y v) 41)) := ⟨_, rfl⟩
  have hb0 : Below w.heap.size w w0 := by rw [HW0.out]; exact (Below.refl _ _).alloc (Nat.le_refl _) _
  have KT0 : Hid (Trn w w0 F) := Trn.ofBelow F hb0
  have KM : Hid (Calls Tryz.prog 79 #[pcV y.p.r y.p.k y.p.n y.p.i y.p.b v, .int .i64 (l : Int)] w0 _) := markPcO_any y.p.r y.p.k y.p.n y.p.i y.p.b B v y.p.m y.p.S l q F w0 (h.below hb0) hm hk hq
  clear h hb0 hm hk hq
  go_enter Tryz.func19, Tryz.ntmps19
  go_wp2_with fail
  rw [← HW0.out]
  refine Calls.mono KM.out ?_
  rintro e w1 ⟨rfl, hT⟩
  have KT : Hid (Trn w w1 F) := KT0.out.trans hT
  clear hT
  go_wp2
  go_ret
  exact ⟨rfl, KT.out⟩
end Go.Proofs.YtgiegoamcfjfmaaGreat
