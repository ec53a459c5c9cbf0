/- The program's frame round a text, the pieces that it is cut into, the sums of all rows, and what is made of a text. Conditions stand at each. -/
import Derived.Test.YtpempddpenpbhaaDoorH34
import Derived.Test.YtpempddpenpbhaaDoorH33
import Derived.Test.YtpempddpenpbhaaDoorH31
import Derived.Lib.BufferWrite
import Derived.Laws.CopyOwn
import Derived.Test.YtpempddpenpbhaaDoorH11
namespace Go.Proofs.YtpempddpenpbhaaDoor
set_option maxRecDepth 2000
open Go.ChangeShapes Go.WideShapes Go.ChangeAt Go.RowKit

theorem OwnB.heap {w : World} {B g n : Nat} {f : Nat → Nat} (h : OwnB w B g n n f) : w.heap[g]? = some (.cells ((eI f n).map (Value.int .u8)).toArray 5 (0, 0)) ∧ B ≤ g ∧ n ≤ maxLen := by
  rcases h.2 with ⟨e, _⟩ | ⟨g', cap, cur, e, hB, hg, hn, hm, hs, ht⟩
  · cases e
  · cases e
    have e2 : cur.toList.take (n * 1) = cur.toList := List.take_of_length_le (by rw [Array.length_toList, hs]; exact Nat.le_refl _)
    rw [e2] at ht
    refine ⟨?_, hB, hm⟩
    rw [hg, ← ht]
theorem OwnB.of {w : World} {B g n : Nat} {f : Nat → Nat} (h : w.heap[g]? = some (.cells ((eI f n).map (Value.int .u8)).toArray 5 (0, 0))) (hB : B ≤ g) (hm : n ≤ maxLen) : OwnB w B g n n f :=
  ⟨by simp [eI_len], .inr ⟨g, n, _, rfl, hB, h, Nat.le_refl _, hm, by simp [eI_len], by rw [List.take_of_length_le (by simp [eI_len])]⟩⟩
end Go.Proofs.YtpempddpenpbhaaDoor
/- The program's sums of all rows, over pieces and over texts; the pieces that a whole is cut into. Conditions stand at each. -/
namespace Go.Proofs.YtpempddpenpbhaaDoor
set_option maxRecDepth 2000
open Go.ChangeShapes Go.WideShapes Go.ChangeAt Go.RowKit

end Go.Proofs.YtpempddpenpbhaaDoor
/- The pieces that a whole is cut into; what the program makes of a text. Conditions: as the document has them, at most 2^20 bytes. -/
namespace Go.Proofs.YtpempddpenpbhaaDoor
set_option maxRecDepth 2000
open Go.ChangeShapes Go.WideShapes Go.ChangeAt Go.RowKit

theorem sprOk_parts {k n : Int} (h : sprOk k n = true) : 1 ≤ k ∧ k ≤ n ∧ n ≤ 16 := by
  have : (1 ≤ n ∧ n ≤ 16) ∧ 1 ≤ k ∧ k ≤ n := by simpa [sprOk, side] using h
  omega
end Go.Proofs.YtpempddpenpbhaaDoor
/- The model's sums of all rows over texts; whether two numbers are sides. Conditions: at most 16 texts of at most 2^20 bytes. -/
namespace Go.Proofs.YtpempddpenpbhaaDoor
set_option maxRecDepth 2000
open Go.ChangeShapes Go.WideShapes Go.ChangeAt Go.RowKit

set_option maxHeartbeats 400000 in
theorem s4Ok_any (k n : Int) (w : World) : Calls Tryd.prog 20 #[.int .i64 k, .int .i64 n] w fun e w' => e = .returned (.bool (sprOk k n)) ∧ w' = w := by
  have HE : Hid (sprOk k n = (inB n 1 16 && inB k 1 n)) := by show _ = _; unfold sprOk side inB; rfl
  cases h1 : inB n 1 16 with
  | false =>
    have HF : Hid (sprOk k n = false) := by show _ = _; rw [HE.out, h1]; rfl
    go_enter Tryd.func20, Tryd.ntmps20
    go_wp2_with (go_at_call 21; refine (sIn_any _ _ _ _).mono ?_; rintro e w' ⟨rfl, hw⟩; obtain rfl := hw.symm)
    go_ret
    exact ⟨ret_bool HF.out.symm, rfl⟩
  | true =>
    have HF : Hid (sprOk k n = inB k 1 n) := by show _ = _; rw [HE.out, h1]; rfl
    generalize inB k 1 n = b at HF
    obtain ⟨b, hb⟩ : ∃ b, inB k 1 n = b := ⟨_, rfl⟩
    go_enter Tryd.func20, Tryd.ntmps20
    go_wp2_with (go_at_call 21; refine (sIn_any _ _ _ _).mono ?_; rintro e w' ⟨rfl, hw⟩; obtain rfl := hw.symm)
    go_ret
    exact ⟨ret_bool (by rw [HE.out, h1]; simp [hb]), rfl⟩
end Go.Proofs.YtpempddpenpbhaaDoor
