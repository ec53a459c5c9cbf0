/- Whether a proof leads to a root, in the program and in its model: what each answers. Conditions: at most 2^20 texts. -/
import Derived.Test.YtpempddpenpbhaaDoorH38
namespace Go.Proofs.YtpempddpenpbhaaDoor
set_option maxRecDepth 2000
open Go.ChangeShapes Go.WideShapes Go.ChangeAt Go.RowKit

/-- Whether a leaf and a proof are so and lead to a root. -/
def pvB (r x : ByteArray) (i n : Int) (k : Nat) (S : Nat → ByteArray) : Bool := prB x i n k S && decide (prS x i n k S = r)
set_option maxHeartbeats 1000000 in
theorem proved_any (r x : ByteArray) (i n : Int) (a : Option Addr) (k cap : Nat) (S : Nat → ByteArray) (w : World) (h : TxtAt w a k S) (hk : k ≤ 1048576) (hL : ∀ i, i < k → (S i).size ≤ maxLen) :
    Calls Tryd.prog 28 #[.string r, .string x, .int .i64 i, .int .i64 n, .slice a k cap] w fun e w' => e = .returned (.bool (pvB r x i n k S)) ∧ Below w.heap.size w w' := by
  have KP : Hid (Calls Tryd.prog 41 #[.string x, .int .i64 i, .int .i64 n, .slice a k cap] w fun e w' => e = .returned (.tuple #[.string (prS x i n k S), .bool (prB x i n k S)]) ∧ Below w.heap.size w w') := proofRoot_any x i n a k cap S w h hk hL
  unfold pvB
  clear h hL
  generalize prS x i n k S = z at KP
  generalize prB x i n k S = d at KP
  cases d with
  | false =>
    go_enter Tryd.func28, Tryd.ntmps28
    go_wp2_with fail
    refine KP.out.mono ?_
    rintro e w1 ⟨rfl, hb⟩
    go_wp2
    go_ret
    exact ⟨rfl, hb⟩
  | true =>
    by_cases hz : z = r
    · subst hz
      have hq := ba_beq z
      go_enter Tryd.func28, Tryd.ntmps28
      go_wp2_with fail
      refine KP.out.mono ?_
      rintro e w1 ⟨rfl, hb⟩
      go_wp2
      go_ret
      exact ⟨by simp, hb⟩
    · have hq := ba_ne hz
      have HZ : Hid (decide (z = r) = false) := by show _ = _; simpa using hz
      clear hz
      go_enter Tryd.func28, Tryd.ntmps28
      go_wp2_with fail
      refine KP.out.mono ?_
      rintro e w1 ⟨rfl, hb⟩
      go_wp2
      go_ret
      exact ⟨by rw [HZ.out]; rfl, hb⟩
set_option maxHeartbeats 1000000 in
theorem sProved_any (r x : ByteArray) (i n : Int) (a : Option Addr) (k cap : Nat) (S : Nat → ByteArray) (w : World) (h : TxtAt w a k S) (hk : k ≤ 1048576) (hL : ∀ i, i < k → (S i).size ≤ maxLen) :
    Calls Tryd.prog 22 #[.string r, .string x, .int .i64 i, .int .i64 n, .slice a k cap] w fun e w' => e = .returned (.bool (pvB r x i n k S)) ∧ Below w.heap.size w w' := by
  have KP : Hid (Calls Tryd.prog 35 #[.string x, .int .i64 i, .int .i64 n, .slice a k cap] w fun e w' => e = .returned (.tuple #[.string (prS x i n k S), .bool (prB x i n k S)]) ∧ Below w.heap.size w w') := sProofRoot_any x i n a k cap S w h hk hL
  unfold pvB
  clear h hL
  generalize prS x i n k S = z at KP
  generalize prB x i n k S = d at KP
  cases d with
  | false =>
    go_enter Tryd.func22, Tryd.ntmps22
    go_wp2_with fail
    refine KP.out.mono ?_
    rintro e w1 ⟨rfl, hb⟩
    go_wp2
    go_ret
    exact ⟨rfl, hb⟩
  | true =>
    by_cases hz : z = r
    · subst hz
      have hq := ba_beq z
      go_enter Tryd.func22, Tryd.ntmps22
      go_wp2_with fail
      refine KP.out.mono ?_
      rintro e w1 ⟨rfl, hb⟩
      go_wp2
      go_ret
      exact ⟨by simp, hb⟩
    · have hq := ba_ne hz
      have HZ : Hid (decide (z = r) = false) := by show _ = _; simpa using hz
      clear hz
      go_enter Tryd.func22, Tryd.ntmps22
      go_wp2_with fail
      refine KP.out.mono ?_
      rintro e w1 ⟨rfl, hb⟩
      go_wp2
      go_ret
      exact ⟨by rw [HZ.out]; rfl, hb⟩
end Go.Proofs.YtpempddpenpbhaaDoor
