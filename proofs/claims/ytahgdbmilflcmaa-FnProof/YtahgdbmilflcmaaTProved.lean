/- Whether a proof leads to a root, in the program and in its model: what each answers. Conditions: at most 2^20 texts. -/
import Derived.Test.YtahgdbmilflcmaaTPRootS
namespace Go.Proofs.Ytahgdbmilflcmaa
set_option maxRecDepth 2000
open Go.ChangeShapes Go.WideShapes Go.ChangeAt Go.RowKit

/-- Whether a leaf and a proof are so and lead to a root. -/
def pvB (r x : ByteArray) (i n : Int) (k : Nat) (S : Nat → ByteArray) : Bool := prB x i n k S && decide (prS x i n k S = r)
set_option maxHeartbeats 1000000 in
theorem proved_any (r x : ByteArray) (i n : Int) (a : Option Addr) (k cap : Nat) (S : Nat → ByteArray) (w : World) (h : TxtAt w a k S) (hk : k ≤ 1048576) (hL : ∀ i, i < k → (S i).size ≤ maxLen) :
    Calls Try.prog 19 #[.string r, .string x, .int .i64 i, .int .i64 n, .slice a k cap] w fun e w' => e = .returned (.bool (pvB r x i n k S)) ∧ Below w.heap.size w w' := by
  have KP : Hid (Calls Try.prog 49 #[.string x, .int .i64 i, .int .i64 n, .slice a k cap] w fun e w' => e = .returned (.tuple #[.string (prS x i n k S), .bool (prB x i n k S)]) ∧ Below w.heap.size w w') := proofRoot_any x i n a k cap S w h hk hL
  unfold pvB
  clear h hL
  generalize prS x i n k S = z at KP
  generalize prB x i n k S = d at KP
  cases d with
  | false =>
    go_enter Try.func19, Try.ntmps19
    go_wp2_with fail
    refine KP.out.mono ?_
    rintro e w1 ⟨rfl, hb⟩
    go_wp2
    go_ret
    exact ⟨rfl, hb⟩
  | true =>
    by_cases hz : z = r
    · subst hz
      have hq := ba_beq z
      go_enter Try.func19, Try.ntmps19
      go_wp2_with fail
      refine KP.out.mono ?_
      rintro e w1 ⟨rfl, hb⟩
      go_wp2
      go_ret
      exact ⟨by simp, hb⟩
    · have hq := ba_ne hz
      have HZ : Hid (decide (z = r) = false) := by show _ = _; simpa using hz
      clear hz
      go_enter Try.func19, Try.ntmps19
      go_wp2_with fail
      refine KP.out.mono ?_
      rintro e w1 ⟨rfl, hb⟩
      go_wp2
      go_ret
      exact ⟨by rw [HZ.out]; rfl, hb⟩
set_option maxHeartbeats 1000000 in
theorem sProved_any (r x : ByteArray) (i n : Int) (a : Option Addr) (k cap : Nat) (S : Nat → ByteArray) (w : World) (h : TxtAt w a k S) (hk : k ≤ 1048576) (hL : ∀ i, i < k → (S i).size ≤ maxLen) :
    Calls Try.prog 20 #[.string r, .string x, .int .i64 i, .int .i64 n, .slice a k cap] w fun e w' => e = .returned (.bool (pvB r x i n k S)) ∧ Below w.heap.size w w' := by
  have KP : Hid (Calls Try.prog 50 #[.string x, .int .i64 i, .int .i64 n, .slice a k cap] w fun e w' => e = .returned (.tuple #[.string (prS x i n k S), .bool (prB x i n k S)]) ∧ Below w.heap.size w w') := sProofRoot_any x i n a k cap S w h hk hL
  unfold pvB
  clear h hL
  generalize prS x i n k S = z at KP
  generalize prB x i n k S = d at KP
  cases d with
  | false =>
    go_enter Try.func20, Try.ntmps20
    go_wp2_with fail
    refine KP.out.mono ?_
    rintro e w1 ⟨rfl, hb⟩
    go_wp2
    go_ret
    exact ⟨rfl, hb⟩
  | true =>
    by_cases hz : z = r
    · subst hz
      have hq := ba_beq z
      go_enter Try.func20, Try.ntmps20
      go_wp2_with fail
      refine KP.out.mono ?_
      rintro e w1 ⟨rfl, hb⟩
      go_wp2
      go_ret
      exact ⟨by simp, hb⟩
    · have hq := ba_ne hz
      have HZ : Hid (decide (z = r) = false) := by show _ = _; simpa using hz
      clear hz
      go_enter Try.func20, Try.ntmps20
      go_wp2_with fail
      refine KP.out.mono ?_
      rintro e w1 ⟨rfl, hb⟩
      go_wp2
      go_ret
      exact ⟨by rw [HZ.out]; rfl, hb⟩
end Go.Proofs.Ytahgdbmilflcmaa
