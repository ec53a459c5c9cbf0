/- The root that a leaf and a proof lead to, in the program: where they are not so. Conditions: at most 2^20 texts. -/
import Derived.Test.YtahgdbmilflcmaaTSums
import Derived.Test.YtahgdbmilflcmaaTLeaf
namespace Go.Proofs.Ytahgdbmilflcmaa
set_option maxRecDepth 2000
open Go.ChangeShapes Go.WideShapes Go.ChangeAt Go.RowKit Go.Shelf
open Gt (nb hf nm pl pr jn)

/-- Whether a leaf and a proof are so. -/
def prB (x : ByteArray) (i n : Int) (k : Nat) (S : Nat → ByteArray) : Bool := decide (x.size = 16) && decide ((k : Int) = plI i n) && aS k S
def prS (x : ByteArray) (i n : Int) (k : Nat) (S : Nat → ByteArray) : ByteArray := if prB x i n k S = true then pr x i.toNat n.toNat S 0 else ⟨#[]⟩
theorem TxtAt.at_below {w w' : World} {a : Option Addr} {n : Nat} {S : Nat → ByteArray} (h : TxtAt w a n S) (hb : Below w.heap.size w w') : TxtAt w' a n S := h.below hb

set_option maxHeartbeats 2000000 in
theorem proofRoot_no (x : ByteArray) (i n : Int) (a : Option Addr) (k cap : Nat) (S : Nat → ByteArray) (w : World) (h : TxtAt w a k S) (hk : k ≤ 1048576) (hL : ∀ i, i < k → (S i).size ≤ maxLen) (hno : prB x i n k S = false) :
    Calls Try.prog 49 #[.string x, .int .i64 i, .int .i64 n, .slice a k cap] w fun e w' => e = .returned (.tuple #[.string ⟨#[]⟩, .bool false]) ∧ Below w.heap.size w w' := by
  obtain ⟨w1, HW1⟩ : ∃ w1, Hid (w1 = w.alloc (.cells #[.slice a k cap] 24)) := ⟨_, rfl⟩
  have K1 : Hid (Row w1 w.heap.size 24 #[.slice a k cap] ∧ Below w.heap.size w w1) := by rw [HW1.out]; exact ⟨Row.new w _ _, (Below.refl _ _).alloc (Nat.le_refl _) _⟩
  have KP : Hid (∀ w0, Calls Try.prog 16 #[.int .i64 i, .int .i64 n] w0 fun e w' => e = .returned (.int .i64 (plI i n)) ∧ Below w0.heap.size w0 w') := fun w0 => proofLen_any i n w0
  have KA : Hid (∀ W, Below w.heap.size w W → Calls Try.prog 71 #[.slice a k cap] W fun e w' => e = .returned (.bool (aS k S)) ∧ w' = W) := fun W hb => areSums_any a k cap S W (h.below hb) hk hL
  have hc := K1.out.1.cell 0
  have hlt := K1.out.1.lt
  simp at hc
  obtain ⟨r, hr⟩ : ∃ r, plI i n = r := ⟨_, rfl⟩
  rw [hr] at KP
  unfold prB at hno
  rw [hr] at hno
  by_cases h16 : x.size = 16
  · have h16' : ((x.size : Int) != 16) = false := by simp; omega
    by_cases hkr : (k : Int) = r
    · have hkr' : ((k : Int) != r) = false := by simp; exact hkr
      have haS : aS k S = false := by simpa [h16, hkr] using hno
      rw [haS] at KA
      clear h hL hno h16 hkr haS hr
      go_enter Try.func49, Try.ntmps49
      go_wp2_with fail
      rw [← HW1.out]
      go_region_held3 (fun w' => w'.cell? ⟨w.heap.size, 0, none⟩ = some (.slice a k cap)) (go_keep) ((first | (go_at_call 16; refine Calls.mono (KP.out _) ?_; rintro e w5 ⟨rfl, hb5'⟩; have hb5 := below_of_drew hb5'; clear hb5'; have h50 := (hb5.cell (p := ⟨w.heap.size, 0, none⟩) hlt).trans hc) | (guard_hyp hb5; go_at_call 71; refine Calls.mono (KA.out _ (K1.out.2.trans (hb5.mono K1.out.2.size))) ?_; rintro e w6 ⟨rfl, hw6⟩; obtain rfl := hw6.symm)))
      go_wp2
      go_ret2
      exact ⟨rfl, K1.out.2.trans (hb5.mono K1.out.2.size)⟩
    · have hkr' : ((k : Int) != r) = true := by simp; exact hkr
      clear h hL hno h16 hkr hr KA
      go_enter Try.func49, Try.ntmps49
      go_wp2_with fail
      rw [← HW1.out]
      go_region_with (go_at_call 16; refine Calls.mono (KP.out _) ?_; rintro e w5 ⟨rfl, hb5'⟩; have hb5 := below_of_drew hb5'; clear hb5'; have h50 := (hb5.cell (p := ⟨w.heap.size, 0, none⟩) hlt).trans hc)
      all_goals go_wp2
      all_goals go_ret2
      all_goals exact ⟨rfl, K1.out.2.trans (hb5.mono K1.out.2.size)⟩
  · have h16' : ((x.size : Int) != 16) = true := by simp; omega
    clear h hL hno h16 hr KA
    go_enter Try.func49, Try.ntmps49
    go_wp2_with fail
    rw [← HW1.out]
    go_quiet (fail)
    go_wp2
    go_ret2
    exact ⟨rfl, belowDrewN K1.out.2 _⟩

end Go.Proofs.Ytahgdbmilflcmaa
