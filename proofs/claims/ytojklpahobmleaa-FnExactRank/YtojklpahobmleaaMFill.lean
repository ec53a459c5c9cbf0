/- The program's functions that answer with a matrix made by a function of the place: the unit, a spread, a matrix turned. Conditions: at most 2^20 rows, at most 2^20 numbers a row, where a matrix is read. -/
import Derived.Test.YtojklpahobmleaaMReadB
namespace Go.Proofs.Ytojklpahobmleaa
open Go.ChangeShapes Go.WideShapes Go.ChangeAt Go.RowKit

/-- A matrix that was answered, in new memory. -/
def ResM (w w' : World) (v : Value) (r c : Nat) (F : Nat → Nat → Nat) : Prop := ∃ a cap A C, v = .slice a r cap ∧ MatI w' w.heap.size w'.heap.size a r cap A (fun _ => c) C (fun i j => ((F i j : Nat) : Int))
theorem ResM.none (w w' : World) (c : Nat) (F : Nat → Nat → Nat) : ResM w w' (.slice none 0 0) 0 c F := ⟨_, _, fun _ => .none, fun _ => 0, rfl, MatZ.nil _ _ _ _ _ _ _ _ _ _⟩
theorem ResM.mk {w w' : World} {a : Option Addr} {r cap c : Nat} {A : Nat → Option Addr} {C : Nat → Nat} {F : Nat → Nat → Nat} {B : Nat} (h : MatI w' B w'.heap.size a r cap A (fun _ => c) C (fun i j => ((F i j : Nat) : Int))) (hB : w.heap.size ≤ B) : ResM w w' (.slice a r cap) r c F :=
  ⟨a, cap, A, C, rfl, ⟨own_base h.out hB, h.oE, fun i hi => own_base (h.row i hi) hB, h.rE, h.apart⟩⟩

theorem unitFill (r c : Nat) (w : World) : FillBy 49 #[] r c Gm.dl w := fun W i j _ _ _ => by
  refine Calls.mono (unitAt_any i j W) ?_
  rintro e w' ⟨rfl, rfl⟩
  exact ⟨rfl, Below.refl _ _⟩
theorem unitEnter : ∀ args w, (callFunc 49 args).run Try.prog w = .ok (.enter 49 args) w := enters_of Try.func49 (by kernel_rfl) rfl
def unitN (n : Int) : Nat := if side n = true then n.toNat else 0
set_option maxHeartbeats 1000000 in
theorem unit_any (n : Int) (w : World) : Calls Try.prog 23 #[.int .i64 n] w fun e w' => ∃ v, e = .returned (.tuple #[v, .bool (side n)]) ∧ ResM w w' v (unitN n) (unitN n) Gm.dl ∧ Below w.heap.size w w' := by
  cases hs : side n with
  | true =>
    have hr : 1 ≤ n ∧ n ≤ 16 := by simpa [side] using hs
    obtain ⟨k, rfl⟩ : ∃ k : Nat, n = (k : Int) := ⟨n.toNat, by omega⟩
    have hk : unitN (k : Int) = k := by unfold unitN; rw [if_pos hs]; simp
    rw [hk]
    have KF : Hid _ := filled_any 49 #[] unitEnter k k Gm.dl w (unitFill k k w) Gm.dl_byt (by omega) (by omega)
    go_enter Try.func23, Try.ntmps23
    go_wp2_with (go_at_call 59; refine (isSide_any _ _).mono ?_; rintro e w' ⟨rfl, hw⟩; obtain rfl := hw.symm)
    refine Calls.mono KF.out ?_
    rintro e w2 ⟨rfl, ⟨A, hM⟩, hb2⟩
    have KM : Hid _ := hM
    clear hM
    go_wp2
    go_ret2
    exact ⟨_, rfl, ResM.mk KM.out (Nat.le_refl _), hb2⟩
  | false =>
    have hk : unitN n = 0 := by unfold unitN; rw [if_neg (by rw [hs]; simp)]
    rw [hk]
    go_enter Try.func23, Try.ntmps23
    go_wp2_with (go_at_call 59; refine (isSide_any _ _).mono ?_; rintro e w' ⟨rfl, hw⟩; obtain rfl := hw.symm)
    go_ret2
    exact ⟨_, rfl, ResM.none _ _ _ _, Below.refl _ _⟩

set_option maxHeartbeats 1000000 in
theorem spread1_any (kb k i j : Nat) (w : World) (hk : w.cell? ⟨kb, 0, none⟩ = some (.int .i64 (k : Int))) (hi : i < 256) (hj : j < 256) :
    Calls Try.prog 69 #[.int .i64 (i : Int), .int .i64 (j : Int), .pointer (some ⟨kb, 0, none⟩)] w fun e w' => e = .returned (.int .u8 ((Gm.sprd k i j : Nat) : Int)) ∧ Below w.heap.size w w' := by
  by_cases h : i < k
  · have h' : (i : Int) < (k : Int) := by omega
    have HS : Hid (Gm.sprd k i j = Gm.dl i j) := by show _ = _; unfold Gm.sprd; rw [if_pos h]
    go_enter Try.func69, Try.ntmps69
    go_wp2_with (go_at_call 49; refine (unitAt_any i j _).mono ?_; rintro e w' ⟨rfl, hw⟩; obtain rfl := hw.symm)
    go_ret
    exact ⟨by rw [HS.out] <;> rfl, Below.refl _ _⟩
  · have h' : ¬ (i : Int) < (k : Int) := by omega
    have HS : Hid (Gm.sprd k i j = Gf.inv (i ^^^ j)) := by show _ = _; unfold Gm.sprd; rw [if_neg h]
    have hx := Gf.xor_lt hi hj
    go_enter Try.func69, Try.ntmps69
    go_wp2_with (first | (go_at_call 61; refine (plus_any i j _ hi hj).mono ?_; rintro e w' ⟨rfl, hw⟩; obtain rfl := hw.symm) | (go_at_call 70; refine (inverse_any (i ^^^ j) _ hx).mono ?_; rintro e w2 ⟨rfl, hb2⟩))
    go_ret
    exact ⟨by rw [HS.out] <;> rfl, hb2⟩
theorem spreadEnter : ∀ args w, (callFunc 69 args).run Try.prog w = .ok (.enter 69 args) w := enters_of Try.func69 (by kernel_rfl) rfl
theorem spreadFill (kb k r c : Nat) (w : World) (hk : w.cell? ⟨kb, 0, none⟩ = some (.int .i64 (k : Int))) (hr : r ≤ 256) (hc : c ≤ 256) : FillBy 69 #[.pointer (some ⟨kb, 0, none⟩)] r c (Gm.sprd k) w := fun W i j hb hi hj =>
  spread1_any kb k i j W ((hb.cell (p := ⟨kb, 0, none⟩) (block_lt_of_cell hk)).trans hk) (by omega) (by omega)
theorem boxed (w : World) (v : Value) (t : TypeId) : (w.alloc (.cells #[v] t)).cell? ⟨w.heap.size, 0, none⟩ = some v := cell_of_one (heap_alloc_new w _)
def sprOk (k n : Int) : Bool := side n && decide (1 ≤ k ∧ k ≤ n)
def sprR (k n : Int) : Nat := if sprOk k n = true then n.toNat else 0
set_option maxHeartbeats 1000000 in
theorem spread_any (k n : Int) (w : World) : Calls Try.prog 29 #[.int .i64 k, .int .i64 n] w fun e w' => ∃ v, e = .returned (.tuple #[v, .bool (sprOk k n)]) ∧ ResM w w' v (sprR k n) k.toNat (Gm.sprd k.toNat) ∧ Below w.heap.size w w' := by
  have hbx := boxed w (.int .i64 k) 3
  have hb1 : Below w.heap.size w (w.alloc (.cells #[.int .i64 k] 3)) := (Below.refl _ _).alloc (Nat.le_refl _) _
  have hsz : (w.alloc (.cells #[.int .i64 k] 3)).heap.size = w.heap.size + 1 := by simp
  by_cases h1 : side n = true
  · by_cases h2 : 1 ≤ k
    · by_cases h3 : k ≤ n
      · have hr : 1 ≤ n ∧ n ≤ 16 := by simpa [side] using h1
        have hok : sprOk k n = true := by unfold sprOk; rw [h1]; simp; omega
        obtain ⟨N, rfl⟩ : ∃ N : Nat, n = (N : Int) := ⟨n.toNat, by omega⟩
        obtain ⟨K, rfl⟩ : ∃ K : Nat, k = (K : Int) := ⟨k.toNat, by omega⟩
        have hN : sprR (K : Int) (N : Int) = N := by unfold sprR; rw [if_pos hok]; simp
        rw [hN, hok, Int.toNat_natCast]
        have KF : Hid _ := filled_any 69 #[.pointer (some ⟨w.heap.size, 0, none⟩)] spreadEnter N K (Gm.sprd K) _ (spreadFill w.heap.size K N K _ hbx (by omega) (by omega)) (Gm.sprd_byt K) (by omega) (by omega)
        have h2' : ¬ (K : Int) < 1 := by omega
        have h3' : ¬ (K : Int) > (N : Int) := by omega
        obtain ⟨w1, hw1⟩ : ∃ w1, w.alloc (.cells #[.int .i64 (K : Int)] 3) = w1 := ⟨_, rfl⟩
        have KW : Hid (w.alloc (.cells #[.int .i64 (K : Int)] 3) = w1) := hw1
        rw [hw1] at KF hb1 hbx
        clear hw1 hN hok hsz
        go_enter Try.func29, Try.ntmps29
        go_wp2_with fail
        rw [KW.out]
        refine (isSide_any _ _).mono ?_
        rintro e w' ⟨rfl, hw⟩
        obtain rfl := hw.symm
        go_wp2_with fail
        refine Calls.mono KF.out ?_
        rintro e w2 ⟨rfl, ⟨A, hM⟩, hb2⟩
        have KM : Hid _ := hM
        clear hM
        go_wp2
        go_ret2
        exact ⟨_, rfl, ResM.mk KM.out hb1.size, below2 hb1 hb2⟩
      · have hok : sprOk k n = false := by unfold sprOk; simp [h3]
        have hN : sprR k n = 0 := by unfold sprR; rw [if_neg (by rw [hok]; simp)]
        rw [hN, hok]
        have h2' : ¬ k < 1 := by omega
        have h3' : k > n := by omega
        clear hok hN
        go_enter Try.func29, Try.ntmps29
        go_wp2_with fail
        refine (isSide_any _ _).mono ?_
        rintro e w' ⟨rfl, hw⟩
        obtain rfl := hw.symm
        go_wp2
        go_ret2
        exact ⟨_, rfl, ResM.none _ _ _ _, hb1⟩
    · have hok : sprOk k n = false := by unfold sprOk; simp [h2]
      have hN : sprR k n = 0 := by unfold sprR; rw [if_neg (by rw [hok]; simp)]
      rw [hN, hok]
      have h2' : k < 1 := by omega
      clear hok hN
      go_enter Try.func29, Try.ntmps29
      go_wp2_with fail
      refine (isSide_any _ _).mono ?_
      rintro e w' ⟨rfl, hw⟩
      obtain rfl := hw.symm
      go_wp2
      go_ret2
      exact ⟨_, rfl, ResM.none _ _ _ _, hb1⟩
  · have h1' : side n = false := by simpa using h1
    have hok : sprOk k n = false := by unfold sprOk; simp [h1']
    have hN : sprR k n = 0 := by unfold sprR; rw [if_neg (by rw [hok]; simp)]
    rw [hN, hok]
    clear hok hN
    go_enter Try.func29, Try.ntmps29
    go_wp2_with fail
    refine (isSide_any _ _).mono ?_
    rintro e w' ⟨rfl, hw⟩
    obtain rfl := hw.symm
    go_wp2
    go_ret2
    exact ⟨_, rfl, ResM.none _ _ _ _, hb1⟩
end Go.Proofs.Ytojklpahobmleaa
