/- The laws' own helpers over matrices, the second part: marks that are held; rows told equal. Conditions: at most 2^20 rows, at most 2^20 numbers a row. -/
import Derived.Test.YtojklpahobmleaaMLaw
namespace Go.Proofs.Ytojklpahobmleaa
open Go.ChangeShapes Go.WideShapes Go.ChangeAt Go.RowKit

set_option maxHeartbeats 1000000 in
theorem heldSS_any (a : Option Addr) (n cap : Nat) (L : Nat → Nat) (k q : Nat) (w : World) (h : MatAt w a n L (mkZ L k)) (hn : n ≤ 1048576) (hL : tot L n ≤ 1048576) (hk : k ≤ 5000000) (hq : k + tot L n = q) :
    Calls Try.prog 39 #[.slice a n cap, .int .i64 (k : Int)] w fun e w' => e = .returned (.int .i64 (q : Int)) ∧ w' = w := by
  have H0 : Hid (MatAt w a n L (mkZ L k)) := h
  clear h
  go_enter Try.func39, Try.ntmps39
  go_wp2
  go_loop [1, 5] (fun p i => ∃ c p' : Nat, c ≤ n ∧ Hid (k + tot L c = p') ∧ p = .int .i64 (p' : Int) ∧ i = .int .i64 (c : Int)) (fun _ i => n - (intOf i).toNat)
  case atStart => exact ⟨0, k, Nat.zero_le _, by show k + 0 = k; omega, rfl, rfl⟩
  case round =>
    obtain ⟨c, p', hc, HP, rfl, rfl⟩ := hrel
    by_cases hlt : c < n
    · obtain ⟨b, off, ai, ci, rfl, hcell, hr⟩ := H0.out c hlt
      have hti := tot_le L hlt
      have hlti : (c : Int) < (n : Int) := by omega
      have hp1 : p' ≤ 10000000 := by have := HP.out; omega
      have hl1 : L c ≤ 1048576 := by omega
      rw [zI_congr (g := fun j => ((p' + j : Nat) : Int)) (fun j _ => by have := HP.out; unfold mkZ; congr 1; omega), ← marks_zI] at hr
      obtain ⟨lc, hlc⟩ : ∃ lc, L c = lc := ⟨_, rfl⟩
      rw [hlc] at hcell hr hl1 hti
      obtain ⟨p2, hp2⟩ : ∃ p2, p' + lc = p2 := ⟨_, rfl⟩
      have h2 : ¬ ((p2 : Int) < 0) := by omega
      have hH := fun w h => held_q ai lc ci p' p2 w h hl1 hp1 hp2
      clear H0
      go_wp2_with (go_at_call 74; refine (hH _ hr).mono ?_; rintro e w' ⟨rfl, hw⟩; obtain rfl := hw.symm)
      go_round
      case rel => exact ⟨c + 1, p2, by omega, by have := HP.out; show k + (tot L c + L c) = p2; omega, rfl, by go_num⟩
      case measure => simp [intOf] <;> omega
    · obtain rfl : c = n := by omega
      have HP' := HP.out
      obtain rfl : p' = q := by omega
      clear H0
      go_wp2
      go_ret
      exact ⟨rfl, rfl⟩

set_option maxHeartbeats 1000000 in
theorem sameInts_z (a b : Option Addr) (n ca cb : Nat) (zs : List Int) (w : World) (ha : IntsAt w a n zs) (hb : IntsAt w b n zs) (hn : n ≤ 1048576) :
    Calls Try.prog 55 #[.slice a n ca, .slice b n cb] w fun e w' => e = .returned (.bool true) ∧ Below w.heap.size w w' := by
  go_enter Try.func55, Try.ntmps55
  go_wp2
  go_loopw [5] (fun i wr => ∃ k : Nat, k ≤ n ∧ i = .int .i64 k ∧ Below w.heap.size w wr) (fun i _ => n - (intOf i).toNat)
  case atStart => exact ⟨0, Nat.zero_le _, rfl, Below.refl _ _⟩
  case round =>
    obtain ⟨k, hk, rfl, hbel⟩ := hrel
    have ha' := ha.below hbel
    have hb' := hb.below hbel
    clear ha hb
    by_cases hlt : k < n
    · obtain ⟨ba, oa, rfl, hca⟩ := ha'.2 k hlt
      obtain ⟨bb, ob, rfl, hcb⟩ := hb'.2 k hlt
      clear ha' hb'
      obtain ⟨x, HX⟩ : ∃ x, x = zs.getD k 0 := ⟨_, rfl⟩
      rw [← HX] at hca hcb
      clear HX
      go_wp2
      go_quiet (fail)
      go_wp2
      go_roundw
      case rel => exact ⟨k + 1, by omega, by go_num, below_drewN hbel _⟩
      case measure => simp [intOf]; omega
    · go_wp2
      go_ret
      exact ⟨rfl, hbel⟩
set_option maxHeartbeats 1000000 in
theorem sameRows_z (a b : Option Addr) (n ca cb : Nat) (L : Nat → Nat) (Z : Nat → Nat → Int) (w : World) (ha : MatAt w a n L Z) (hb : MatAt w b n L Z) (hn : n ≤ 1048576) (hL : ∀ i, i < n → L i ≤ 1048576) :
    Calls Try.prog 18 #[.slice a n ca, .slice b n cb] w fun e w' => e = .returned (.bool true) ∧ Below w.heap.size w w' := by
  go_enter Try.func18, Try.ntmps18
  go_wp2
  go_loopw [5] (fun i wr => ∃ k : Nat, k ≤ n ∧ i = .int .i64 k ∧ Below w.heap.size w wr) (fun i _ => n - (intOf i).toNat)
  case atStart => exact ⟨0, Nat.zero_le _, rfl, Below.refl _ _⟩
  case round =>
    obtain ⟨k, hk, rfl, hbel⟩ := hrel
    have ha' := ha.below hbel
    have hb' := hb.below hbel
    clear ha hb
    by_cases hlt : k < n
    · obtain ⟨ba, oa, ai, ci, rfl, hca, hra⟩ := ha' k hlt
      obtain ⟨bb, ob, bi, di, rfl, hcb, hrb⟩ := hb' k hlt
      have hLk := hL k hlt
      have hlti : (k : Int) < (n : Int) := by omega
      clear ha' hb' hL
      generalize L k = l at *
      generalize zI (Z k) l = zs at hra hrb
      go_wp2_with fail
      go_region_with ((go_at_call 55; refine (sameInts_z _ _ _ _ _ zs _ (hra.below (below_drewN (Below.refl _ _) _)) (hrb.below (below_drewN (Below.refl _ _) _)) hLk).mono ?_; rintro e w1 ⟨rfl, hb1'⟩; have hb1 := below_of_drew hb1'; clear hb1'))
      all_goals
        go_wp2
        go_roundw
        case rel => exact ⟨k + 1, by omega, by go_num, below2 hbel hb1⟩
        case measure => simp [intOf] <;> omega
    · go_wp2
      go_ret
      exact ⟨rfl, hbel⟩
end Go.Proofs.Ytojklpahobmleaa
