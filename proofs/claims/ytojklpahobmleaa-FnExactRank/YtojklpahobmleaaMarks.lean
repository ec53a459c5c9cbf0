/- The laws' marks with the sums as letters; the lengths of the answers. -/
import Derived.Test.YtojklpahobmleaaRowed
import Derived.Test.YtojklpahobmleaaPTrim
import Derived.Test.YtojklpahobmleaaPImplB
namespace Go.Proofs.Ytojklpahobmleaa
open Go.ChangeShapes Go.WideShapes Go.ChangeAt Go.RowKit

theorem mark_q (B E : Nat) (a : Option Addr) (n cap k q : Nat) (zs : List Int) (w : World) (h : Row w B E a n cap zs) (hn : n ≤ 1048576) (hk : k ≤ 10000000) (hq : k + n = q) :
    Calls Try.prog 42 #[.slice a n cap, .int .i64 (k : Int)] w fun e w' => e = .returned (.int .i64 (q : Int)) ∧ Row w' B E a n cap (marks k n) ∧ Turned w w' B E := by
  subst hq
  exact mark_any B E a n cap k zs w h hn hk
theorem held_q (a : Option Addr) (n cap k q : Nat) (w : World) (h : IntsAt w a n (marks k n)) (hn : n ≤ 1048576) (hk : k ≤ 10000000) (hq : k + n = q) :
    Calls Try.prog 74 #[.slice a n cap, .int .i64 (k : Int)] w fun e w' => e = .returned (.int .i64 (q : Int)) ∧ w' = w := by
  subst hq
  exact held_any a n cap k w h hn hk
theorem addP_len (xs ys : List Int) : (addP xs ys).1.length ≤ 1048576 := by
  unfold addP
  by_cases h : okB xs = true ∧ okB ys = true
  · rw [if_pos h]
    show (eI _ _).length ≤ _
    rw [eI_len]
    have h1 := (okB_parts h.1).1
    have h2 := (okB_parts h.2).1
    exact Nat.le_trans (Gp.tl_le _ _) (by omega)
  · rw [if_neg h]; exact Nat.zero_le _
theorem mulP_len (xs ys : List Int) : (mulP xs ys).1.length ≤ 1048576 := by
  unfold mulP
  by_cases h : okB xs = true ∧ okB ys = true ∧ Gp.tl (Gp.cv (coP xs) (coP ys) xs.length) (xs.length + ys.length) ≤ 40
  · rw [if_pos h]
    show (eI _ _).length ≤ _
    rw [eI_len]
    omega
  · rw [if_neg h]; exact Nat.zero_le _
theorem divP_len (xs ys : List Int) : (divP xs ys).1.length ≤ 1048576 ∧ (divP xs ys).2.1.length ≤ 1048576 := by
  unfold divP
  by_cases h : okB xs = true ∧ okB ys = true ∧ 0 < ys.length
  · rw [if_pos h]
    have h1 := (okB_parts h.1).1
    by_cases h2 : ys.length ≤ xs.length
    · rw [if_pos h2]
      exact ⟨by show (eI _ _).length ≤ _; rw [eI_len]; exact Nat.le_trans (Gp.tl_le _ _) (by omega), by show (eI _ _).length ≤ _; rw [eI_len]; exact Nat.le_trans (Gp.tl_le _ _) (by omega)⟩
    · rw [if_neg h2]
      exact ⟨Nat.zero_le _, by show (eI _ _).length ≤ _; rw [eI_len]; exact Nat.le_trans (Gp.tl_le _ _) (by omega)⟩
  · rw [if_neg h]; exact ⟨Nat.zero_le _, Nat.zero_le _⟩
end Go.Proofs.Ytojklpahobmleaa
