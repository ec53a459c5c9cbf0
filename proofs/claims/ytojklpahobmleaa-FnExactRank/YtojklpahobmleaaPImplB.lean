/- The program's sum, product and quotient of polynomials, at any lists of at most 2^20 numbers. -/
import Derived.Test.YtojklpahobmleaaPImpl
namespace Go.Proofs.Ytojklpahobmleaa
open Go.ChangeShapes Go.WideShapes Go.ChangeAt Go.RowKit

theorem OwnI.mono {w : World} {B B' : Nat} {v : Value} {zs : List Int} (h : OwnI w B v zs) (hb : B' ≤ B) : OwnI w B' v zs :=
  ⟨h.1, h.2.imp id fun ⟨g, cap, cur, h1, h2, h3⟩ => ⟨g, cap, cur, h1, Nat.le_trans hb h2, h3⟩⟩
theorem addP_no {xs ys : List Int} (h : ¬ (okB xs = true ∧ okB ys = true)) : addP xs ys = ([], false) := by unfold addP; rw [if_neg h]
theorem onTop_first {xs : List Int} (h : okB xs = true) (i : Nat) : onTop (fun _ => 0) (coP xs) 1 0 xs.length i = coP xs i := by
  have hp := (okB_parts h).2.2.1
  rw [onTop_sh hp.2, Nat.zero_xor, show Gp.sh 0 (coP xs) i = coP xs i by unfold Gp.sh; rw [if_pos (Nat.zero_le _), Nat.sub_zero], Gp.m_one (hp.1 i)]
theorem onTop_second {ys : List Int} (h : okB ys = true) (f : Nat → Nat) (i : Nat) : onTop f (coP ys) 1 0 ys.length i = Gp.ad f (coP ys) i := by
  have hp := (okB_parts h).2.2.1
  rw [onTop_sh hp.2, show Gp.sh 0 (coP ys) i = coP ys i by unfold Gp.sh; rw [if_pos (Nat.zero_le _), Nat.sub_zero], Gp.m_one (hp.1 i)]
  rfl

def twoA (g1 g2 : Nat) (i : Nat) : Option Addr := if i = 0 then some ⟨g1, 0, none⟩ else some ⟨g2, 0, none⟩
def twoN (n m : Nat) (i : Nat) : Nat := if i = 0 then n else m
def twoF (f g : Nat → Nat) (i : Nat) : Nat → Nat := if i = 0 then f else g
theorem pf_two {f g : Nat → Nat} {n m : Nat} (hf : Gp.Pol f n) (hl : n = 0 ∨ f (n - 1) ≠ 0) : pf (twoF f g) (twoN n m) 2 = (Gp.cv f g n, Gp.tl (Gp.cv f g n) (n + m)) := by
  have e1 : pf (twoF f g) (twoN n m) 1 = (f, n) := by
    rw [pf_succ]
    show (Gp.cv Gp.one f 1, Gp.tl (Gp.cv Gp.one f 1) (1 + n)) = _
    have e : Gp.cv Gp.one f 1 = f := by funext i; exact Gp.cv_one hf.1 i
    rw [e, Gp.tl_is f (1 + n) n (by omega) (fun i h1 _ => hf.2 i h1) hl]
  rw [pf_succ, e1]
  rfl
theorem mulP_no {xs ys : List Int} (h : ¬ (okB xs = true ∧ okB ys = true)) : mulP xs ys = ([], false) := by unfold mulP; rw [if_neg (fun h' => h ⟨h'.1, h'.2.1⟩)]

theorem divP_no {xs ys : List Int} (h : ¬ (okB xs = true ∧ okB ys = true)) : divP xs ys = ([], [], false) := by unfold divP; rw [if_neg (fun h' => h ⟨h'.1, h'.2.1⟩)]
end Go.Proofs.Ytojklpahobmleaa
