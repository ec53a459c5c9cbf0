import Derived.Test.YtodnodekheaacaaGreatDoorG28
import Derived.Test.YtodnodekheaacaaGreatDoorG32
import Derived.Test.YtodnodekheaacaaGreatDoorG33
set_option maxHeartbeats 8000000
set_option maxRecDepth 2000
open Go.ChangeShapes Go.WideShapes Go.ChangeAt Go.RowKit
namespace Go.Proofs.YtodnodekheaacaaGreatDoor
def RgA (root : ByteArray) (n : Nat) (P : Nat → Pc) (e : Ending) : Prop :=
 (enB root n P = false ∧ e = .returned (.tuple #[.string ⟨#[]⟩, .int .i64 1])) ∨ (enB root n P = true ∧ ∃ L : List Nat, L.Perm (gsel root P n) ∧ (∀ x y, x < y → y < L.length → (P (L.getD x 0)).i ≤ (P (L.getD y 0)).i) ∧ RgE root (enK root n P).toNat (qL P L) e)
theorem rgE_one {root : ByteArray} {K : Nat} {Q : Nat → Pc} {e e' : Ending} (h : RgE root K Q e) (h' : RgE root K Q e') : e = e' := by
 rcases h with ⟨h1, h2⟩ | ⟨h1, h2, h3⟩ | ⟨h1, h2, h3⟩ <;> rcases h' with ⟨k1, k2⟩ | ⟨k1, k2, k3⟩ | ⟨k1, k2, k3⟩
 ·rw [h2, k2]
 ·exact absurd k1 h1
 ·exact absurd k1 h1
 ·exact absurd h1 k1
 ·rw [h3, k3]
 ·rw [h2] at k2; cases k2
 ·exact absurd h1 k1
 ·rw [h2] at k2; cases k2
 ·rw [h3, k3]
theorem rgA_one {root : ByteArray} {n : Nat} {P : Nat → Pc} {e e' : Ending} (h : RgA root n P e) (h' : RgA root n P e') : e = e' := by
 rcases h with ⟨h1, h2⟩ | ⟨h1, L, hp, hs, hr⟩ <;> rcases h' with ⟨k1, k2⟩ | ⟨k1, L', kp, ks, kr⟩
 ·rw [h2, k2]
 ·rw [h1] at k1; cases k1
 ·rw [h1] at k1; cases k1
 ·obtain rfl := asc_one (gsel_one root P n) hp kp hs ks
  exact rgE_one hr kr
theorem rgA_is {root : ByteArray} {n : Nat} {P : Nat → Pc} {e : Ending} (h : RgA root n P e) : ∃ (s : ByteArray) (c : Int), e = .returned (.tuple #[.string s, .int .i64 c]) := by
 rcases h with ⟨_, h2⟩ | ⟨_, L, _, _, hr⟩
 ·exact ⟨_, _, h2⟩
 ·rcases hr with ⟨_, h2⟩ | ⟨_, _, h2⟩ | ⟨_, _, h2⟩ <;> exact ⟨_, _, h2⟩
end Go.Proofs.YtodnodekheaacaaGreatDoor
