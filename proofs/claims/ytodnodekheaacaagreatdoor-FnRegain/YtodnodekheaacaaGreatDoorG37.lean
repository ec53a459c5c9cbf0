import Derived.Test.YtodnodekheaacaaGreatDoorG26
import Derived.Test.YtodnodekheaacaaGreatDoorG35
import Derived.Test.YtodnodekheaacaaGreatDoorG34
import Derived.Test.YtodnodekheaacaaGreatDoorG28
import Derived.Test.YtodnodekheaacaaGreatDoorG36
import Derived.Test.YtodnodekheaacaaGreatDoorG32
set_option maxHeartbeats 8000000
set_option maxRecDepth 2000
open Go.ChangeShapes Go.WideShapes Go.ChangeAt Go.RowKit
namespace Go.Proofs.YtodnodekheaacaaGreatDoor
def pz : Pc := ⟨ByteArray.empty, 0, 0, 0, ByteArray.empty, 0, fun _ => ByteArray.empty⟩
def IsRm (root : ByteArray) (n : Nat) (P : Nat → Pc) (idx : Int) (p : Pc) (c : Int) : Prop :=
 (enB root n P = false ∧ p = pz ∧ c = 1) ∨ (enB root n P = true ∧ ∃ L : List Nat, L.Perm (gsel root P n) ∧ (∀ x y, x < y → y < L.length → (P (L.getD x 0)).i ≤ (P (L.getD y 0)).i) ∧
  ((¬ (Cm root (enK root n P).toNat (qL P L) ∧ 0 ≤ idx ∧ idx < (qL P L 0).n) ∧ p = pz ∧ c = 2) ∨
   (Cm root (enK root n P).toNat (qL P L) ∧ 0 ≤ idx ∧ idx < (qL P L 0).n ∧ p = ⟨root, (qL P L 0).k, (qL P L 0).n, idx, alQ (enK root n P).toNat (qL P L) idx.toNat, pfR (qL P L 0).n.toNat (lvs (qL P L 0).k (qL P L 0).n.toNat (alQ (enK root n P).toNat (qL P L))) idx, pfF (qL P L 0).n.toNat (lvs (qL P L 0).k (qL P L 0).n.toNat (alQ (enK root n P).toNat (qL P L))) idx⟩ ∧ c = 0)))
theorem isRm_one {root : ByteArray} {n : Nat} {P : Nat → Pc} {idx : Int} {p p' : Pc} {c c' : Int} (h : IsRm root n P idx p c) (h' : IsRm root n P idx p' c') : p = p' ∧ c = c' := by
 rcases h with ⟨h1, h2, h3⟩ | ⟨h1, L, hp, hs, hr⟩ <;> rcases h' with ⟨k1, k2, k3⟩ | ⟨k1, L', kp, ks, kr⟩
 ·exact ⟨by rw [h2, k2], by rw [h3, k3]⟩
 ·rw [h1] at k1; cases k1
 ·rw [h1] at k1; cases k1
 ·obtain rfl := asc_one (gsel_one root P n) hp kp hs ks
  rcases hr with ⟨a1, a2, a3⟩ | ⟨a1, a2, a3, a4, a5⟩ <;> rcases kr with ⟨b1, b2, b3⟩ | ⟨b1, b2, b3, b4, b5⟩
  ·exact ⟨by rw [a2, b2], by rw [a3, b3]⟩
  ·exact absurd ⟨b1, b2, b3⟩ a1
  ·exact absurd ⟨a1, a2, a3⟩ b1
  ·exact ⟨by rw [a4, b4], by rw [a5, b5]⟩
def RmA (w w' : World) (root : ByteArray) (n : Nat) (P : Nat → Pc) (idx : Int) (e : Ending) : Prop := ∃ (p : Pc) (c : Int) (a : Option Addr) (cap : Nat), e = .returned (.tuple #[pcV p.r p.k p.n p.i p.b (.slice a p.m cap), .int .i64 c]) ∧ OwnT w' w.heap.size a p.m cap p.S ∧ p.m ≤ 1000 ∧ IsRm root n P idx p c
theorem rmA_of {w w' : World} {root : ByteArray} {n : Nat} {P : Nat → Pc} {idx : Int} {e : Ending} (h : (enB root n P = false ∧ e = .returned (.tuple #[.agg pcZ, .int .i64 1])) ∨ (enB root n P = true ∧ ∃ L : List Nat, L.Perm (gsel root P n) ∧ (∀ x y, x < y → y < L.length → (P (L.getD x 0)).i ≤ (P (L.getD y 0)).i) ∧ RmE w w' root (enK root n P).toNat (qL P L) idx e)) : RmA w w' root n P idx e := by
 rcases h with ⟨h1, h2⟩ | ⟨h1, L, hp, hs, hr⟩
 ·exact ⟨pz, 1, none, 0, h2, OwnT.nil _ _ _, by simp [pz], .inl ⟨h1, rfl, rfl⟩⟩
 ·rcases hr with ⟨a1, a2⟩ | ⟨a1, a2, a3, v, a4, ⟨a, cap, rfl, ho⟩⟩
  ·exact ⟨pz, 2, none, 0, a2, OwnT.nil _ _ _, by simp [pz], .inr ⟨h1, L, hp, hs, .inl ⟨a1, rfl, rfl⟩⟩⟩
  ·exact ⟨⟨root, (qL P L 0).k, (qL P L 0).n, idx, alQ (enK root n P).toNat (qL P L) idx.toNat, _, _⟩, 0, a, cap, a4, ho, Nat.le_trans (pfR_le _ _ _) (by omega), .inr ⟨h1, L, hp, hs, .inr ⟨a1, a2, a3, rfl, rfl⟩⟩⟩
end Go.Proofs.YtodnodekheaacaaGreatDoor
