/- How great the answers can be; what a law's walk is told of a slice of slices that came in. -/
import Derived.Test.YtojklpahobmleaaMMul
import Derived.Test.YtojklpahobmleaaMPick
import Derived.Test.YtojklpahobmleaaMLawB
namespace Go.Proofs.Ytojklpahobmleaa
open Go.ChangeShapes Go.WideShapes Go.ChangeAt Go.RowKit

theorem tot_const (c r : Nat) : tot (fun _ => c) r = r * c := by
  induction r with
  | zero => simp [tot]
  | succ r ih => show tot (fun _ => c) r + c = _; rw [ih, Nat.succ_mul]
theorem tot_small {c r : Nat} (hr : r ≤ 16) (hc : 0 < r → c ≤ 16) : tot (fun _ => c) r ≤ 1048576 := by
  rw [tot_const]
  by_cases h : r = 0
  · subst h; omega
  · have := hc (by omega)
    exact Nat.le_trans (Nat.mul_le_mul hr this) (by omega)
theorem unitN_le (n : Int) : unitN n ≤ 16 := by
  unfold unitN
  split
  · rename_i h
    have : 1 ≤ n ∧ n ≤ 16 := by simpa [side] using h
    omega
  · omega
theorem sprR_le (k n : Int) : sprR k n ≤ 16 ∧ (0 < sprR k n → k.toNat ≤ 16) := by
  unfold sprR
  split
  · rename_i h
    have : (1 ≤ n ∧ n ≤ 16) ∧ 1 ≤ k ∧ k ≤ n := by simpa [sprOk, side] using h
    omega
  · omega
theorem turnR_le (n : Nat) (L : Nat → Nat) (Z : Nat → Nat → Int) : turnR n L Z ≤ 16 ∧ (0 < turnR n L Z → n ≤ 16) := by
  unfold turnR
  split
  · rename_i h
    have := okM_iff h
    exact ⟨this.2.2.2.1, fun _ => this.2.1⟩
  · omega
theorem pkR_le (n : Nat) (L : Nat → Nat) (Z : Nat → Nat → Int) (zs : List Int) : pkR n L Z zs ≤ 16 ∧ (0 < pkR n L Z zs → L 0 ≤ 16) := by
  by_cases h : OkM n L Z ∧ Places n zs
  · have e : pkR n L Z zs = zs.length := by unfold pkR; rw [if_pos (pkOk_yes h)]
    rw [e]
    exact ⟨h.2.2.1, fun _ => h.1.2.2.2.1⟩
  · have e : pkR n L Z zs = 0 := by unfold pkR; rw [if_neg (by rw [pkOk_no h]; simp)]
    rw [e]
    omega
theorem muR_le (n : Nat) (L : Nat → Nat) (Z : Nat → Nat → Int) (n' : Nat) (L' : Nat → Nat) (Z' : Nat → Nat → Int) : muR n L Z n' L' Z' ≤ 16 ∧ (0 < muR n L Z n' L' Z' → L' 0 ≤ 16) := by
  by_cases h : MulOk n L Z n' L' Z'
  · have e : muR n L Z n' L' Z' = n := by unfold muR; rw [if_pos (muOk_yes h)]
    rw [e]
    exact ⟨h.1.2.1, fun _ => h.2.1.2.2.2.1⟩
  · have e : muR n L Z n' L' Z' = 0 := by unfold muR; rw [if_neg (by rw [muOk_no h]; simp)]
    rw [e]
    omega
/-- A slice of slices that came in. -/
def IsMat (w : World) (a : Option Addr) (n : Nat) (L : Nat → Nat) (Z : Nat → Nat → Int) : Prop := MatAt w a n L Z ∧ n ≤ maxLen ∧ ∀ i, i < n → L i ≤ maxLen
/-- As the form reads it. -/
theorem isMat_of {w : World} {a : Addr} {len cap : Nat} {A : Nat → Option Addr} {L C : Nat → Nat} {Z : Nat → List Int} (hl : len ≤ cap) (hm : cap ≤ maxLen)
    (h : ∀ r, r < cap → w.cell? (a.add r) = some (.slice (A r) (L r) (C r)) ∧ L r ≤ C r ∧ C r ≤ maxLen ∧ (Z r).length = C r ∧ (∀ n ∈ Z r, (Lit.int .i64 n).wf = true) ∧ (A r = none → C r = 0) ∧ ∀ a', A r = some a' → 0 ≤ a'.block ∧ ∀ c, c < C r → w.cell? (a'.add c) = some (.int .i64 ((Z r).getD c 0))) :
    IsMat w (some a) len L (fun i j => (Z i).getD j 0) := by
  refine ⟨fun i hi => ?_, Nat.le_trans hl hm, fun i hi => Nat.le_trans (h i (by omega)).2.1 (h i (by omega)).2.2.1⟩
  obtain ⟨h1, h2, h3, h4, _, h5, h6⟩ := h i (by omega)
  obtain ⟨b, off, spot⟩ := a
  have hspot : spot = none := by
    have h0 := (h 0 (by omega)).1
    simpa [Addr.add] using World.cell?_spot h0
  subst hspot
  have ea : ∀ (b off i : Nat), (⟨b, off, none⟩ : Addr).add i = ⟨b, off + i, none⟩ := fun b off i => by unfold Addr.add; split <;> simp_all
  rw [ea] at h1
  refine ⟨b, off, A i, C i, rfl, h1, zI_len _ _, fun j hj => ?_⟩
  cases hA : A i with
  | none => have := h5 hA; omega
  | some a' =>
    obtain ⟨b', off', spot'⟩ := a'
    have h7 := (h6 _ hA).2 j (by omega)
    have hs : spot' = none := by
      have h0 := (h6 _ hA).2 0 (by omega)
      simpa [Addr.add] using World.cell?_spot h0
    subst hs
    rw [ea] at h7
    exact ⟨b', off', rfl, by rw [zI_getD _ _ _ hj]; exact h7⟩
end Go.Proofs.Ytojklpahobmleaa
