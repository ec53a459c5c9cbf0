/- The draw of a spread's sides and of places of it that differ. Condition: at most 2^20 bytes of code. -/
import Derived.Test.YtmggogdnfgkljaaQDrawO
namespace Go.Proofs.Ytmggogdnfgkljaa
open Go.ChangeShapes Go.WideShapes Go.ChangeAt Go.RowKit

theorem nodup_ne {zs : List Int} (h : zs.Nodup) {i j : Nat} (hi : i < zs.length) (hj : j < zs.length) (hne : i ≠ j) : zs.getD i 0 ≠ zs.getD j 0 := by
  have hp := List.pairwise_iff_getElem.1 (List.nodup_iff_pairwise_ne.1 h)
  have e1 : zs.getD i 0 = zs[i] := by simp [List.getD, hi]
  have e2 : zs.getD j 0 = zs[j] := by simp [List.getD, hj]
  rw [e1, e2]
  rcases Nat.lt_or_gt_of_ne hne with h' | h'
  · exact hp i j hi hj h'
  · exact (hp j i hj hi h').symm
/-- Places that differ, within 'n'. -/
def Diff (n : Nat) (zs : List Int) : Prop := zs.Nodup ∧ ∀ x ∈ zs, 0 ≤ x ∧ x < (n : Int)
theorem Diff.at {n : Nat} {zs : List Int} (h : Diff n zs) {i : Nat} (hi : i < zs.length) : 0 ≤ zs.getD i 0 ∧ zs.getD i 0 < (n : Int) := by
  have e1 : zs.getD i 0 = zs[i] := by simp [List.getD, hi]
  rw [e1]
  exact h.2 _ (List.getElem_mem hi)
theorem Diff.ne {n : Nat} {zs : List Int} (h : Diff n zs) {i j : Nat} (hi : i < zs.length) (hj : j < zs.length) (hne : i ≠ j) : (zs.getD i 0).toNat ≠ (zs.getD j 0).toNat := by
  have h1 := nodup_ne h.1 hi hj hne
  have h2 := h.at hi
  have h3 := h.at hj
  omega
/-- Rows of a spread at places that differ have full rank. -/
theorem pick_rk {n k : Nat} {zs : List Int} (h : Diff n zs) (hl : zs.length = k) (hn : n ≤ 256) (hkn : k ≤ n) : Gm.rk (fun t j => Gm.sprd k ((zs.getD t 0).toNat) j) k k = k := by
  refine Gm.spread_rk (p := fun t => (zs.getD t 0).toNat) (by omega) (fun t => ?_) (fun i j hi hj hne => h.ne (by omega) (by omega) hne)
  by_cases ht : t < zs.length
  · have := h.at ht
    show (zs.getD t 0).toNat < 256
    omega
  · show (zs.getD t 0).toNat < 256
    rw [show zs.getD t 0 = 0 by simp [List.getD, ht]]
    decide
set_option maxHeartbeats 1000000 in
theorem drawRows_any (a : Option Addr) (cn cap : Nat) (w : World) (hc : CodeAt w a cn) :
    Calls Try.prog 28 #[.slice a cn cap] w fun e w' => ∃ (k n G c : Nat) (zs : List Int), e = .returned (.tuple #[.int .i64 (k : Int), .int .i64 (n : Int), .slice (some ⟨G, 0, none⟩) k c]) ∧ (1 ≤ k ∧ k ≤ n ∧ n ≤ 16) ∧ zs.length = k ∧ IntsAt w' (some ⟨G, 0, none⟩) k zs ∧ Diff n zs ∧ Below w.heap.size w w' := by
  go_enter Try.func28, Try.ntmps28
  go_wp2_with fail
  refine (new_any a cn cap _ hc.1 hc.bytes).mono ?_
  rintro e w1 ⟨g, rfl, hg, hb1, hc1⟩
  have hab := hc.under hg
  clear hc
  go_wp2_with fail
  refine (belowN_any g cn cap a _ _ hc1).mono ?_
  rintro e w2 ⟨x, x0, x1, _, rfl, hg2, hc2⟩
  have x2 := x1 (by omega)
  obtain ⟨X, rfl⟩ := Int.eq_ofNat_of_zero_le x0
  clear x1 hc1
  go_wp2_with fail
  refine (belowN_any g cn cap a _ _ hc2).mono ?_
  rintro e w3 ⟨y, y0, y1, _, rfl, hg3, hc3⟩
  have y2 := y1 (by omega)
  obtain ⟨Y, rfl⟩ := Int.eq_ofNat_of_zero_le y0
  clear y1 hc2
  go_wp2_with fail
  rw [show (1 + (X : Int)) = ((1 + X : Nat) : Int) by omega, show (1 + (Y : Int)) = ((1 + Y : Nat) : Int) by omega]
  refine (places_any g cn cap a (1 + Y) (1 + X) _ hc3 hab (by omega) (by omega)).mono ?_
  rintro e w4 ⟨G, c, zs, rfl, hG, hown, hnd, hrng, hg4, hc4⟩
  have hl : zs.length = 1 + Y := by simpa using hown.1
  have HO : Hid (zs.length = 1 + Y ∧ IntsAt w4 (some ⟨G, 0, none⟩) (1 + Y) zs ∧ Diff (1 + X) zs ∧ Below w.heap.size w w4) := ⟨hl, ownsRow.ints hown, ⟨hnd, hrng⟩, below_g hb1 hg (grownBy_trans (grownBy_trans hg2 hg3) hg4)⟩
  clear hown hnd hrng hg4 hc4 hc3 hl
  go_wp2
  go_ret3
  exact ⟨1 + Y, 1 + X, G, c, zs, rfl, ⟨by omega, by omega, by omega⟩, HO.out.1, HO.out.2.1, HO.out.2.2.1, HO.out.2.2.2⟩
end Go.Proofs.Ytmggogdnfgkljaa
