/- The draws of chapter three's laws: matrices, and places that differ. Condition: at most 2^20 bytes of code. -/
import Derived.Test.YtmggogdnfgkljaaQDrawM
namespace Go.Proofs.Ytmggogdnfgkljaa
open Go.ChangeShapes Go.WideShapes Go.ChangeAt Go.RowKit

set_option maxHeartbeats 1000000 in
theorem anyM_any (g n cap : Nat) (a : Option Addr) (w : World) (hc : Cur w g a n cap) (hab : Under a n g) :
    Calls Try.prog 64 #[.pointer (some ⟨g, 0, none⟩)] w fun e w' => ∃ G m cap2, e = .returned (.slice (some ⟨G, 0, none⟩) m cap2) ∧ m ≤ 17 ∧ DM 6 w' w.heap.size w'.heap.size G m cap2 ∧ w.grownBy w' (some g) ∧ Cur w' g a n cap := by
  go_enter Try.func64, Try.ntmps64
  go_wp2_with fail
  refine (belowN_any g n cap a _ _ hc).mono ?_
  rintro e w1 ⟨x, x0, x1, _, rfl, hg1, hc1⟩
  have x2 := x1 (by omega)
  obtain ⟨X, rfl⟩ := Int.eq_ofNat_of_zero_le x0
  clear x1 hc
  go_wp2_with fail
  refine (belowN_any g n cap a _ _ hc1).mono ?_
  rintro e w2 ⟨y, y0, y1, _, rfl, hg2, hc2⟩
  have y2 := y1 (by omega)
  obtain ⟨Y, rfl⟩ := Int.eq_ofNat_of_zero_le y0
  clear y1 hc1
  go_wp2_with fail
  rw [show (1 + (X : Int)) = ((1 + X : Nat) : Int) by omega, show (1 + (Y : Int)) = ((1 + Y : Nat) : Int) by omega]
  refine (matrix_any g n cap a (1 + X) (1 + Y) _ hc2 hab (by omega) (by omega)).mono ?_
  rintro e w3 ⟨G, m, cap2, rfl, hm, hM, hg3, hc3⟩
  have HM : Hid _ := And.intro hM (And.intro hg3 hc3)
  clear hM hg3 hc3 hc2
  go_wp2
  go_ret
  refine ⟨G, m, cap2, rfl, hm, ?_, grownBy_trans (grownBy_trans hg1 hg2) HM.out.2.1, HM.out.2.2⟩
  obtain ⟨A, L, C, Z, h1, h2⟩ := HM.out.1
  exact ⟨A, L, C, Z, matBase h1 (Nat.le_trans hg1.size hg2.size), h2⟩
set_option maxHeartbeats 1000000 in
theorem square_any (g n cap : Nat) (a : Option Addr) (w : World) (hc : Cur w g a n cap) (hab : Under a n g) :
    Calls Try.prog 65 #[.pointer (some ⟨g, 0, none⟩)] w fun e w' => ∃ G m cap2, e = .returned (.slice (some ⟨G, 0, none⟩) m cap2) ∧ m ≤ 17 ∧ DM 6 w' w.heap.size w'.heap.size G m cap2 ∧ w.grownBy w' (some g) ∧ Cur w' g a n cap := by
  go_enter Try.func65, Try.ntmps65
  go_wp2_with fail
  refine (belowN_any g n cap a _ _ hc).mono ?_
  rintro e w1 ⟨x, x0, x1, _, rfl, hg1, hc1⟩
  have x2 := x1 (by omega)
  obtain ⟨X, rfl⟩ := Int.eq_ofNat_of_zero_le x0
  clear x1 hc
  go_wp2_with fail
  rw [show (1 + (X : Int)) = ((1 + X : Nat) : Int) by omega]
  refine (matrix_any g n cap a (1 + X) (1 + X) _ hc1 hab (by omega) (by omega)).mono ?_
  rintro e w3 ⟨G, m, cap2, rfl, hm, hM, hg3, hc3⟩
  have HM : Hid _ := And.intro hM (And.intro hg3 hc3)
  clear hM hg3 hc3 hc1
  go_wp2
  go_ret
  refine ⟨G, m, cap2, rfl, hm, ?_, grownBy_trans hg1 HM.out.2.1, HM.out.2.2⟩
  obtain ⟨A, L, C, Z, h1, h2⟩ := HM.out.1
  exact ⟨A, L, C, Z, matBase h1 hg1.size, h2⟩
/-- A list of rows that was drawn, in new memory. -/
def Drawn (w' : World) (v : Value) : Prop := ∃ G m cap L Z, v = .slice (some ⟨G, 0, none⟩) m cap ∧ m ≤ 17 ∧ MatAt w' (some ⟨G, 0, none⟩) m L Z ∧ ∀ i, i < m → L i ≤ 6
theorem DM.drawn {w : World} {B E G n cap : Nat} (h : DM 6 w B E G n cap) (hn : n ≤ 17) : Drawn w (.slice (some ⟨G, 0, none⟩) n cap) := by
  obtain ⟨L, Z, h1, h2⟩ := h.at
  exact ⟨G, n, cap, L, Z, rfl, hn, h1, fun i hi => (h2 i hi).2⟩
set_option maxHeartbeats 1000000 in
theorem drawMatInv_any (a : Option Addr) (n cap : Nat) (w : World) (hc : CodeAt w a n) :
    Calls Try.prog 15 #[.slice a n cap] w fun e w' => ∃ v, e = .returned v ∧ Drawn w' v ∧ Below w.heap.size w w' := by
  go_enter Try.func15, Try.ntmps15
  go_wp2_with fail
  refine (new_any a n cap _ hc.1 hc.bytes).mono ?_
  rintro e w1 ⟨g, rfl, hg, hb1, hc1⟩
  have hab := hc.under hg
  clear hc
  go_wp2_with fail
  refine (once_any g n cap a _ _ hc1).mono ?_
  rintro e w2 ⟨q, rfl, hg2, hc2⟩
  clear hc1
  cases q
  · go_wp2_with fail
    refine (square_any g n cap a _ hc2 hab).mono ?_
    rintro e w3 ⟨G, m, cap2, rfl, hm, hM, hg3, hc3⟩
    have HM : Hid _ := And.intro (hM.drawn hm) (below_g hb1 hg (grownBy_trans hg2 hg3))
    clear hM hg3 hc3 hc2
    go_wp2
    go_ret
    exact ⟨_, rfl, HM.out.1, HM.out.2⟩
  · go_wp2_with fail
    refine (anyM_any g n cap a _ hc2 hab).mono ?_
    rintro e w3 ⟨G, m, cap2, rfl, hm, hM, hg3, hc3⟩
    have HM : Hid _ := And.intro (hM.drawn hm) (below_g hb1 hg (grownBy_trans hg2 hg3))
    clear hM hg3 hc3 hc2
    go_wp2
    go_ret
    exact ⟨_, rfl, HM.out.1, HM.out.2⟩
theorem DM.far {u : Nat} {w w' : World} {B E G n cap g : Nat} (h : DM u w B E G n cap) (hg : w.grownBy w' (some g)) (hB : g < B) : DM u w' B E G n cap := h.cur hg hB
set_option maxHeartbeats 2000000 in
theorem drawMatMul_any (a : Option Addr) (n cap : Nat) (w : World) (hc : CodeAt w a n) :
    Calls Try.prog 25 #[.slice a n cap] w fun e w' => ∃ v u, e = .returned (.tuple #[v, u]) ∧ Drawn w' v ∧ Drawn w' u ∧ Below w.heap.size w w' := by
  go_enter Try.func25, Try.ntmps25
  go_wp2_with fail
  refine (new_any a n cap _ hc.1 hc.bytes).mono ?_
  rintro e w1 ⟨g, rfl, hg, hb1, hc1⟩
  have hab := hc.under hg
  clear hc
  go_wp2_with fail
  refine (belowN_any g n cap a _ _ hc1).mono ?_
  rintro e w2 ⟨x, x0, x1, _, rfl, hg2, hc2⟩
  have x2 := x1 (by omega)
  obtain ⟨X, rfl⟩ := Int.eq_ofNat_of_zero_le x0
  clear x1 hc1
  go_wp2_with fail
  refine (belowN_any g n cap a _ _ hc2).mono ?_
  rintro e w3 ⟨y, y0, y1, _, rfl, hg3, hc3⟩
  have y2 := y1 (by omega)
  obtain ⟨Y, rfl⟩ := Int.eq_ofNat_of_zero_le y0
  clear y1 hc2
  go_wp2_with fail
  refine (once_any g n cap a _ _ hc3).mono ?_
  rintro e w4 ⟨q, rfl, hg4, hc4⟩
  have hg24 := grownBy_trans (grownBy_trans hg2 hg3) hg4
  clear hc3 hg2 hg3 hg4
  cases q
  · go_wp2_with fail
    rw [show (1 + (X : Int)) = ((1 + X : Nat) : Int) by omega, show (1 + (Y : Int)) = ((1 + Y : Nat) : Int) by omega]
    refine (matrix_any g n cap a (1 + X) (1 + Y) _ hc4 hab (by omega) (by omega)).mono ?_
    rintro e w6 ⟨G, m, cap2, rfl, hm, hM, hg6, hc6⟩
    have hgl := hc4.lt
    have KM : Hid (DM 6 w6 w4.heap.size w6.heap.size G m cap2) := hM
    clear hM hc4
    go_wp2_with fail
    refine (belowN_any g n cap a _ _ hc6).mono ?_
    rintro e w7 ⟨z, z0, z1, _, rfl, hg7, hc7⟩
    have z2 := z1 (by omega)
    obtain ⟨Z, rfl⟩ := Int.eq_ofNat_of_zero_le z0
    clear z1 hc6
    go_wp2_with fail
    rw [show (1 + (Z : Int)) = ((1 + Z : Nat) : Int) by omega]
    refine (matrix_any g n cap a (1 + Y) (1 + Z) _ hc7 hab (by omega) (by omega)).mono ?_
    rintro e w8 ⟨G8, m8, cap8, rfl, hm8, hM8, hg8, hc8⟩
    have HM : Hid _ := And.intro (((DM.cur KM.out hg7 hgl).cur hg8 hgl).drawn hm) (And.intro (hM8.drawn hm8) (below_g hb1 hg (grownBy_trans hg24 (grownBy_trans hg6 (grownBy_trans hg7 hg8)))))
    clear hM8 hg8 hc8 hc7
    go_wp2
    go_ret2
    exact ⟨_, _, rfl, HM.out⟩
  · go_wp2_with fail
    refine (belowN_any g n cap a _ _ hc4).mono ?_
    rintro e w5 ⟨y', y0', y1', _, rfl, hg5, hc5⟩
    have y2' := y1' (by omega)
    obtain ⟨Y', rfl⟩ := Int.eq_ofNat_of_zero_le y0'
    clear y1' hc4
    go_wp2_with fail
    rw [show (1 + (X : Int)) = ((1 + X : Nat) : Int) by omega, show (1 + (Y : Int)) = ((1 + Y : Nat) : Int) by omega]
    refine (matrix_any g n cap a (1 + X) (1 + Y) _ hc5 hab (by omega) (by omega)).mono ?_
    rintro e w6 ⟨G, m, cap2, rfl, hm, hM, hg6, hc6⟩
    have hgl := hc5.lt
    have KM : Hid (DM 6 w6 w5.heap.size w6.heap.size G m cap2) := hM
    clear hM hc5
    go_wp2_with fail
    refine (belowN_any g n cap a _ _ hc6).mono ?_
    rintro e w7 ⟨z, z0, z1, _, rfl, hg7, hc7⟩
    have z2 := z1 (by omega)
    obtain ⟨Z, rfl⟩ := Int.eq_ofNat_of_zero_le z0
    clear z1 hc6
    go_wp2_with fail
    rw [show (1 + (Y' : Int)) = ((1 + Y' : Nat) : Int) by omega, show (1 + (Z : Int)) = ((1 + Z : Nat) : Int) by omega]
    refine (matrix_any g n cap a (1 + Y') (1 + Z) _ hc7 hab (by omega) (by omega)).mono ?_
    rintro e w8 ⟨G8, m8, cap8, rfl, hm8, hM8, hg8, hc8⟩
    have HM : Hid _ := And.intro (((DM.cur KM.out hg7 hgl).cur hg8 hgl).drawn hm) (And.intro (hM8.drawn hm8) (below_g hb1 hg (grownBy_trans (grownBy_trans hg24 hg5) (grownBy_trans hg6 (grownBy_trans hg7 hg8)))))
    clear hM8 hg8 hc8 hc7
    go_wp2
    go_ret2
    exact ⟨_, _, rfl, HM.out⟩
set_option maxHeartbeats 1000000 in
theorem drawSpread_any (a : Option Addr) (n cap : Nat) (w : World) (hc : CodeAt w a n) :
    Calls Try.prog 33 #[.slice a n cap] w fun e w' => ∃ x y : Int, e = .returned (.tuple #[.int .i64 x, .int .i64 y]) ∧ Below w.heap.size w w' := by
  go_enter Try.func33, Try.ntmps33
  go_wp2_with fail
  refine (new_any a n cap _ hc.1 hc.bytes).mono ?_
  rintro e w1 ⟨g, rfl, hg, hb1, hc1⟩
  clear hc
  go_wp2_with fail
  refine (belowN_any g n cap a _ _ hc1).mono ?_
  rintro e w2 ⟨x, x0, x1, _, rfl, hg2, hc2⟩
  clear x1 hc1
  go_wp2_with fail
  refine (belowN_any g n cap a _ _ hc2).mono ?_
  rintro e w3 ⟨y, y0, y1, _, rfl, hg3, hc3⟩
  have y2 := y1 (by omega)
  clear y1 hc2
  go_wp2
  go_ret2
  exact ⟨_, _, rfl, below_g hb1 hg (grownBy_trans hg2 hg3)⟩
end Go.Proofs.Ytmggogdnfgkljaa
