/- The model's functions over matrices: whether it is one, the unit, a spread. Conditions: at most 2^20 rows, at most 2^20 numbers a row. -/
import Derived.Test.YthnjhjgffkilcaaGreatDoorG19
import Derived.Test.YthnjhjgffkilcaaGreatDoorG18
import Derived.Test.YthnjhjgffkilcaaGreatDoorG10
import Derived.Test.YthnjhjgffkilcaaGreatDoorG12
import Derived.Deep.RegionLaw
namespace Go.Proofs.YthnjhjgffkilcaaGreatDoor
set_option maxRecDepth 2000
open Go.ChangeShapes Go.WideShapes Go.ChangeAt Go.RowKit

theorem all_zI (z : Nat → Int) (n : Nat) : (zI z n).all isB = true ↔ ∀ j, j < n → isB (z j) = true := by
  simp [zI, List.all_eq_true]
theorem MatI.pushed {wr w2 : World} {B b0 G k cap g2 cap3 gr W capr : Nat} {A : Nat → Option Addr} {C : Nat → Nat} {F : Nat → Nat → Nat} (o : Obj) (hM : MatI wr B b0 (some ⟨G, 0, none⟩) k cap A (fun _ => W) C (fun i j => ((F i j : Nat) : Int)))
    (hb : B ≤ b0) (hr : OwnR wr b0 gr W capr (F k)) (hgrow : (wr.alloc o).grownBy w2 (some G))
    (hout : w2.ownsRow B 43 1 (.slice (some ⟨g2, 0, none⟩) (k + 1) cap3) (k + 1) (hds A (fun _ => W) C k ++ [.slice (some ⟨gr, 0, none⟩) W capr])) :
    ∃ A' C', MatI w2 B w2.heap.size (some ⟨g2, 0, none⟩) (k + 1) cap3 A' (fun _ => W) C' (fun i j => ((F i j : Nat) : Int)) := by
  have hbo : Below wr.heap.size wr (wr.alloc o) := (Below.refl _ _).alloc (Nat.le_refl _) _
  have hM1 := hM.below hbo
  have hr1 : (wr.alloc o).ownsRow B 3 1 (.slice (some ⟨gr, 0, none⟩) W capr) W ((zI (fun j => ((F k j : Nat) : Int)) W).map (Value.int .i64)) := own_base (ownsRow_below hr hbo) hb
  have hgr := hr.lt.1
  refine ⟨_, _, (MatZ.push tiNe hM1 hgrow hout (Nat.le_refl _) ?_ hr1 (fun j hj y u ey eu => ?_)).congr (fun i _ => ⟨rfl, by split <;> rfl, rfl, fun j _ => by by_cases e : i = k; subst e; simp; simp [e]⟩)⟩
  · by_cases h0 : G < b0
    · exact Nat.le_trans (Nat.le_of_lt (Nat.lt_of_le_of_lt hgr hr.lt.2)) (Nat.le_trans hbo.size hgrow.size)
    · exact Nat.le_trans (Nat.le_of_lt (Nat.lt_of_le_of_lt hgr hr.lt.2)) (Nat.le_trans hbo.size hgrow.size)
  · cases eu
    have := hM.rE j hj y ey
    exact Nat.ne_of_lt (Nat.lt_of_lt_of_le this hgr)
theorem MatI.rowed {wr w2 : World} {B b0 gr : Nat} {a : Option Addr} {k cap W : Nat} {A : Nat → Option Addr} {C : Nat → Nat} {F : Nat → Nat → Nat} (o : Obj) (hM : MatI wr B b0 a k cap A (fun _ => W) C (fun i j => ((F i j : Nat) : Int))) (hgr : b0 ≤ gr) (hgrow : (wr.alloc o).grownBy w2 (some gr)) :
    MatI w2 B b0 a k cap A (fun _ => W) C (fun i j => ((F i j : Nat) : Int)) := (hM.below ((Below.refl _ _).alloc (Nat.le_refl _) o)).keptE hgrow hgr
theorem litM (w : World) (A : Nat → Option Addr) (L C : Nat → Nat) (Z : Nat → Nat → Int) : MatI (w.alloc (.cells #[] 43)) w.heap.size (w.alloc (.cells #[] 43)).heap.size (some ⟨w.heap.size, 0, none⟩) 0 0 A L C Z :=
  MatZ.zero _ _ _ _ _ _ _ _ _ _ (World.ownsRow_lit w #[] 0 (Nat.le_refl _) (by unfold maxLen; omega) rfl) (by simp)
theorem resLit0 (w w1 : World) (h : w.heap.size ≤ w1.heap.size) (c : Nat) (F : Nat → Nat → Nat) : ResM w (w1.alloc (.cells #[] 43)) (.slice (some ⟨w1.heap.size, 0, none⟩) 0 0) 0 c F :=
  ResM.mk (litM w1 (fun _ => none) (fun _ => c) (fun _ => 0) _) h

set_option maxHeartbeats 2000000 in
theorem sMatOk_any (a : Option Addr) (n cap : Nat) (L : Nat → Nat) (Z : Nat → Nat → Int) (w : World) (h : MatAt w a n L Z) (hL : ∀ i, i < n → L i ≤ 1048576) :
    Calls Tryz.prog 236 #[.slice a n cap] w fun e w' => e = .returned (.bool (okM n L Z)) ∧ Below w.heap.size w w' := by
  by_cases hn : 1 ≤ n ∧ n ≤ 16
  · have hs1 : inB (n : Int) 1 16 = true := by unfold inB; simp; omega
    have hn0' : 0 < n := by omega
    have hn0i : (0 : Int) < (n : Int) := by omega
    obtain ⟨b0, off0, ai0, ci0, e0, hc0, _⟩ := h 0 (by omega)
    subst e0
    rw [Nat.add_zero] at hc0
    by_cases hl : 1 ≤ L 0 ∧ L 0 ≤ 16
    · have hs2 : inB (L 0 : Int) 1 16 = true := by unfold inB; simp; omega
      have KO : Hid (∀ q, q ≤ n → (∀ i, i < q → L i = L 0 ∧ ∀ j, j < L 0 → isB (Z i j) = true) → q < n → ¬ (L q = L 0 ∧ ∀ j, j < L 0 → isB (Z q j) = true) → okM n L Z = false) := fun q _ _ h2 h3 => okM_no (fun hh => h3 (hh.2.2.2.2 q h2))
      have KY : Hid ((∀ i, i < n → L i = L 0 ∧ ∀ j, j < L 0 → isB (Z i j) = true) → okM n L Z = true) := fun h1 => okM_yes ⟨hn.1, hn.2, hl.1, hl.2, h1⟩
      generalize okM n L Z = okf at KO KY
      have KH : Hid (MatAt w (some ⟨b0, off0, none⟩) n L Z) := h
      obtain ⟨l, hl0⟩ : ∃ l, L 0 = l := ⟨_, rfl⟩
      rw [hl0] at hc0 hl hs2 KO KY
      have KL : Hid _ := hL
      clear h hL hl0
      go_enter Tryz.func236, Tryz.ntmps236
      go_wp2_with (go_at_call 77; refine (sIn_any _ _ _ _).mono ?_; rintro e w' ⟨rfl, hw⟩; obtain rfl := hw.symm)
      go_loopw [3] (fun p wr => ∃ k : Nat, k ≤ n ∧ p = .int .i64 (k : Int) ∧ Hid (∀ i, i < k → L i = l ∧ ∀ j, j < l → isB (Z i j) = true) ∧ Below w.heap.size w wr) (fun p _ => n - (intOf p).toNat)
      case atStart => exact ⟨0, Nat.zero_le _, rfl, fun i hi => by omega, Below.refl _ _⟩
      case round =>
        obtain ⟨k, hk, rfl, HB, hbel⟩ := hrel
        by_cases hlt : k < n
        · have hki : (k : Int) < (n : Int) := by omega
          obtain ⟨b, off, ai, ci, eb, hc, hr⟩ := KH.out.below hbel k hlt
          cases eb
          have hc0' := (hbel.cell (p := ⟨b0, off0, none⟩) (block_lt_of_cell hc0)).trans hc0
          have hLk := KL.out k hlt
          clear hc0
          by_cases hkl : L k = l
          · rw [hkl] at hc hr
            have hS := fun w h => sBytes_any ai l ci (zI (Z k) l) w h (by omega)
            have hall := all_zI (Z k) l
            obtain ⟨ba, hba⟩ : ∃ ba, (zI (Z k) l).all isB = ba := ⟨_, rfl⟩
            rw [hba] at hS hall
            clear hba
            cases ba with
            | true =>
              have HB2 : Hid (∀ i, i < k + 1 → L i = l ∧ ∀ j, j < l → isB (Z i j) = true) := fun i hi => by
                by_cases e : i = k
                · subst e; exact ⟨hkl, hall.1 rfl⟩
                · exact HB.out i (by omega)
              clear hall
              generalize zI (Z k) l = zs at hr hS
              go_wp2_with fail
              go_quiet ((go_at_call 263; exact Calls.quiet_of_same (hS _ (hr.below ⟨rfl, rfl, rfl, Nat.le_refl _, fun _ _ => rfl⟩))))
              go_wp2
              go_roundw
              case rel => exact ⟨k + 1, by omega, by go_num, HB2, below_drewN hbel _⟩
              case measure => simp [intOf] <;> omega
            | false =>
              have HN : Hid (okf = false) := KO.out k (by omega) HB.out hlt (fun hh => by have := hall.2 hh.2; cases this)
              clear hall
              generalize zI (Z k) l = zs at hr hS
              go_wp2_with fail
              go_quiet ((go_at_call 263; exact Calls.quiet_of_same (hS _ (hr.below ⟨rfl, rfl, rfl, Nat.le_refl _, fun _ _ => rfl⟩))))
              go_wp2
              go_ret
              exact ⟨ret_bool HN.out.symm, below_drewN hbel _⟩
          · have HN : Hid (okf = false) := KO.out k (by omega) HB.out hlt (fun hh => hkl hh.1)
            have hne : ((L k : Int) != (l : Int)) = true := by simp; omega
            clear hr
            generalize L k = lk at hc hne
            go_wp2_with fail
            go_quiet (fail)
            go_wp2
            go_ret
            exact ⟨ret_bool HN.out.symm, below_drewN hbel _⟩
        · obtain rfl : k = n := by omega
          have HN : Hid (okf = true) := KY.out HB.out
          go_wp2
          go_ret
          exact ⟨ret_bool HN.out.symm, hbel⟩
    · have hs2 : inB (L 0 : Int) 1 16 = false := by unfold inB; simp; omega
      have HN : Hid (okM n L Z = false) := okM_no (fun hh => hl ⟨hh.2.2.1, hh.2.2.2.1⟩)
      generalize okM n L Z = okf at HN
      clear h hL hl
      generalize L 0 = l at hc0 hs2
      go_enter Tryz.func236, Tryz.ntmps236
      go_wp2_with (go_at_call 77; refine (sIn_any _ _ _ _).mono ?_; rintro e w' ⟨rfl, hw⟩; obtain rfl := hw.symm)
      go_ret
      exact ⟨ret_bool HN.out.symm, Below.refl _ _⟩
  · have hs1 : inB (n : Int) 1 16 = false := by unfold inB; simp; omega
    have HN : Hid (okM n L Z = false) := okM_no (fun hh => hn ⟨hh.1, hh.2.1⟩)
    generalize okM n L Z = okf at HN
    clear h hL
    go_enter Tryz.func236, Tryz.ntmps236
    go_wp2_with (go_at_call 77; refine (sIn_any _ _ _ _).mono ?_; rintro e w' ⟨rfl, hw⟩; obtain rfl := hw.symm)
    go_ret
    exact ⟨ret_bool HN.out.symm, Below.refl _ _⟩
end Go.Proofs.YthnjhjgffkilcaaGreatDoor
/- How long each body is, in the program and in its model, at every two numbers. No condition. -/
namespace Go.Proofs.YthnjhjgffkilcaaGreatDoor
set_option maxRecDepth 2000
open Go.ChangeShapes Go.WideShapes Go.ChangeAt Go.RowKit

def blOk (s k : Int) : Bool := decide (0 ≤ s ∧ s ≤ 2000) && side k
def blI (s k : Int) : Int := if blOk s k = true then ((blen s.toNat k.toNat : Nat) : Int) else -1
theorem blI_yes {s k : Nat} (hs : s ≤ 2000) (hk : 1 ≤ k) (hk2 : k ≤ 16) : blI (s : Int) (k : Int) = ((blen s k : Nat) : Int) := by
  unfold blI
  rw [if_pos (by unfold blOk side; simp; omega)]
  simp
theorem blI_no {s k : Int} (h : ¬ (0 ≤ s ∧ s ≤ 2000 ∧ 1 ≤ k ∧ k ≤ 16)) : blI s k = -1 := by
  unfold blI
  rw [if_neg]
  unfold blOk side
  simp
  omega
theorem quo_blen {s k : Nat} (_hk : 1 ≤ k) : Int.tdiv ((s : Int) + 2 + (k : Int) - 1) (k : Int) = ((blen s k : Nat) : Int) := by
  unfold blen
  rw [show (s : Int) + 2 + (k : Int) - 1 = ((s + 2 + k - 1 : Nat) : Int) by omega, ← Int.ofNat_tdiv]
set_option maxHeartbeats 1000000 in
theorem bodyLen_any (s k : Int) (w : World) : Calls Tryz.prog 103 #[.int .i64 s, .int .i64 k] w fun e w' => e = .returned (.int .i64 (blI s k)) ∧ w' = w := by
  by_cases h : 0 ≤ s ∧ s ≤ 2000 ∧ 1 ≤ k ∧ k ≤ 16
  · obtain ⟨h1, h2, h3, h4⟩ := h
    obtain ⟨S, rfl⟩ := Int.eq_ofNat_of_zero_le h1
    obtain ⟨K, rfl⟩ := Int.eq_ofNat_of_zero_le (show 0 ≤ k by omega)
    have hsd : side (K : Int) = true := by rw [side_nat]; simp; omega
    have HB : Hid (blI (S : Int) (K : Int) = ((blen S K : Nat) : Int)) := blI_yes (by omega) (by omega) (by omega)
    have hq := quo_blen (s := S) (k := K) (by omega)
    have h1' : ¬ (S : Int) < 0 := by omega
    have h2' : ¬ (S : Int) > 2000 := by omega
    have hw1 : IntKind.i64.wrap (2 + (S : Int)) = (S : Int) + 2 := by rw [IntKind.wrap_i64]; omega
    have hw2 : IntKind.i64.wrap ((S : Int) + 2 + (K : Int)) = (S : Int) + 2 + (K : Int) := by rw [IntKind.wrap_i64]; omega
    have hw3 : IntKind.i64.wrap ((S : Int) + 2 + (K : Int) - 1) = (S : Int) + 2 + (K : Int) - 1 := by rw [IntKind.wrap_i64]; omega
    have hbl := blen_le (s := S) (k := K) (by omega)
    have hw4 : IntKind.i64.wrap ((blen S K : Nat) : Int) = ((blen S K : Nat) : Int) := by rw [IntKind.wrap_i64]; omega
    have hk0 : ((K : Int) == 0) = false := by simp; omega
    have hk0' : ¬ ((K : Int) = 0) := by omega
    generalize blen S K = b at hq hw4 HB
    go_enter Tryz.func103, Tryz.ntmps103
    go_wp2_with (go_at_call 140; refine (isSide_any _ _).mono ?_; rintro e w' ⟨rfl, hw⟩; obtain rfl := hw.symm)
    go_ret
    exact ⟨ret_int (by rw [HB.out] <;> simp [*]), rfl⟩
  · have HB : Hid (blI s k = -1) := blI_no h
    by_cases h1 : s < 0
    · go_enter Tryz.func103, Tryz.ntmps103
      go_wp2
      go_ret
      exact ⟨ret_int HB.out.symm, rfl⟩
    · by_cases h2 : s > 2000
      · go_enter Tryz.func103, Tryz.ntmps103
        go_wp2
        go_ret
        exact ⟨ret_int HB.out.symm, rfl⟩
      · have hsd : side k = false := by unfold side; simp; omega
        go_enter Tryz.func103, Tryz.ntmps103
        go_wp2_with (go_at_call 140; refine (isSide_any _ _).mono ?_; rintro e w' ⟨rfl, hw⟩; obtain rfl := hw.symm)
        go_ret
        exact ⟨ret_int HB.out.symm, rfl⟩
set_option maxHeartbeats 1000000 in
theorem sBodyLen_any (s k : Int) (w : World) : Calls Tryz.prog 110 #[.int .i64 s, .int .i64 k] w fun e w' => e = .returned (.int .i64 (blI s k)) ∧ w' = w := by
  by_cases h : 0 ≤ s ∧ s ≤ 2000 ∧ 1 ≤ k ∧ k ≤ 16
  · obtain ⟨h1, h2, h3, h4⟩ := h
    obtain ⟨S, rfl⟩ := Int.eq_ofNat_of_zero_le h1
    obtain ⟨K, rfl⟩ := Int.eq_ofNat_of_zero_le (show 0 ≤ k by omega)
    have hi1 : inB (S : Int) 0 2000 = true := by unfold inB; simp; omega
    have hi2 : inB (K : Int) 1 16 = true := by unfold inB; simp; omega
    have HB : Hid (blI (S : Int) (K : Int) = ((blen S K : Nat) : Int)) := blI_yes (by omega) (by omega) (by omega)
    have hq := quo_blen (s := S) (k := K) (by omega)
    have hw1 : IntKind.i64.wrap ((S : Int) + 2) = (S : Int) + 2 := by rw [IntKind.wrap_i64]; omega
    have hw2 : IntKind.i64.wrap ((S : Int) + 2 + (K : Int)) = (S : Int) + 2 + (K : Int) := by rw [IntKind.wrap_i64]; omega
    have hw3 : IntKind.i64.wrap ((S : Int) + 2 + (K : Int) - 1) = (S : Int) + 2 + (K : Int) - 1 := by rw [IntKind.wrap_i64]; omega
    have hbl := blen_le (s := S) (k := K) (by omega)
    have hw4 : IntKind.i64.wrap ((blen S K : Nat) : Int) = ((blen S K : Nat) : Int) := by rw [IntKind.wrap_i64]; omega
    have hk0 : ((K : Int) == 0) = false := by simp; omega
    have hk0' : ¬ ((K : Int) = 0) := by omega
    generalize blen S K = b at hq hw4 HB
    go_enter Tryz.func110, Tryz.ntmps110
    go_wp2_with (go_at_call 77; refine (sIn_any _ _ _ _).mono ?_; rintro e w' ⟨rfl, hw⟩; obtain rfl := hw.symm)
    go_ret
    exact ⟨ret_int (by rw [HB.out] <;> simp [*]), rfl⟩
  · have HB : Hid (blI s k = -1) := blI_no h
    by_cases h1 : 0 ≤ s ∧ s ≤ 2000
    · have hi1 : inB s 0 2000 = true := by unfold inB; simp; omega
      have hi2 : inB k 1 16 = false := by unfold inB; simp; omega
      go_enter Tryz.func110, Tryz.ntmps110
      go_wp2_with (go_at_call 77; refine (sIn_any _ _ _ _).mono ?_; rintro e w' ⟨rfl, hw⟩; obtain rfl := hw.symm)
      go_ret
      exact ⟨ret_int HB.out.symm, rfl⟩
    · have hi1 : inB s 0 2000 = false := by unfold inB; simp; omega
      go_enter Tryz.func110, Tryz.ntmps110
      go_wp2_with (go_at_call 77; refine (sIn_any _ _ _ _).mono ?_; rintro e w' ⟨rfl, hw⟩; obtain rfl := hw.symm)
      go_ret
      exact ⟨ret_int HB.out.symm, rfl⟩
end Go.Proofs.YthnjhjgffkilcaaGreatDoor
/- The model's unit, of any number of rows up to 2^10; the unit; a spread. -/
namespace Go.Proofs.YthnjhjgffkilcaaGreatDoor
set_option maxRecDepth 2000
open Go.ChangeShapes Go.WideShapes Go.ChangeAt Go.RowKit

set_option maxHeartbeats 2000000 in
theorem sUnit0_any (n : Nat) (w : World) (hn : n ≤ 1000) :
    Calls Tryz.prog 157 #[.int .i64 (n : Int)] w fun e w' => ∃ G cap A C, e = .returned (.slice (some ⟨G, 0, none⟩) n cap) ∧ MatI w' w.heap.size w'.heap.size (some ⟨G, 0, none⟩) n cap A (fun _ => n) C (fun i j => ((Gm.dl i j : Nat) : Int)) ∧ Below w.heap.size w w' := by
  obtain ⟨i0, hi, hz0, hz1, hz2⟩ := info_parts Tryz.infoInt
  obtain ⟨i1, hj, hy0, hy1, hy2⟩ := info_parts Tryz.infoInts
  have H0 : Hid (MatI (w.alloc (.cells #[] 43)) w.heap.size (w.alloc (.cells #[] 43)).heap.size (some ⟨w.heap.size, 0, none⟩) 0 0 (fun _ => none) (fun _ => n) (fun _ => 0) (fun i j => ((Gm.dl i j : Nat) : Int))) := litM w _ _ _ _
  go_enter Tryz.func157, Tryz.ntmps157
  go_wp2
  go_loopw [3, 4] (fun v i wr => ∃ k G cap A C, k ≤ n ∧ i = .int .i64 ((k : Nat) : Int) ∧ v = .slice (some ⟨G, 0, none⟩) k cap ∧ MatI wr w.heap.size wr.heap.size (some ⟨G, 0, none⟩) k cap A (fun _ => n) C (fun i j => ((Gm.dl i j : Nat) : Int)) ∧ Below w.heap.size w wr) (fun _ i _ => n - (intOf i).toNat)
  case atStart => exact ⟨0, _, _, _, _, Nat.zero_le _, rfl, rfl, H0.out, (Below.refl _ _).alloc (Nat.le_refl _) _⟩
  case round =>
    obtain ⟨k, G, cap, A, C, hk, rfl, rfl, hM, hbel⟩ := hrel
    clear H0
    by_cases hlt : k < n
    · have hki : (k : Int) < (n : Int) := by omega
      have hsz0 := hbel.size
      have KR : Hid (OwnR (wr.alloc (.cells #[] 3)) wr.heap.size wr.heap.size 0 0 (Gm.dl k)) := lit0 wr (Gm.dl k)
      have KM : Hid (MatI (wr.alloc (.cells #[] 3)) w.heap.size wr.heap.size (some ⟨G, 0, none⟩) k cap A (fun _ => n) C (fun i j => ((Gm.dl i j : Nat) : Int))) := hM.below ((Below.refl _ _).alloc (Nat.le_refl _) _)
      have KB : Hid (Below w.heap.size w (wr.alloc (.cells #[] 3))) := hbel.alloc hsz0 _
      have hGl := hM.olt.1
      clear hM hbel
      obtain ⟨b0, hb0⟩ : ∃ b0, wr.heap.size = b0 := ⟨_, rfl⟩
      rw [hb0] at KR KM hsz0
      go_wp2
      clear hb0
      go_loopw [5, 6] (fun v i wr => ∃ q gr capr, q ≤ n ∧ i = .int .i64 ((q : Nat) : Int) ∧ v = .slice (some ⟨gr, 0, none⟩) q capr ∧ OwnR wr b0 gr q capr (Gm.dl k) ∧ MatI wr w.heap.size b0 (some ⟨G, 0, none⟩) k cap A (fun _ => n) C (fun i j => ((Gm.dl i j : Nat) : Int)) ∧ Below w.heap.size w wr) (fun _ i _ => n - (intOf i).toNat)
      case atStart => exact ⟨0, _, _, Nat.zero_le _, rfl, rfl, KR.out, KM.out, KB.out⟩
      case round =>
        obtain ⟨q, gr, capr, hq, rfl, rfl, hown, hM, hbel⟩ := hrel
        clear KR KM KB
        have hgr := hown.lt.1
        have hsz := hbel.size
        have hglt := hown.lt.2
        by_cases hqn : q < n
        · have hqi : (q : Int) < (n : Int) := by omega
          obtain ⟨x, hx⟩ : ∃ x, Gm.dl k q = x := ⟨_, rfl⟩
          by_cases e : k = q
          · subst e
            have hxe : Gm.dl k k = 1 := Gm.dl_self k
            clear hx
            go_wp2_with (at_builtin; refine wpList_append_lies _ (by rfl) _ _ 43 (by rfl) b0 3 i0 (.int .i64 0) 1 8 Tryz.underlying43 hi hz0 hz1 hz2 rfl (by decide) (.slice (some ⟨gr, 0, none⟩) k capr) k _ (by rfl) (World.ownsRow.alloc hown _) ⟨wr.heap.size, 0, none⟩ 1 1 [.int .i64 1] (by rfl) (by rfl) (World.news_of_block (cs := #[.int .i64 1]) (t := 3) (fr := (0, 0)) (heap_alloc_new wr _)) (by simp [Value.oneCell']) (by omega) (by unfold maxLen; omega) (by omega) (by simp; omega) (wr.heap.size + 1) (by simp) ?_; intro g2 cap3 w2 hown2 hgrow hat hltg)
            have HO : Hid (OwnR w2 b0 g2 (k + 1) cap3 (Gm.dl k)) := OwnR.snoc (by rw [hxe]; exact hown2)
            have HM : Hid (MatI w2 w.heap.size b0 (some ⟨G, 0, none⟩) k cap A (fun _ => n) C (fun i j => ((Gm.dl i j : Nat) : Int))) := MatI.rowed _ hM hgr hgrow
            have hb' : Below w.heap.size w w2 := (hbel.alloc hsz _).grown (show World.grownBy _ w2 (some gr) from hgrow) (by simp; omega) (fun j hj => by cases hj; omega)
            clear hown2 hgrow hat hltg hown hM
            go_roundw
            case rel => exact ⟨k + 1, g2, cap3, by omega, by go_num, rfl, HO.out, HM.out, hb'⟩
            case measure => simp [intOf] <;> omega
          · have hxe : Gm.dl k q = 0 := Gm.dl_ne e
            have hee : ((k : Int) == (q : Int)) = false := by simp; omega
            clear hx
            go_wp2_with (at_builtin; refine wpList_append_lies _ (by rfl) _ _ 43 (by rfl) b0 3 i0 (.int .i64 0) 1 8 Tryz.underlying43 hi hz0 hz1 hz2 rfl (by decide) (.slice (some ⟨gr, 0, none⟩) q capr) q _ (by rfl) (World.ownsRow.alloc hown _) ⟨wr.heap.size, 0, none⟩ 1 1 [.int .i64 0] (by rfl) (by rfl) (World.news_of_block (cs := #[.int .i64 0]) (t := 3) (fr := (0, 0)) (heap_alloc_new wr _)) (by simp [Value.oneCell']) (by omega) (by unfold maxLen; omega) (by omega) (by simp; omega) (wr.heap.size + 1) (by simp) ?_; intro g2 cap3 w2 hown2 hgrow hat hltg)
            have HO : Hid (OwnR w2 b0 g2 (q + 1) cap3 (Gm.dl k)) := OwnR.snoc (by rw [hxe]; exact hown2)
            have HM : Hid (MatI w2 w.heap.size b0 (some ⟨G, 0, none⟩) k cap A (fun _ => n) C (fun i j => ((Gm.dl i j : Nat) : Int))) := MatI.rowed _ hM hgr hgrow
            have hb' : Below w.heap.size w w2 := (hbel.alloc hsz _).grown (show World.grownBy _ w2 (some gr) from hgrow) (by simp; omega) (fun j hj => by cases hj; omega)
            clear hown2 hgrow hat hltg hown hM
            go_roundw
            case rel => exact ⟨q + 1, g2, cap3, by omega, by go_num, rfl, HO.out, HM.out, hb'⟩
            case measure => simp [intOf] <;> omega
        · obtain rfl : q = n := by omega
          have hqi : ¬ (q : Int) < (q : Int) := by omega
          go_wp2_with (at_builtin; refine wpList_append_lies _ (by rfl) _ _ 107 (by rfl) w.heap.size 43 i1 (.slice none 0 0) 1 24 Tryz.underlying107 hj hy0 hy1 hy2 rfl (by decide) (.slice (some ⟨G, 0, none⟩) k cap) k _ (by rfl) (World.ownsRow.alloc hM.out _) ⟨wr.heap.size, 0, none⟩ 1 1 [.slice (some ⟨gr, 0, none⟩) q capr] (by rfl) (by rfl) (World.news_of_block (cs := #[.slice (some ⟨gr, 0, none⟩) q capr]) (t := 43) (fr := (0, 0)) (heap_alloc_new wr _)) (by simp [Value.oneCell']) (by omega) (by unfold maxLen; omega) (by omega) (by simp; omega) (wr.heap.size + 1) (by simp) ?_; intro g2 cap3 w2 hown2 hgrow hat hltg)
          obtain ⟨A', C', hP⟩ := MatI.pushed _ hM hsz0 hown hgrow hown2
          have HP : Hid (MatI w2 w.heap.size w2.heap.size (some ⟨g2, 0, none⟩) (k + 1) cap3 A' (fun _ => q) C' (fun i j => ((Gm.dl i j : Nat) : Int))) := hP
          have hb' : Below w.heap.size w w2 := (hbel.alloc hsz _).grown (show World.grownBy _ w2 (some G) from hgrow) (by simp; omega) (fun j hj => by cases hj; exact hGl)
          clear hown2 hgrow hat hltg hown hM hP
          go_roundw
          case rel => exact ⟨k + 1, g2, cap3, A', C', by omega, by go_num, rfl, HP.out, hb'⟩
          case measure => simp [intOf] <;> omega
    · obtain rfl : k = n := by omega
      have KM : Hid _ := hM
      clear hM
      go_wp2
      go_ret
      exact ⟨G, cap, A, C, rfl, KM.out, hbel⟩
end Go.Proofs.YthnjhjgffkilcaaGreatDoor
/- Matrices in memory, the second part: a row that has grown is put in its place again. Lemmas alone; conditions stand at each. -/
namespace Go.Proofs.YthnjhjgffkilcaaGreatDoor
set_option maxRecDepth 2000
open Go.ChangeShapes Go.WideShapes Go.ChangeAt Go.RowKit
section
variable {k : IntKind} {T TT : Nat} {w w' : World} {B E : Nat} {n cap : Nat} {A : Nat → Option Addr} {L C : Nat → Nat} {Z : Nat → Nat → Int}
theorem MatZ.grew (hT : T ≠ TT) {G g0 g i l c E' : Nat} {z : Nat → Int} (h : MatZ k T TT w B E (some ⟨G, 0, none⟩) n cap A L C Z) (hi : i < n) (hA : A i = some ⟨g0, 0, none⟩) (hg : w.grownBy w' (some g0))
    (hrow : w'.ownsRow B T 1 (.slice (some ⟨g, 0, none⟩) l c) l ((zI z l).map (Value.int k))) (hat : g = g0 ∨ w.heap.size ≤ g) (hE : E ≤ E') (hE' : g < E') :
    w'.cell? ⟨G, i, none⟩ = some (.slice (A i) (L i) (C i)) ∧ w'.frozen? ⟨G, i, none⟩ = false ∧
    MatZ k T TT (w'.setCell ⟨G, i, none⟩ (.slice (some ⟨g, 0, none⟩) l c)) B E' (some ⟨G, 0, none⟩) n cap (fun j => if j = i then some ⟨g, 0, none⟩ else A j) (fun j => if j = i then l else L j) (fun j => if j = i then c else C j) (fun j => if j = i then z else Z j) ∧ w'.grownBy (w'.setCell ⟨G, i, none⟩ (.slice (some ⟨g, 0, none⟩) l c)) (some G) := by
  have hgs := grown_set w' G i (.slice (some ⟨g, 0, none⟩) l c)
  have ho := own_kept h.out hg (fun x e => by cases e; exact (h.off hT hi hA).symm)
  have hgG : g ≠ G := by
    intro e
    subst e
    rcases own_shape hrow with ⟨h', _⟩ | ⟨g1, c1, e1, _, hg1, _⟩
    · cases h'
    · rcases own_shape ho with ⟨h', _⟩ | ⟨g2, c2, e2, _, hg2, _⟩
      · cases h'
      · cases e1
        cases e2
        rw [hg1] at hg2
        cases hg2
        exact hT rfl
  refine ⟨?_, ho.frozenAt i, ⟨?_, fun x e => ?_, fun p hp => ?_, fun p hp x ex => ?_, fun p q hp hq hpq x y ex ey => ?_⟩, hgs⟩
  · rw [ho.cellAt i (by omega), hds_get _ _ _ _ _ hi]
  · have h1 := (ho.stored i (.slice (some ⟨g, 0, none⟩) l c)).1
    rw [hds_set] at h1
    exact h1
  · have := h.oE x e; omega
  · by_cases e : p = i
    · subst e
      simp only [if_pos]
      exact own_kept hrow hgs (fun x ex => by cases ex; exact hgG)
    · simp only [if_neg e]
      have h1 := own_kept (h.row p hp) hg (fun x ex => h.apart p i hp hi e x _ ex hA)
      refine own_kept h1 hgs (fun x ex => ?_)
      have hr := h.row p hp
      rw [ex] at hr
      rcases own_shape hr with ⟨h', _⟩ | ⟨g1, c1, e1, _⟩
      · cases h'
      · cases e1
        exact h.off hT hp ex
  · by_cases e : p = i
    · simp only [if_pos e] at ex; cases ex; exact hE'
    · simp only [if_neg e] at ex
      have := h.rE p hp x ex
      omega
  · have key : ∀ q, q < n → q ≠ i → ∀ y, A q = some y → y.block ≠ g := fun q hq hqi y ey => by
      rcases hat with rfl | hat
      · exact h.apart q i hq hi hqi y _ ey hA
      · have hr := h.row q hq
        rw [ey] at hr
        have := (hr.lt y.block rfl).2
        omega
    by_cases e : p = i
    · simp only [if_pos e] at ex
      cases ex
      simp only [if_neg (show q ≠ i by omega)] at ey
      exact (key q hq (by omega) y ey).symm
    · simp only [if_neg e] at ex
      by_cases e2 : q = i
      · simp only [if_pos e2] at ey
        cases ey
        exact key p hp e x ex
      · simp only [if_neg e2] at ey
        exact h.apart p q hp hq hpq x y ex ey
end
theorem news_below {w w' : World} {ad : Addr} {news : List Value} (h : ∀ j u, news[j]? = some u → w.cell? (ad.add j) = some u) (hb : Below w.heap.size w w') : ∀ j u, news[j]? = some u → w'.cell? (ad.add j) = some u := fun j u hu =>
  (hb.cell (p := ad.add j) (block_lt_of_cell (h j u hu))).trans (h j u hu)
theorem own_zI {w : World} {B T l : Nat} {v : Value} {xs : List Int} (h : w.ownsRow B T 1 v l (xs.map (Value.int .i64))) : w.ownsRow B T 1 v l ((zI (fun j => xs.getD j 0) l).map (Value.int .i64)) := by
  have hlen : xs.length = l := by simpa using h.1
  have e : zI (fun j => xs.getD j 0) l = xs := by rw [← hlen]; exact zI_of xs
  rw [e]
  exact h
end Go.Proofs.YthnjhjgffkilcaaGreatDoor
/- The program's sums of a row: pieces, or texts, each times its number. Conditions: at most 16 parts, at most 2^20 bytes each. -/
namespace Go.Proofs.YthnjhjgffkilcaaGreatDoor
set_option maxRecDepth 2000
open Go.ChangeShapes Go.WideShapes Go.ChangeAt Go.RowKit

/-- A row of bytes of ours. -/
def OwnB (w : World) (B g n cap : Nat) (f : Nat → Nat) : Prop := w.ownsRow B 5 1 (.slice (some ⟨g, 0, none⟩) n cap) n ((eI f n).map (Value.int .u8))
theorem OwnB.lt {w : World} {B g n cap : Nat} {f : Nat → Nat} (h : OwnB w B g n cap f) : B ≤ g ∧ g < w.heap.size := World.ownsRow.lt h g rfl
theorem OwnB.cell {w : World} {B g n cap i : Nat} {f : Nat → Nat} (h : OwnB w B g n cap f) (hi : i < n) : w.cell? ⟨g, i, none⟩ = some (.int .u8 ((f i : Nat) : Int)) := by
  rw [World.ownsRow.cellAt h i (by omega)]
  simp [eI, hi]
theorem OwnB.below {w w' : World} {B g n cap : Nat} {f : Nat → Nat} (h : OwnB w B g n cap f) (hb : Below w.heap.size w w') : OwnB w' B g n cap f := ownsRow_below h hb
theorem OwnB.congr {w : World} {B g n cap : Nat} {f h : Nat → Nat} (ho : OwnB w B g n cap f) (e : ∀ i, i < n → f i = h i) : OwnB w B g n cap h := by
  unfold OwnB at *
  rw [← eI_congr e]
  exact ho
theorem OwnB.set {w : World} {B g n cap k v : Nat} {f : Nat → Nat} (h : OwnB w B g n cap f) (hk : k < n) :
    OwnB (w.setCell ⟨g, k, none⟩ (.int .u8 (v : Int))) B g n cap (fun i => if i = k then v else f i) ∧ w.grownBy (w.setCell ⟨g, k, none⟩ (.int .u8 (v : Int))) (some g) := by
  have h1 := (World.ownsRow.stored h k (.int .u8 (v : Int))).1
  rw [eI_set f n k v .u8 hk] at h1
  exact ⟨h1, grown_set w g k _⟩
/-- What is summed of the first 'i' parts. -/
def rs (R : Nat → Nat) (T : Nat → Nat → Nat) (i p : Nat) : Nat := Gm.sm (fun t => Gp.m (R t) (T t p)) i
theorem rs_lt (R : Nat → Nat) (T : Nat → Nat → Nat) (i p : Nat) : rs R T i p < 256 := Gm.sm_lt (fun _ => Gp.m_lt _ _) _
theorem rs_step {R : Nat → Nat} {T : Nat → Nat → Nat} {i q : Nat} (hR : R i < 256) (hT : T i q < 256) (p : Nat) : (if p = q then rs R T i q ^^^ Gf.mul (T i q) (R i) else if p < q then rs R T (i + 1) p else rs R T i p) = if p < q + 1 then rs R T (i + 1) p else rs R T i p := by
  by_cases e : p = q
  · subst e
    rw [if_pos rfl, if_pos (by omega), Gp.m_nat hT hR, Gp.m_comm]
    rfl
  · rw [if_neg e]
    by_cases e2 : p < q
    · rw [if_pos e2, if_pos (by omega)]
    · rw [if_neg e2, if_neg (by omega)]
/-- Pieces that are read. -/
def PcsAt (w : World) (a : Option Addr) (n l : Nat) (T : Nat → Nat → Nat) : Prop :=
  ∀ i, i < n → ∃ b off g o c, a = some ⟨b, off, none⟩ ∧ w.cell? ⟨b, off + i, none⟩ = some (.slice (some ⟨g, o, none⟩) l c) ∧ ∀ p, p < l → w.cell? ⟨g, o + p, none⟩ = some (.int .u8 ((T i p : Nat) : Int))
theorem PcsAt.below {w w' : World} {a : Option Addr} {n l : Nat} {T : Nat → Nat → Nat} (h : PcsAt w a n l T) (hb : Below w.heap.size w w') : PcsAt w' a n l T := fun i hi => by
  obtain ⟨b, off, g, o, c, e, hc, hp⟩ := h i hi
  exact ⟨b, off, g, o, c, e, (hb.cell (p := ⟨b, off + i, none⟩) (block_lt_of_cell hc)).trans hc, fun p hpl => (hb.cell (p := ⟨g, o + p, none⟩) (block_lt_of_cell (hp p hpl))).trans (hp p hpl)⟩

end Go.Proofs.YthnjhjgffkilcaaGreatDoor
/- The draws of matrices: what each gives, at any bytes: some list of rows, at most 17 of them, each of 1 to 6 numbers. Condition: at most 2^20 bytes of code. -/
namespace Go.Proofs.YthnjhjgffkilcaaGreatDoor
set_option maxRecDepth 2000
open Go.ChangeShapes Go.WideShapes Go.ChangeAt Go.RowKit

theorem MatZ.base {k : IntKind} {T TT : Nat} {w : World} {B E : Nat} {a : Option Addr} {n cap : Nat} {A : Nat → Option Addr} {L C : Nat → Nat} {Z : Nat → Nat → Int} (h : MatZ k T TT w B E a n cap A L C Z) : (∀ x, a = some x → B ≤ x.block) ∧ ∀ i, i < n → ∀ x, A i = some x → B ≤ x.block := by
  refine ⟨fun x e => ?_, fun i hi x e => ?_⟩
  · rcases own_shape h.out with ⟨h', _⟩ | ⟨g, _, e', hb, _⟩
    · rw [h'] at e; cases e
    · rw [e'] at e; cases e; exact hb
  · rcases own_shape (h.row i hi) with ⟨h', _⟩ | ⟨g, _, e', hb, _⟩
    · rw [h'] at e; cases e
    · rw [e'] at e; cases e; exact hb
/-- The cursor's block turned, which lies ahead of the matrix. -/
theorem MatZ.cur {k : IntKind} {T TT : Nat} {w w' : World} {B E g : Nat} {a : Option Addr} {n cap : Nat} {A : Nat → Option Addr} {L C : Nat → Nat} {Z : Nat → Nat → Int} (h : MatZ k T TT w B E a n cap A L C Z) (hg : w.grownBy w' (some g)) (hB : g < B) : MatZ k T TT w' B E a n cap A L C Z :=
  h.kept hg (fun x e => by have := h.base.1 x e; omega) (fun i hi x e => by have := h.base.2 i hi x e; omega)
/-- Some list of rows of ours, each of 1 to 6 numbers. -/
def DM (u : Nat) (w : World) (B E G n cap : Nat) : Prop := ∃ A L C Z, MatI w B E (some ⟨G, 0, none⟩) n cap A L C Z ∧ ∀ i, i < n → 1 ≤ L i ∧ L i ≤ u
theorem DM.cur {u : Nat} {w w' : World} {B E G n cap g : Nat} (h : DM u w B E G n cap) (hg : w.grownBy w' (some g)) (hB : g < B) : DM u w' B E G n cap := by
  obtain ⟨A, L, C, Z, hM, hL⟩ := h
  exact ⟨A, L, C, Z, hM.cur hg hB, hL⟩
theorem DM.below {u : Nat} {w w' : World} {B E G n cap : Nat} (h : DM u w B E G n cap) (hb : Below w.heap.size w w') : DM u w' B E G n cap := by
  obtain ⟨A, L, C, Z, hM, hL⟩ := h
  exact ⟨A, L, C, Z, hM.below hb, hL⟩
theorem DM.wide {u : Nat} {w : World} {B E E' G n cap : Nat} (h : DM u w B E G n cap) (hE : E ≤ E') : DM u w B E' G n cap := by
  obtain ⟨A, L, C, Z, hM, hL⟩ := h
  exact ⟨A, L, C, Z, hM.wide hE, hL⟩
theorem DM.tight {u : Nat} {w : World} {B E G n cap : Nat} (h : DM u w B E G n cap) : DM u w B w.heap.size G n cap := by
  obtain ⟨A, L, C, Z, hM, hL⟩ := h
  exact ⟨A, L, C, Z, hM.tight, hL⟩
theorem DM.at {u : Nat} {w : World} {B E G n cap : Nat} (h : DM u w B E G n cap) : ∃ L Z, MatAt w (some ⟨G, 0, none⟩) n L Z ∧ ∀ i, i < n → 1 ≤ L i ∧ L i ≤ u := by
  obtain ⟨A, L, C, Z, hM, hL⟩ := h
  exact ⟨L, Z, hM.at, hL⟩
theorem DM.pushed {u : Nat} {wr w2 : World} {B b0 G k cap g2 cap3 gr W capr : Nat} {A : Nat → Option Addr} {L C : Nat → Nat} {Z : Nat → Nat → Int} {xs : List Int} (o : Obj) (hM : MatI wr B b0 (some ⟨G, 0, none⟩) k cap A L C Z) (hL : ∀ i, i < k → 1 ≤ L i ∧ L i ≤ u) (hW : 1 ≤ W ∧ W ≤ u)
    (hb : B ≤ b0) (hr : wr.ownsRow b0 3 1 (.slice (some ⟨gr, 0, none⟩) W capr) W (xs.map (Value.int .i64))) (hgrow : (wr.alloc o).grownBy w2 (some G))
    (hout : w2.ownsRow B 43 1 (.slice (some ⟨g2, 0, none⟩) (k + 1) cap3) (k + 1) (hds A L C k ++ [.slice (some ⟨gr, 0, none⟩) W capr])) :
    DM u w2 B w2.heap.size g2 (k + 1) cap3 := by
  have hbo : Below wr.heap.size wr (wr.alloc o) := (Below.refl _ _).alloc (Nat.le_refl _) _
  have hM1 := hM.below hbo
  have hlen : xs.length = W := by simpa using hr.1
  have hr1 : (wr.alloc o).ownsRow B 3 1 (.slice (some ⟨gr, 0, none⟩) W capr) W ((zI (fun j => xs.getD j 0) W).map (Value.int .i64)) := by
    have e : zI (fun j => xs.getD j 0) W = xs := by rw [← hlen]; exact zI_of xs
    rw [e]
    exact own_base (ownsRow_below hr hbo) hb
  have hgr := (hr.lt gr rfl).1
  refine ⟨_, _, _, _, MatZ.push tiNe hM1 hgrow hout (Nat.le_refl _) ?_ hr1 (fun j hj y u ey eu => ?_), fun i hi => ?_⟩
  · exact Nat.le_trans (Nat.le_of_lt (Nat.lt_of_le_of_lt hgr (hr.lt gr rfl).2)) (Nat.le_trans hbo.size hgrow.size)
  · cases eu
    have := hM.rE j hj y ey
    exact Nat.ne_of_lt (Nat.lt_of_lt_of_le this hgr)
  · by_cases e : i = k
    · simp only [if_pos e]; exact hW
    · simp only [if_neg e]; exact hL i (by omega)
def lenV : Value → Nat
  | .slice _ n _ => n
  | _ => 0
theorem DM.le {u u' : Nat} {w : World} {B E G n cap : Nat} (h : DM u w B E G n cap) (hu : u ≤ u') : DM u' w B E G n cap := by
  obtain ⟨A, L, C, Z, hM, hL⟩ := h
  exact ⟨A, L, C, Z, hM, fun i hi => ⟨(hL i hi).1, Nat.le_trans (hL i hi).2 hu⟩⟩
theorem DM.grew {u : Nat} {w w' : World} {B E G n cap g0 g i l c : Nat} {A : Nat → Option Addr} {L C : Nat → Nat} {Z : Nat → Nat → Int} {xs : List Int} (hM : MatI w B E (some ⟨G, 0, none⟩) n cap A L C Z) (hL : ∀ i, i < n → 1 ≤ L i ∧ L i ≤ u) (hi : i < n) (hA : A i = some ⟨g0, 0, none⟩) (hg : w.grownBy w' (some g0))
    (hrow : w'.ownsRow B 3 1 (.slice (some ⟨g, 0, none⟩) l c) l (xs.map (Value.int .i64))) (hl : 1 ≤ l ∧ l ≤ u + 1) (hat : g = g0 ∨ w.heap.size ≤ g) (hE : E ≤ w'.heap.size) :
    (∃ v, w'.cell? ⟨G, i, none⟩ = some v) ∧ w'.frozen? ⟨G, i, none⟩ = false ∧ DM (u + 1) (w'.setCell ⟨G, i, none⟩ (.slice (some ⟨g, 0, none⟩) l c)) B (w'.setCell ⟨G, i, none⟩ (.slice (some ⟨g, 0, none⟩) l c)).heap.size G n cap ∧ w'.grownBy (w'.setCell ⟨G, i, none⟩ (.slice (some ⟨g, 0, none⟩) l c)) (some G) := by
  obtain ⟨h1, h2, h3, h4⟩ := MatZ.grew tiNe hM hi hA hg (own_zI hrow) hat hE (hrow.lt g rfl).2
  refine ⟨⟨_, h1⟩, h2, ⟨_, _, _, _, h3.wide h4.size, fun j hj => ?_⟩, h4⟩
  by_cases e : j = i
  · simp only [if_pos e]; exact hl
  · simp only [if_neg e]; exact ⟨(hL j hj).1, Nat.le_succ_of_le (hL j hj).2⟩
theorem DM.hdr {u : Nat} {w : World} {B E G n cap i : Nat} (h : DM u w B E G n cap) (hi : i < n) : (∃ v, w.cell? ⟨G, i, none⟩ = some v) ∧ w.frozen? ⟨G, i, none⟩ = false := by
  obtain ⟨A, L, C, Z, hM, _⟩ := h
  exact ⟨⟨_, hM.hdr hi⟩, hM.ofree i⟩
theorem DM.olt {u : Nat} {w : World} {B E G n cap : Nat} (h : DM u w B E G n cap) : B ≤ G ∧ G < w.heap.size := by
  obtain ⟨A, L, C, Z, hM, _⟩ := h
  exact hM.olt
/-- A new row for an old one. -/
theorem DM.setRow {u : Nat} {w : World} {B E G n cap g l c i : Nat} {xs : List Int} (h : DM u w B E G n cap) (hi : i < n) (hrow : w.ownsRow B 3 1 (.slice (some ⟨g, 0, none⟩) l c) l (xs.map (Value.int .i64))) (hl : 1 ≤ l ∧ l ≤ u) (hE : E ≤ w.heap.size) (hg : E ≤ g) :
    DM u (w.setCell ⟨G, i, none⟩ (.slice (some ⟨g, 0, none⟩) l c)) B (w.setCell ⟨G, i, none⟩ (.slice (some ⟨g, 0, none⟩) l c)).heap.size G n cap ∧ w.grownBy (w.setCell ⟨G, i, none⟩ (.slice (some ⟨g, 0, none⟩) l c)) (some G) := by
  obtain ⟨A, L, C, Z, hM, hL⟩ := h
  have h1 := (hM.wide hE).setRow tiNe hi (own_zI hrow) (hrow.lt g rfl).2 (fun j hj _ x ex => by have := hM.rE j hj x ex; omega)
  refine ⟨⟨_, _, _, _, h1.1.wide h1.2.size, fun j hj => ?_⟩, h1.2⟩
  by_cases e : j = i
  · simp only [if_pos e]; exact hl
  · simp only [if_neg e]; exact hL j hj
theorem DM.setElt {u : Nat} {w : World} {B G n cap g0 i j : Nat} {A : Nat → Option Addr} {L C : Nat → Nat} {Z : Nat → Nat → Int} (hM : MatI w B w.heap.size (some ⟨G, 0, none⟩) n cap A L C Z) (hL : ∀ i, i < n → 1 ≤ L i ∧ L i ≤ u) (hi : i < n) (hA : A i = some ⟨g0, 0, none⟩) (hj : j < L i) (v : Int) :
    DM u (w.setCell ⟨g0, j, none⟩ (.int .i64 v)) B (w.setCell ⟨g0, j, none⟩ (.int .i64 v)).heap.size G n cap ∧ w.grownBy (w.setCell ⟨g0, j, none⟩ (.int .i64 v)) (some g0) := by
  have h1 := hM.setElt tiNe hi hA hj v
  exact ⟨⟨_, _, _, _, h1.1.wide h1.2.size, hL⟩, h1.2⟩

end Go.Proofs.YthnjhjgffkilcaaGreatDoor
/- The draws of chapter three's laws: matrices, and places that differ. Condition: at most 2^20 bytes of code. -/
namespace Go.Proofs.YthnjhjgffkilcaaGreatDoor
set_option maxRecDepth 2000
open Go.ChangeShapes Go.WideShapes Go.ChangeAt Go.RowKit

/-- A list of rows that was drawn, in new memory. -/
def Drawn (w' : World) (v : Value) : Prop := ∃ G m cap L Z, v = .slice (some ⟨G, 0, none⟩) m cap ∧ m ≤ 17 ∧ MatAt w' (some ⟨G, 0, none⟩) m L Z ∧ ∀ i, i < m → L i ≤ 6
theorem DM.drawn {w : World} {B E G n cap : Nat} (h : DM 6 w B E G n cap) (hn : n ≤ 17) : Drawn w (.slice (some ⟨G, 0, none⟩) n cap) := by
  obtain ⟨L, Z, h1, h2⟩ := h.at
  exact ⟨G, n, cap, L, Z, rfl, hn, h1, fun i hi => (h2 i hi).2⟩
theorem DM.far {u : Nat} {w w' : World} {B E G n cap g : Nat} (h : DM u w B E G n cap) (hg : w.grownBy w' (some g)) (hB : g < B) : DM u w' B E G n cap := h.cur hg hB
end Go.Proofs.YthnjhjgffkilcaaGreatDoor
/- The draw of places that differ. Condition: at most 2^20 bytes of code, at most 256 places. -/
namespace Go.Proofs.YthnjhjgffkilcaaGreatDoor
set_option maxRecDepth 2000
open Go.ChangeShapes Go.WideShapes Go.ChangeAt Go.RowKit

end Go.Proofs.YthnjhjgffkilcaaGreatDoor
/- The draw of a spread's sides and of places of it that differ. Condition: at most 2^20 bytes of code. -/
namespace Go.Proofs.YthnjhjgffkilcaaGreatDoor
set_option maxRecDepth 2000
open Go.ChangeShapes Go.WideShapes Go.ChangeAt Go.RowKit

theorem nodup_ne {zs : List Int} (h : zs.Nodup) {i j : Nat} (hi : i < zs.length) (hj : j < zs.length) (hne : i ≠ j) : zs.getD i 0 ≠ zs.getD j 0 := by
  have hp := List.pairwise_iff_getElem.1 (List.nodup_iff_pairwise_ne.1 h)
  have e1 : zs.getD i 0 = zs[i] := by simp [List.getD, hi]
  have e2 : zs.getD j 0 = zs[j] := by simp [List.getD, hj]
  rw [e1, e2]
  rcases Nat.lt_or_gt_of_ne hne with h' | h'
  · exact hp i j hi hj h'
  · exact (hp j i hj hi h').symm
/-- Places that differ, within 'n'. -/
def Diff (n : Nat) (zs : List Int) : Prop := zs.Nodup ∧ ∀ x ∈ zs, 0 ≤ x ∧ x < (n : Int)
theorem Diff.at {n : Nat} {zs : List Int} (h : Diff n zs) {i : Nat} (hi : i < zs.length) : 0 ≤ zs.getD i 0 ∧ zs.getD i 0 < (n : Int) := by
  have e1 : zs.getD i 0 = zs[i] := by simp [List.getD, hi]
  rw [e1]
  exact h.2 _ (List.getElem_mem hi)
theorem Diff.ne {n : Nat} {zs : List Int} (h : Diff n zs) {i j : Nat} (hi : i < zs.length) (hj : j < zs.length) (hne : i ≠ j) : (zs.getD i 0).toNat ≠ (zs.getD j 0).toNat := by
  have h1 := nodup_ne h.1 hi hj hne
  have h2 := h.at hi
  have h3 := h.at hj
  omega
/-- Rows of a spread at places that differ have full rank. -/
theorem pick_rk {n k : Nat} {zs : List Int} (h : Diff n zs) (hl : zs.length = k) (hn : n ≤ 256) (hkn : k ≤ n) : Gm.rk (fun t j => Gm.sprd k ((zs.getD t 0).toNat) j) k k = k := by
  refine Gm.spread_rk (p := fun t => (zs.getD t 0).toNat) (by omega) (fun t => ?_) (fun i j hi hj hne => h.ne (by omega) (by omega) hne)
  by_cases ht : t < zs.length
  · have := h.at ht
    show (zs.getD t 0).toNat < 256
    omega
  · show (zs.getD t 0).toNat < 256
    rw [show zs.getD t 0 = 0 by simp [List.getD, ht]]
    decide
end Go.Proofs.YthnjhjgffkilcaaGreatDoor
