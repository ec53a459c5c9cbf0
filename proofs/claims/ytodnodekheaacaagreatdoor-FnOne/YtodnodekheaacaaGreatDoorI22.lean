import Derived.Test.YtodnodekheaacaaGreatDoorI11
import Derived.Test.YtodnodekheaacaaGreatDoorI15
set_option maxHeartbeats 8000000
set_option maxRecDepth 2000
open Go.ChangeShapes Go.WideShapes Go.ChangeAt Go.RowKit
namespace Go.Proofs.YtodnodekheaacaaGreatDoor
open Gt (hf up rt)
theorem sL_news {w : World} {b off n : Nat} {S : Nat → ByteArray} (hc : ∀ i, i < n → w.cell? ⟨b, off + i, none⟩ = some (.string (S i))) : ∀ j u, (sL S n)[j]? = some u → w.cell? ((⟨b, off, none⟩ : Addr).add j) = some u := by
 intro j u hu
 have hj : j < n := by
  have := (List.getElem?_eq_some_iff.1 hu).1
  rwa [sL_len] at this
 rw [sL_get _ _ _ hj] at hu
 cases hu
 have ea : (⟨b, off, none⟩ : Addr).add j = ⟨b, off + j, none⟩ := by unfold Addr.add; split <;> simp_all
 rw [ea]
 exact hc j hj
theorem sL_one (S : Nat → ByteArray) (n : Nat) : ∀ u ∈ sL S n, u.oneCell' = true := by
 intro u hu
 unfold sL at hu
 simp at hu
 obtain ⟨i, _, rfl⟩ := hu
 rfl
theorem sRoot_any (a : Option Addr) (n cap : Nat) (S : Nat → ByteArray) (w : World) (h : TxtAt w a n S) (hn : n ≤ 1048576) (hL : ∀ i, i < n → (S i).size ≤ maxLen) :
  Calls Tryz.prog 87 #[.slice a n cap] w fun e w' => e = .returned (.tuple #[.string (rtS n S), .bool (lvB n S)]) ∧ Below w.heap.size w w' := by
 have KV : Hid (Calls Tryz.prog 112 #[.slice a n cap] w fun e w' => e = .returned (.bool (lvB n S)) ∧ w' = w) := sLeaves_any a n cap S w h hn hL
 unfold rtS
 cases hB : lvB n S with
 | false =>
  rw [hB] at KV
  clear h hL hB
  go_enter Tryz.func87, Tryz.ntmps87
  go_wp2_with (go_at_call 112; refine KV.out.mono ?_; rintro e w' ⟨rfl, hw⟩; obtain rfl := hw.symm)
  go_ret2
  exact ⟨rfl, Below.refl _ _⟩
 | true =>
  rw [hB] at KV
  obtain ⟨h1, h64, h16⟩ := lvB_parts hB
  obtain ⟨i0, hi, hz0, hz1, hz2⟩ := info_parts Tryz.infoStr
  obtain ⟨b, off, rfl, hcw⟩ := h.some (by omega)
  have lbw : b < w.heap.size := block_lt_of_cell (hcw 0 (by omega))
  have HN : Hid (∀ j u, (sL S n)[j]? = some u → (w.alloc (.cells #[] 9)).cell? ((⟨b, off, none⟩ : Addr).add j) = some u) := sL_news (fun i hi => by
   have hb : Below w.heap.size w (w.alloc (.cells #[] 9)) := (Below.refl _ _).alloc (Nat.le_refl _) _
   exact (hb.cell (p := ⟨b, off + i, none⟩) lbw).trans (hcw i hi))
  have KL : Hid (OwnT (w.alloc (.cells #[] 9)) w.heap.size (some ⟨w.heap.size, 0, none⟩) 0 0 S) := litT w _
  have H1 : Hid (∀ u ∈ sL S n, u.oneCell' = true) := sL_one S n
  have H16 : Hid (∀ i, i < n → (S i).size = 16) := h16
  obtain ⟨Z, HZ⟩ : ∃ Z, Hid (rt n S = Z) := ⟨_, rfl⟩
  rw [if_pos rfl, HZ.out]
  clear h hL hB hcw h16
  go_enter Tryz.func87, Tryz.ntmps87
  go_wp2_with (first | (go_at_call 112; refine KV.out.mono ?_; rintro e w' ⟨rfl, hw⟩; obtain rfl := hw.symm) | (at_builtin; refine wpList_append_all _ (by rfl) _ _ 28 (by rfl) w.heap.size 9 i0 (.string ByteArray.empty) 1 16 Tryz.underlying28 hi hz0 hz1 hz2 rfl (by decide) w.heap.size 0 0 _ (by rfl) KL.out ⟨b, off, none⟩ n cap (sL S n) (by rfl) (by rw [sL_len]; omega) HN.out H1.out (by unfold maxLen; omega) (by omega) (by simp) ?_; intro g3 cap3 w3 hown3 hgrow3))
  have HO : Hid (OwnT w3 w.heap.size (some ⟨g3, 0, none⟩) n cap3 S) := by
   have hx : sL S 0 ++ sL S n = sL S n := rfl
   rw [hx, Nat.zero_add] at hown3
   exact hown3
  have HB : Hid (Below w.heap.size w w3) := ((Below.refl _ w).alloc (Nat.le_refl _) _).grown (show World.grownBy _ w3 (some w.heap.size) from hgrow3) (by simp) (fun j hj => by cases hj; exact Nat.le_refl _)
  clear hown3 hgrow3 KL HN H1 KV
  go_loopg [4] n (fun gk v wr => ∃ (m G c : Nat) (R : Nat → ByteArray), m = gk ∧ 1 ≤ m ∧ m ≤ 64 ∧ v = .slice (some ⟨G, 0, none⟩) m c ∧ OwnT wr w.heap.size (some ⟨G, 0, none⟩) m c R ∧ Hid (∀ i, i < m → (R i).size = 16) ∧ Hid (rt m R = Z) ∧ Below w.heap.size w wr)
  case atStart => exact ⟨n, g3, cap3, S, rfl, h1, h64, rfl, HO.out, H16, HZ, HB.out⟩
  case round =>
   obtain ⟨m, G, c, R, rfl, hm1, hm64, rfl, hown, HS, HR, hbel⟩ := hrel
   clear HO HB H16 HZ
   by_cases e1 : m ≤ 1
   ·have e1' : ¬ (1 : Int) < (m : Int) := by omega
    have hc0 := (OwnT.at hown).some (by omega)
    obtain ⟨b', off', eq, hcc⟩ := hc0
    cases eq
    have c0 := hcc 0 (by omega)
    have HE : Hid (R 0 = Z) := by have := HR.out; rw [Gt.rt_one _ e1] at this; exact this
    have hm0 : 0 < m := by omega
    simp only [Nat.add_zero] at c0
    clear hown hcc
    generalize R 0 = r0 at c0 HE
    go_wp2
    go_ret2
    exact ⟨by rw [← HE.out]; rfl, hbel⟩
   ·have e1' : (1 : Int) < (m : Int) := by omega
    have KU : Hid (Calls Tryz.prog 122 #[.slice (some ⟨G, 0, none⟩) m c] wr fun e w' => ∃ g c, e = .returned (.slice (some ⟨g, 0, none⟩) (hf m) c) ∧ OwnT w' wr.heap.size (some ⟨g, 0, none⟩) (hf m) c (up m R) ∧ Below wr.heap.size wr w') := sUp_any _ m c R wr (OwnT.at hown) hm64 HS.out
    have HS2 : Hid (∀ i, i < hf m → (up m R i).size = 16) := Gt.up_size HS.out
    have HR2 : Hid (rt (hf m) (up m R) = Z) := by have := HR.out; rw [Gt.rt_more _ e1] at this; exact this
    have hlt : 1 ≤ hf m ∧ hf m < m := by unfold hf; omega
    generalize hf m = m' at *
    generalize up m R = R' at *
    clear hown
    go_wp2_with fail
    refine KU.out.mono ?_
    rintro e w9 ⟨g9, c9, rfl, ho9, hb9⟩
    have HO9 : Hid (OwnT w9 w.heap.size (some ⟨g9, 0, none⟩) m' c9 R') := ho9.base hbel.size
    have HB9 : Hid (Below w.heap.size w w9) := hbel.trans (hb9.mono hbel.size)
    clear ho9 hb9
    go_wp2
    go_roundg m'
    case measure => exact hlt.2
    case rel => exact ⟨m', g9, c9, R', rfl, hlt.1, by omega, rfl, HO9.out, HS2, HR2, HB9.out⟩
end Go.Proofs.YtodnodekheaacaaGreatDoor
