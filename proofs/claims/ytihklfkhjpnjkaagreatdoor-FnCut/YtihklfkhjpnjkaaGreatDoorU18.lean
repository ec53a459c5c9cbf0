import Derived.Test.YtihklfkhjpnjkaaGreatDoorU10
import Derived.Test.YtihklfkhjpnjkaaGreatDoorU16
set_option maxHeartbeats 8000000
set_option maxRecDepth 2000
open Go.ChangeShapes Go.WideShapes Go.ChangeAt Go.RowKit
namespace Go.Proofs.YtihklfkhjpnjkaaGreatDoor
open Gt (hf up jn)
theorem sUp_any (a : Option Addr) (m cap : Nat) (R : Nat → ByteArray) (w : World) (h : TxtAt w a m R) (hm : m ≤ 64) (h16 : ∀ i, i < m → (R i).size = 16) :
  Calls Tryz.prog 115 #[.slice a m cap] w fun e w' => ∃ g c, e = .returned (.slice (some ⟨g, 0, none⟩) (hf m) c) ∧ OwnT w' w.heap.size (some ⟨g, 0, none⟩) (hf m) c (up m R) ∧ Below w.heap.size w w' := by
 obtain ⟨i0, hi, hz0, hz1, hz2⟩ := info_parts Tryz.infoStr
 have KH : Hid (TxtAt w a m R) := h
 have K16 : Hid (∀ i, i < m → (R i).size = 16) := h16
 obtain ⟨q, Hq⟩ : ∃ q, Hid (hf m = q) := ⟨_, rfl⟩
 have hq : q ≤ 32 := by rw [← Hq.out]; unfold hf; omega
 rw [Hq.out]
 have K1 : Hid (OwnT (w.alloc (.cells #[] 9)) w.heap.size (some ⟨w.heap.size, 0, none⟩) 0 0 (up m R)) := litT w _
 have KB1 : Hid (Below w.heap.size w (w.alloc (.cells #[] 9))) := (Below.refl _ _).alloc (Nat.le_refl _) _
 clear h h16
 go_enter Tryz.func115, Tryz.ntmps115
 go_wp2
 go_loopw [3, 4] (fun v i wr => ∃ (k G c : Nat), k ≤ q ∧ i = .int .i64 ((2 * k : Nat) : Int) ∧ v = .slice (some ⟨G, 0, none⟩) k c ∧ OwnT wr w.heap.size (some ⟨G, 0, none⟩) k c (up m R) ∧ Below w.heap.size w wr) (fun _ i _ => 2 * q - (intOf i).toNat)
 case atStart => exact ⟨0, _, _, Nat.zero_le _, rfl, rfl, K1.out, KB1.out⟩
 case round =>
  obtain ⟨k, G, c, hk, rfl, rfl, hown, hbel⟩ := hrel
  clear K1 KB1
  obtain ⟨p, hp⟩ : ∃ p, 2 * k = p := ⟨_, rfl⟩
  rw [hp]
  have hsz := hbel.size
  have hGl := (World.ownsRow.lt hown _ rfl).1
  have hw2 : IntKind.i64.wrap ((p : Int) + 2) = ((2 * (k + 1) : Nat) : Int) := by rw [IntKind.wrap_i64]; omega
  have hw1 : IntKind.i64.wrap ((p : Int) + 1) = (p : Int) + 1 := by rw [IntKind.wrap_i64]; omega
  by_cases hlt : k < q
  ·have hpm : p < m := by have := Hq.out; unfold hf at this; omega
   have hpmi : (p : Int) < (m : Int) := by omega
   obtain ⟨b, off, rfl, hcw⟩ := KH.out.some (by omega)
   have lbw : b < w.heap.size := block_lt_of_cell (hcw p hpm)
   have hcc := fun i hi => (hbel.cell (p := ⟨b, off + i, none⟩) lbw).trans (hcw i hi)
   have e1 := hcc p hpm
   have z1 := K16.out p hpm
   by_cases hlt2 : p + 1 < m
   ·have e2 := hcc (p + 1) hlt2
    have z2 := K16.out (p + 1) hlt2
    have hlt2i : (p : Int) + 1 < (m : Int) := by omega
    have HU : Hid (jn (R p) (R (p + 1)) = up m R k) := by
     show _ = _
     unfold up
     rw [if_pos (by omega), hp]
    obtain ⟨p1, hp1⟩ : ∃ p1, p + 1 = p1 := ⟨_, rfl⟩
    rw [hp1] at e2 z2 HU
    have hpp : (p : Int) + 1 = (p1 : Int) := by omega
    have hp1m : (p1 : Int) < (m : Int) := by omega
    rw [hpp] at hw1 hlt2i
    generalize R p = s1 at e1 z1 HU
    generalize R p1 = s2 at e2 z2 HU
    have HJ : Hid (∀ w0, Calls Tryz.prog 137 #[.string s1, .string s2] w0 fun e w' => e = .returned (.string (jn s1 s2)) ∧ Below w0.heap.size w0 w') := fun w0 => sjoin_any _ _ w0 (by omega) (by omega)
    generalize jn s1 s2 = z at HJ HU
    have KO : Hid (OwnT wr w.heap.size (some ⟨G, 0, none⟩) k c (up m R)) := hown
    have KB : Hid (Below w.heap.size w wr) := hbel
    have lb : b < wr.heap.size := block_lt_of_cell e1
    clear hown hbel hcc hcw z1 z2
    go_wp2_with fail
    go_region_held3 (fun w' => w'.cell? ⟨b, off + p, none⟩ = some (.string s1) ∧ w'.cell? ⟨b, off + p1, none⟩ = some (.string s2)) (go_keep) ((first | (go_at_call 137; refine Calls.mono (HJ.out _) ?_; rintro e w9 ⟨rfl, hb9'⟩; have hb9 := below_of_drew hb9'; clear hb9'; have g1 := (hb9.cell (p := ⟨b, off + p, none⟩) lb).trans e1; have g2 := (hb9.cell (p := ⟨b, off + p1, none⟩) lb).trans e2; have KO9 : Hid (OwnT (w9.alloc (.cells #[.string z] 9)) w.heap.size (some ⟨G, 0, none⟩) k c (up m R)) := World.ownsRow.alloc (OwnT.below KO.out hb9) _; have hs9 := hb9.size) | (guard_hyp hs9; refine step_append_row _ (by rfl) _ _ _ (by rfl) w.heap.size 9 i0 _ 1 16 Tryz.underlying31 hi hz0 hz1 hz2 rfl (by omega) G k c _ (by rfl) KO9.out ⟨w9.heap.size, 0, none⟩ 1 1 [.string z] (by rfl) (by rfl) (World.news_of_block (cs := #[.string z]) (t := 9) (fr := (0, 0)) (heap_alloc_new w9 _)) (by simp [Value.oneCell']) (by unfold maxLen; omega) (by omega) (by simp; omega) ?_; intro g3 cap3 w3 hown3 hgrow3; have B9 : Below w.heap.size w9 w3 := ((Below.refl _ w9).alloc (by omega) _).grown hgrow3 (by simp; omega) (fun j hj => by cases hj; exact hGl); have k1 := (B9.cell (p := ⟨b, off + p, none⟩) lbw).trans g1; have k2 := (B9.cell (p := ⟨b, off + p1, none⟩) lbw).trans g2)))
    all_goals
     have HO : Hid (OwnT w3 w.heap.size (some ⟨g3, 0, none⟩) (k + 1) cap3 (up m R)) := by
      show OwnT _ _ _ _ _ _
      unfold OwnT
      rw [sL_snoc, ← HU.out]
      exact hown3
     have HB3 : Hid (Below w.heap.size w w3) := (KB.out.trans (hb9.mono hsz)).trans B9
     clear hown3 hgrow3 B9 k1 k2 g1 g2 e1 e2 KO9 hb9 KO KB
     go_wp2
     go_roundw
     case rel => exact ⟨k + 1, g3, cap3, by omega, rfl, rfl, HO.out, HB3.out⟩
     case measure => simp [intOf]; omega
   ·have hlt2i : ¬ (p : Int) + 1 < (m : Int) := by omega
    have HU : Hid (R p = up m R k) := by
     show _ = _
     unfold up
     rw [if_neg (by omega), if_pos (by omega), hp]
    generalize R p = s1 at e1 z1 HU
    clear hcc hcw z1
    go_wp2_with (at_builtin; refine wpList_append_all _ (by rfl) _ _ 31 (by rfl) w.heap.size 9 i0 (.string ByteArray.empty) 1 16 Tryz.underlying31 hi hz0 hz1 hz2 rfl (by decide) G k c _ (by rfl) (World.ownsRow.alloc hown _) ⟨wr.heap.size, 0, none⟩ 1 1 [.string s1] (by rfl) (by rfl) (World.news_of_block (cs := #[.string s1]) (t := 9) (fr := (0, 0)) (heap_alloc_new wr _)) (by simp [Value.oneCell']) (by unfold maxLen; omega) (by omega) (by simp; omega) ?_; intro g3 cap3 w3 hown3 hgrow3)
    have HO : Hid (OwnT w3 w.heap.size (some ⟨g3, 0, none⟩) (k + 1) cap3 (up m R)) := by
     show OwnT _ _ _ _ _ _
     unfold OwnT
     rw [sL_snoc, ← HU.out]
     exact hown3
    have HB3 : Hid (Below w.heap.size w w3) := (hbel.alloc hsz _).grown (show World.grownBy _ w3 (some G) from hgrow3) (by simp; omega) (fun j hj => by cases hj; exact hGl)
    clear hown3 hgrow3 hown
    go_roundw
    case rel => exact ⟨k + 1, g3, cap3, by omega, rfl, rfl, HO.out, HB3.out⟩
    case measure => simp [intOf]; omega
  ·obtain rfl : k = q := by omega
   have hpm : ¬ (p : Int) < (m : Int) := by have := Hq.out; unfold hf at this; omega
   have HO : Hid (OwnT wr w.heap.size (some ⟨G, 0, none⟩) k c (up m R)) := hown
   clear hown
   go_wp2
   go_ret
   exact ⟨G, c, rfl, HO.out, hbel⟩
end Go.Proofs.YtihklfkhjpnjkaaGreatDoor
