import Derived.Test.YtodnodekheaacaaGreatDoorI14
import Derived.Test.YtodnodekheaacaaGreatDoorI13
import Derived.Test.YtodnodekheaacaaGreatDoorI7
set_option maxHeartbeats 8000000
set_option maxRecDepth 2000
open Go.ChangeShapes Go.WideShapes Go.ChangeAt Go.RowKit
namespace Go.Proofs.YtodnodekheaacaaGreatDoor
def OwnB (w : World) (B g n cap : Nat) (f : Nat → Nat) : Prop := w.ownsRow B 5 1 (.slice (some ⟨g, 0, none⟩) n cap) n ((eI f n).map (Value.int .u8))
theorem OwnB.lt {w : World} {B g n cap : Nat} {f : Nat → Nat} (h : OwnB w B g n cap f) : B ≤ g ∧ g < w.heap.size := World.ownsRow.lt h g rfl
theorem OwnB.cell {w : World} {B g n cap i : Nat} {f : Nat → Nat} (h : OwnB w B g n cap f) (hi : i < n) : w.cell? ⟨g, i, none⟩ = some (.int .u8 ((f i : Nat) : Int)) := by
 rw [World.ownsRow.cellAt h i (by omega)]
 simp [eI, hi]
theorem OwnB.below {w w' : World} {B g n cap : Nat} {f : Nat → Nat} (h : OwnB w B g n cap f) (hb : Below w.heap.size w w') : OwnB w' B g n cap f := ownsRow_below h hb
theorem OwnB.congr {w : World} {B g n cap : Nat} {f h : Nat → Nat} (ho : OwnB w B g n cap f) (e : ∀ i, i < n → f i = h i) : OwnB w B g n cap h := by
 unfold OwnB at *
 rw [← eI_congr e]
 exact ho
theorem OwnB.set {w : World} {B g n cap k v : Nat} {f : Nat → Nat} (h : OwnB w B g n cap f) (hk : k < n) :
  OwnB (w.setCell ⟨g, k, none⟩ (.int .u8 (v : Int))) B g n cap (fun i => if i = k then v else f i) ∧ w.grownBy (w.setCell ⟨g, k, none⟩ (.int .u8 (v : Int))) (some g) := by
 have h1 := (World.ownsRow.stored h k (.int .u8 (v : Int))).1
 rw [eI_set f n k v .u8 hk] at h1
 exact ⟨h1, grown_set w g k _⟩
def rs (R : Nat → Nat) (T : Nat → Nat → Nat) (i p : Nat) : Nat := Gm.sm (fun t => Gp.m (R t) (T t p)) i
theorem rs_lt (R : Nat → Nat) (T : Nat → Nat → Nat) (i p : Nat) : rs R T i p < 256 := Gm.sm_lt (fun _ => Gp.m_lt _ _) _
theorem rs_step {R : Nat → Nat} {T : Nat → Nat → Nat} {i q : Nat} (hR : R i < 256) (hT : T i q < 256) (p : Nat) : (if p = q then rs R T i q ^^^ Gf.mul (T i q) (R i) else if p < q then rs R T (i + 1) p else rs R T i p) = if p < q + 1 then rs R T (i + 1) p else rs R T i p := by
 by_cases e : p = q
 ·subst e
  rw [if_pos rfl, if_pos (by omega), Gp.m_nat hT hR, Gp.m_comm]
  rfl
 ·rw [if_neg e]
  by_cases e2 : p < q
  ·rw [if_pos e2, if_pos (by omega)]
  ·rw [if_neg e2, if_neg (by omega)]
set_option maxRecDepth 100000 in
theorem rowSumS_any (ra : Option Addr) (rc : Nat) (R : Nat → Nat) (a : Option Addr) (cp n l : Nat) (S : Nat → ByteArray) (w : World) (hr : IntsAt w ra n (eI R n)) (h : TxtAt w a n S) (hS : ∀ i, i < n → (S i).size = l) (hn : 1 ≤ n ∧ n ≤ 16) (hl : 1 ≤ l ∧ l ≤ 1048576) (hR : ∀ i, R i < 256) :
  Calls Tryz.prog 36 #[.slice ra n rc, .slice a n cp] w fun e w' => e = .returned (.slice (some ⟨w.heap.size, 0, none⟩) l l) ∧ OwnB w' w.heap.size w.heap.size l l (rs R (fun i p => tat (S i) p) n) ∧ Below w.heap.size w w' := by
 obtain ⟨i0, hi, hz0, hz1, hz2⟩ := info_parts Tryz.infoByte
 obtain ⟨hn1, hn16⟩ := hn
 obtain ⟨hl1, hl20⟩ := hl
 have KH : Hid (TxtAt w a n S) := h
 have KR : Hid (IntsAt w ra n (eI R n)) := hr
 have hn0' : 0 < n := by omega
 obtain ⟨b0, off0, rfl, hc0⟩ := h 0 hn0'
 rw [Nat.add_zero] at hc0
 have hsz0 := hS 0 hn0'
 obtain ⟨s0, hs0⟩ : ∃ s0, S 0 = s0 := ⟨_, rfl⟩
 rw [hs0] at hc0 hsz0
 clear hs0
 clear h hr
 go_enter Tryz.func36, Tryz.ntmps36
 go_wp2_with (at_make; refine wpList_make_full _ rfl _ _ 22 rfl w.heap.size 5 i0 (.int .u8 0) 1 Tryz.underlying22 hi hz0 hz1 .i64 .i64 _ _ l rfl rfl rfl rfl (by rw [hz2]; omega) (by unfold maxLen; omega) (Nat.le_refl _) ?_; intro w1 hown hgrow)
 have hb1 : Below w.heap.size w w1 := (Below.refl _ _).grown hgrow (Nat.le_refl _) (by simp)
 have ho1 : OwnB w1 w.heap.size w.heap.size l l (rs R (fun i p => tat (S i) p) 0) := by
  unfold OwnB
  rw [eI_const (f := rs R (fun i p => tat (S i) p) 0) l 0 (fun _ _ => rfl)]
  simpa [Value.cells, toList_madeCells_one] using hown
 have K1 : Hid (OwnB w1 w.heap.size w.heap.size l l (rs R (fun i p => tat (S i) p) 0)) := ho1
 have KB1 : Hid (Below w.heap.size w w1) := hb1
 clear hown hgrow ho1 hb1 hi hz0 hz1 hz2 hc0
 go_loopw [17] (fun i wr => ∃ k : Nat, k ≤ n ∧ i = .int .i64 k ∧ OwnB wr w.heap.size w.heap.size l l (rs R (fun i p => tat (S i) p) k) ∧ Below w.heap.size w wr) (fun i _ => n - (intOf i).toNat)
 case atStart => exact ⟨0, Nat.zero_le _, rfl, K1.out, KB1.out⟩
 case round =>
  obtain ⟨k, hk, rfl, hown, hbel⟩ := hrel
  clear K1 KB1
  by_cases hlt : k < n
  ·have hki : (k : Int) < (n : Int) := by omega
   obtain ⟨b1, off1, eb, hc1w⟩ := KH.out k hlt
   cases eb
   have hc1 := (hbel.cell (p := ⟨b0, off0 + k, none⟩) (block_lt_of_cell hc1w)).trans hc1w
   have hszk := hS k hlt
   obtain ⟨s, hs⟩ : ∃ s, S k = s := ⟨_, rfl⟩
   have KSK : Hid (S k = s) := hs
   rw [hs] at hc1 hszk
   clear hc1w hs
   obtain ⟨br, offr, rfl, hcr⟩ := (KR.out.below hbel).2 k hlt
   rw [eI_getD _ _ _ hlt] at hcr
   have hRk := hR k
   obtain ⟨X, hX⟩ : ∃ X, R k = X := ⟨_, rfl⟩
   have KX : Hid (R k = X) := hX
   rw [hX] at hcr hRk
   clear hX
   have hwx : IntKind.u8.wrap (X : Int) = (X : Int) := by rw [IntKind.wrap_u8]; omega
   have hszw := hbel.size
   by_cases hx0 : X = 0
   ·subst hx0
    have HO : Hid (OwnB wr w.heap.size w.heap.size l l (rs R (fun i p => tat (S i) p) (k + 1))) := hown.congr (fun p _ => by unfold rs; rw [Gm.sm_s, KX.out, Gp.zero_m, Nat.xor_zero])
    clear hown
    go_wp2
    go_roundw
    case rel => exact ⟨k + 1, by omega, by go_num, HO.out, hbel⟩
    case measure => simp [intOf] <;> omega
   ·have hx0' : ((X : Int) == 0) = false := by simp; omega
    have K2 : Hid (OwnB wr w.heap.size w.heap.size l l (fun p => if p < 0 then rs R (fun i p => tat (S i) p) (k + 1) p else rs R (fun i p => tat (S i) p) k p)) := hown.congr (fun p _ => by simp)
    have KB2 : Hid (Below w.heap.size w wr) := hbel
    have hbel0 := hbel
    clear hown hbel
    go_wp2
    go_loopw [31] (fun i wr => ∃ q : Nat, q ≤ l ∧ i = .int .i64 q ∧ OwnB wr w.heap.size w.heap.size l l (fun p => if p < q then rs R (fun i p => tat (S i) p) (k + 1) p else rs R (fun i p => tat (S i) p) k p) ∧ Below w.heap.size w wr) (fun i _ => l - (intOf i).toNat)
    case atStart => exact ⟨0, Nat.zero_le _, rfl, K2.out, KB2.out⟩
    case round =>
     obtain ⟨q, hq, rfl, hown, hbel⟩ := hrel
     clear K2 KB2
     by_cases hql : q < l
     ·have hqi : (q : Int) < (l : Int) := by omega
      have hks : q < s.size := by omega
      have hcs := hown.cell hql
      simp only [Nat.lt_irrefl, if_false] at hcs
      have hfs := World.ownsRow.frozenAt hown q
      have hsl := rs_lt R (fun i p => tat (S i) p) k q
      have KS : Hid (∀ p, (if p = q then rs R (fun i p => tat (S i) p) k q ^^^ Gf.mul ((fun i p => tat (S i) p) k q) (R k) else if p < q then rs R (fun i p => tat (S i) p) (k + 1) p else rs R (fun i p => tat (S i) p) k p) = if p < q + 1 then rs R (fun i p => tat (S i) p) (k + 1) p else rs R (fun i p => tat (S i) p) k p) := fun p => rs_step (hR k) (tat_lt _ _) p
      rw [KX.out] at KS
      have KO : Hid (OwnB wr w.heap.size w.heap.size l l (fun p => if p < q then rs R (fun i p => tat (S i) p) (k + 1) p else rs R (fun i p => tat (S i) p) k p)) := hown
      obtain ⟨Y, hY⟩ : ∃ Y, rs R (fun i p => tat (S i) p) k q = Y := ⟨_, rfl⟩
      rw [hY] at hcs hsl KS
      have hVl := u8_lt s[q]
      have hTV : tat (S k) q = s[q].toNat := by rw [KSK.out]; exact tat_in s q hks
      simp only [hTV] at KS
      clear hTV
      have hml := Gf.mul_lt hVl hRk
      have hgl := hown.lt.2
      have KB : Hid (Below w.heap.size w wr) := hbel
      clear hown hY hbel
      go_wp2_with fail
      go_region_with ((first | (go_at_call 70; refine (times_any s[q].toNat X _ hVl hRk).mono ?_; rintro e w5 ⟨rfl, hb5'⟩; have hb5 := below_of_drew hb5'; clear hb5'; have hcs5 := (hb5.cell (p := ⟨w.heap.size, q, none⟩) hgl).trans hcs; have hfs5 := (World.frozen?_of_block (a := ⟨w.heap.size, q, none⟩) (hb5.block _ hgl)).trans hfs) | (go_at_call 68; refine (plus_any Y (Gf.mul s[q].toNat X) _ hsl hml).mono ?_; rintro e w6 ⟨rfl, hw6⟩; obtain rfl := hw6.symm)))
      all_goals
       have hS := OwnB.set (k := q) (v := Y ^^^ Gf.mul s[q].toNat X) (KO.out.below hb5) hql
       have HO : Hid (OwnB (w5.setCell ⟨w.heap.size, q, none⟩ (.int .u8 ((Y ^^^ Gf.mul s[q].toNat X : Nat) : Int))) w.heap.size w.heap.size l l (fun p => if p < q + 1 then rs R (fun i p => tat (S i) p) (k + 1) p else rs R (fun i p => tat (S i) p) k p)) := hS.1.congr (fun p _ => KS.out p)
       have HB : Hid (Below w.heap.size w (w5.setCell ⟨w.heap.size, q, none⟩ (.int .u8 ((Y ^^^ Gf.mul s[q].toNat X : Nat) : Int)))) := (below2 KB.out hb5).setCell (Nat.le_refl _) _
       clear hS hcs hfs hcs5 hfs5 KO KS KB
       go_wp2
       go_roundw
       case rel => exact ⟨q + 1, by omega, by go_num, HO.out, HB.out⟩
       case measure => simp [intOf] <;> omega
     ·obtain rfl : q = l := by omega
      have HO : Hid (OwnB wr w.heap.size w.heap.size q q (rs R (fun i p => tat (S i) p) (k + 1))) := hown.congr (fun p hp => if_pos hp)
      clear hown
      go_wp2
      go_roundw
      case rel => exact ⟨k + 1, by omega, by go_num, HO.out, hbel⟩
      case measure => simp [intOf] <;> omega
  ·obtain rfl : k = n := by omega
   have HO : Hid _ := hown
   clear hown
   go_wp2
   go_ret
   exact ⟨rfl, HO.out, hbel⟩
end Go.Proofs.YtodnodekheaacaaGreatDoor
