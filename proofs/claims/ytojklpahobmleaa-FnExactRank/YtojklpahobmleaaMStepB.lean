/- The program puts a row, scaled, on top of another. Conditions: byte numbers, at most 2^20 places a row, two rows that are not the same. -/
import Derived.Test.YtojklpahobmleaaMStep
namespace Go.Proofs.Ytojklpahobmleaa
open Go.ChangeShapes Go.WideShapes Go.ChangeAt Go.RowKit

set_option maxHeartbeats 8000000 in
theorem addScaledRow_any (B E G r cap : Nat) (g C : Nat → Nat) (W : Nat) (F : Nat → Nat → Nat) (a b y : Nat) (w : World) (h : MatF w B E G r cap g C W F) (hF : Gm.Byt F) (ha : a < r) (hb : b < r) (hab : a ≠ b) (hy : y < 256) (hW : W ≤ 1048576) :
    Calls Try.prog 87 #[.slice (some ⟨G, 0, none⟩) r cap, .int .i64 (a : Int), .int .i64 (b : Int), .int .u8 (y : Int)] w fun e w' => e = .returned (.tuple #[]) ∧ MatF w' B E G r cap g C W (addK a b y W F) ∧ w.grownBy w' (some (g a)) := by
  have hai : (a : Int) < (r : Int) := by omega
  have hbi : (b : Int) < (r : Int) := by omega
  have hh0 := h.hdr hb
  have K0 : Hid (MatF w B E G r cap g C W F) := h
  have KF : Hid (Gm.Byt F) := hF
  clear h hF
  obtain ⟨ga, hga⟩ : ∃ ga, g a = ga := ⟨_, rfl⟩
  obtain ⟨Ca, hCa⟩ : ∃ Ca, C a = Ca := ⟨_, rfl⟩
  obtain ⟨gb, hgb⟩ : ∃ gb, g b = gb := ⟨_, rfl⟩
  obtain ⟨Cb, hCb⟩ : ∃ Cb, C b = Cb := ⟨_, rfl⟩
  have KG : Hid (g a = ga) := hga
  have KC : Hid (C a = Ca) := hCa
  have KGb : Hid (g b = gb) := hgb
  rw [hgb, hCb] at hh0
  rw [hga]
  clear hga hCa hgb hCb
  go_enter Try.func87, Try.ntmps87
  go_wp2
  go_loopw [15] (fun i wr => ∃ k : Nat, k ≤ W ∧ i = .int .i64 k ∧ MatF wr B E G r cap g C W (addK a b y k F) ∧ w.grownBy wr (some ga)) (fun i _ => W - (intOf i).toNat)
  case atStart => exact ⟨0, Nat.zero_le _, rfl, K0.out.congr (fun i _ => ⟨rfl, rfl, rfl, fun j _ => by unfold addK; rw [if_neg (by omega)]⟩), World.grownBy.refl _ _⟩
  case round =>
    obtain ⟨k, hk, rfl, hM, hgr⟩ := hrel
    clear K0
    by_cases hlt : k < W
    · have hki : (k : Int) < (W : Int) := by omega
      have hh := hM.hdr ha
      have he := hM.elt (j := k) ha rfl hlt
      have heb := hM.elt (j := k) hb rfl hlt
      have hval : addK a b y k F a k = F a k := by unfold addK; rw [if_neg (by omega)]
      have hvalb : addK a b y k F b k = F b k := by unfold addK; rw [if_neg (by omega)]
      rw [hval] at he
      rw [hvalb] at heb
      have hf := KF.out a k
      have hfb := KF.out b k
      have hfr := hM.free ha rfl k
      have hG := hM.olt.2
      have hg := (hM.glt ha rfl).2
      have hml := Gf.mul_lt hfb hy
      have KE : Hid (∀ p q, (if p = a ∧ q = k then F a k ^^^ Gf.mul (F b k) y else addK a b y k F p q) = addK a b y (k + 1) F p q) := fun p q => by
        unfold addK
        by_cases e : p = a ∧ q = k
        · obtain ⟨rfl, rfl⟩ := e
          rw [if_pos ⟨rfl, rfl⟩, if_pos ⟨rfl, by omega⟩, Gp.m_nat hfb hy]
        · rw [if_neg e]
          by_cases e2 : p = a ∧ q < k
          · rw [if_pos e2, if_pos (by omega)]
          · rw [if_neg e2, if_neg (by omega)]
      have KM : Hid (MatF wr B E G r cap g C W (addK a b y k F)) := hM
      clear hM hval hvalb hh0
      obtain ⟨X, hX⟩ : ∃ X, F a k = X := ⟨_, rfl⟩
      obtain ⟨Y, hY⟩ : ∃ Y, F b k = Y := ⟨_, rfl⟩
      rw [hX] at he hf KE
      rw [hY] at heb hfb hml KE
      clear hX hY
      rw [KG.out] at hh he hfr hg
      rw [KC.out] at hh
      rw [KGb.out] at heb
      go_wp2_with fail
      go_region_with ((first | (go_at_call 62; refine (times_any Y y _ hfb hy).mono ?_; rintro e w1 ⟨rfl, hb1'⟩; have hb1 := below_of_drew hb1'; clear hb1'; have hh1 := (hb1.cell (p := ⟨G, a, none⟩) hG).trans hh; have he1 := (hb1.cell (p := ⟨ga, k, none⟩) hg).trans he; have hfr1 := (World.frozen?_of_block (a := ⟨ga, k, none⟩) (hb1.block _ hg)).trans hfr) | (go_at_call 61; refine (plus_any X (Gf.mul Y y) _ hf hml).mono ?_; rintro e w2 ⟨rfl, hw2⟩; obtain rfl := hw2.symm)))
      all_goals
        have HS : Hid (MatF (w1.setCell ⟨ga, k, none⟩ (.int .u8 ((X ^^^ Gf.mul Y y : Nat) : Int))) B E G r cap g C W (addK a b y (k + 1) F)) := by
          have := MatF.set (KM.out.below hb1) (i := a) (j := k) (v := X ^^^ Gf.mul Y y) ha hlt (fun p q _ _ => KE.out p q)
          rw [KG.out] at this
          exact this
        have HG : Hid (w.grownBy (w1.setCell ⟨ga, k, none⟩ (.int .u8 ((X ^^^ Gf.mul Y y : Nat) : Int))) (some ga)) := grownBy_trans (grown_below hgr hb1) (grown_set _ _ _ _)
        clear KM
        go_wp2
        go_roundw
        case rel => exact ⟨k + 1, by omega, by go_num, HS.out, HG.out⟩
        case measure => simp [intOf] <;> omega
    · obtain rfl : k = W := by omega
      have KM : Hid (MatF wr B E G r cap g C k (addK a b y k F)) := hM
      clear hM
      go_wp2
      go_end0
      exact ⟨rfl, KM.out, hgr⟩
end Go.Proofs.Ytojklpahobmleaa
