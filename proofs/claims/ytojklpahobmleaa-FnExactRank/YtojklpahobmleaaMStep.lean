/- The program's steps on a matrix of its own: a row scaled, a row scaled on top of another, a place cleared. Conditions: byte numbers, at most 2^20 places a row. -/
import Derived.Test.YtojklpahobmleaaMFillB
namespace Go.Proofs.Ytojklpahobmleaa
open Go.ChangeShapes Go.WideShapes Go.ChangeAt Go.RowKit

/-- A matrix of byte numbers of ours, by the blocks of its rows. -/
abbrev MatF (w : World) (B E G r cap : Nat) (g C : Nat → Nat) (W : Nat) (F : Nat → Nat → Nat) : Prop := MatU w B E (some ⟨G, 0, none⟩) r cap (fun i => some ⟨g i, 0, none⟩) (fun _ => W) C (fun i j => ((F i j : Nat) : Int))
theorem MatF.set {w : World} {B E G r cap : Nat} {g C : Nat → Nat} {W : Nat} {F F' : Nat → Nat → Nat} {i j v : Nat} (h : MatF w B E G r cap g C W F) (hi : i < r) (hj : j < W) (e : ∀ p q, p < r → q < W → (if p = i ∧ q = j then v else F p q) = F' p q) :
    MatF (w.setCell ⟨g i, j, none⟩ (.int .u8 (v : Int))) B E G r cap g C W F' :=
  (h.setElt teNe hi rfl hj (v : Int)).1.congr (fun p hp => ⟨rfl, rfl, rfl, fun q hq => by
    rw [← e p q hp hq]
    split <;> rfl⟩)
theorem grown_below {w w1 w2 : World} {g : Nat} (h0 : w.grownBy w1 (some g)) (hb : Below w1.heap.size w1 w2) : w.grownBy w2 (some g) :=
  ⟨hb.os.trans h0.os, hb.tape.trans h0.tape, hb.output.trans h0.output, Nat.le_trans h0.size hb.size, fun j hj hn => (hb.block j (Nat.lt_of_lt_of_le hj h0.size)).trans (h0.block j hj hn)⟩
/-- Row 'a' scaled in its first 'k' places. -/
def sclK (a x k : Nat) (F : Nat → Nat → Nat) (i j : Nat) : Nat := if i = a ∧ j < k then Gp.m (F i j) x else F i j
set_option maxHeartbeats 2000000 in
theorem scaleRow_any (B E G r cap : Nat) (g C : Nat → Nat) (W : Nat) (F : Nat → Nat → Nat) (a x : Nat) (w : World) (h : MatF w B E G r cap g C W F) (hF : Gm.Byt F) (ha : a < r) (hx : x < 256) (hW : W ≤ 1048576) :
    Calls Try.prog 86 #[.slice (some ⟨G, 0, none⟩) r cap, .int .i64 (a : Int), .int .u8 (x : Int)] w fun e w' => e = .returned (.tuple #[]) ∧ MatF w' B E G r cap g C W (Gm.scl a x F) ∧ w.grownBy w' (some (g a)) := by
  have hai : (a : Int) < (r : Int) := by omega
  have hh0 := h.hdr ha
  have K0 : Hid (MatF w B E G r cap g C W F) := h
  have KF : Hid (Gm.Byt F) := hF
  clear h hF
  obtain ⟨ga, hga⟩ : ∃ ga, g a = ga := ⟨_, rfl⟩
  obtain ⟨Ca, hCa⟩ : ∃ Ca, C a = Ca := ⟨_, rfl⟩
  have KG : Hid (g a = ga) := hga
  have KC : Hid (C a = Ca) := hCa
  rw [hga, hCa] at hh0
  rw [hga]
  clear hga hCa
  go_enter Try.func86, Try.ntmps86
  go_wp2
  go_loopw [13] (fun i wr => ∃ k : Nat, k ≤ W ∧ i = .int .i64 k ∧ MatF wr B E G r cap g C W (sclK a x k F) ∧ w.grownBy wr (some ga)) (fun i _ => W - (intOf i).toNat)
  case atStart => exact ⟨0, Nat.zero_le _, rfl, K0.out.congr (fun i _ => ⟨rfl, rfl, rfl, fun j _ => by unfold sclK; rw [if_neg (by omega)]⟩), World.grownBy.refl _ _⟩
  case round =>
    obtain ⟨k, hk, rfl, hM, hgr⟩ := hrel
    clear K0
    by_cases hlt : k < W
    · have hki : (k : Int) < (W : Int) := by omega
      have hh := hM.hdr ha
      have he := hM.elt (j := k) ha rfl hlt
      have hval : sclK a x k F a k = F a k := by unfold sclK; rw [if_neg (by omega)]
      rw [hval] at he
      have hf := KF.out a k
      have hfr := hM.free ha rfl k
      have hG := hM.olt.2
      have hg := (hM.glt ha rfl).2
      have hml := Gf.mul_lt hf hx
      have KE : Hid (∀ p q, (if p = a ∧ q = k then Gf.mul (F a k) x else sclK a x k F p q) = sclK a x (k + 1) F p q) := fun p q => by
        unfold sclK
        by_cases e : p = a ∧ q = k
        · obtain ⟨rfl, rfl⟩ := e
          rw [if_pos ⟨rfl, rfl⟩, if_pos ⟨rfl, by omega⟩, Gp.m_nat hf hx]
        · rw [if_neg e]
          by_cases e2 : p = a ∧ q < k
          · rw [if_pos e2, if_pos (by omega)]
          · rw [if_neg e2, if_neg (by omega)]
      have KM : Hid (MatF wr B E G r cap g C W (sclK a x k F)) := hM
      have hGg : G ≠ ga := by
        have := MatZ.off teNe hM ha rfl
        rw [KG.out] at this
        exact this.symm
      have hk2 : ∀ (u : World) (v : Value), u.cell? ⟨G, a, none⟩ = some (.slice (some ⟨ga, 0, none⟩) W Ca) → (u.setCell ⟨ga, k, none⟩ v).cell? ⟨G, a, none⟩ = some (.slice (some ⟨ga, 0, none⟩) W Ca) := fun u v hu => (grown_set u ga k v).cell hu (by simp; exact hGg)
      clear hM hval hh0
      obtain ⟨X, hX⟩ : ∃ X, F a k = X := ⟨_, rfl⟩
      rw [hX] at he hf hml KE
      clear hX
      rw [KG.out] at hh he hfr hg
      rw [KC.out] at hh
      go_wp2_with fail
      go_region_held3 (fun w' => w'.cell? ⟨G, a, none⟩ = some (.slice (some ⟨ga, 0, none⟩) W Ca)) (first | go_keep | exact hk2 _ _ (by assumption)) ((go_at_call 62; refine (times_any X x _ hf hx).mono ?_; rintro e w1 ⟨rfl, hb1'⟩; have hb1 := below_of_drew hb1'; clear hb1'; have hh1 := (hb1.cell (p := ⟨G, a, none⟩) hG).trans hh; have he1 := (hb1.cell (p := ⟨ga, k, none⟩) hg).trans he; have hfr1 := (World.frozen?_of_block (a := ⟨ga, k, none⟩) (hb1.block _ hg)).trans hfr))
      all_goals
        have HS : Hid (MatF (w1.setCell ⟨ga, k, none⟩ (.int .u8 ((Gf.mul X x : Nat) : Int))) B E G r cap g C W (sclK a x (k + 1) F)) := by
          have := MatF.set (KM.out.below hb1) (i := a) (j := k) (v := Gf.mul X x) ha hlt (fun p q _ _ => KE.out p q)
          rw [KG.out] at this
          exact this
        have HG : Hid (w.grownBy (w1.setCell ⟨ga, k, none⟩ (.int .u8 ((Gf.mul X x : Nat) : Int))) (some ga)) := grownBy_trans (grown_below hgr hb1) (grown_set _ _ _ _)
        clear KM
        go_wp2
        go_roundw
        case rel => exact ⟨k + 1, by omega, by go_num, HS.out, HG.out⟩
        case measure => simp [intOf] <;> omega
    · obtain rfl : k = W := by omega
      have KM : Hid (MatF wr B E G r cap g C k (sclK a x k F)) := hM
      clear hM
      go_wp2
      go_end0
      exact ⟨rfl, KM.out.congr (fun i _ => ⟨rfl, rfl, rfl, fun j hj => by unfold sclK Gm.scl; by_cases e : i = a; rw [if_pos ⟨e, hj⟩, if_pos e]; rw [if_neg (by omega), if_neg e]⟩), hgr⟩
/-- Row 'b' times 'y' on top of row 'a' in its first 'k' places. -/
def addK (a b y k : Nat) (F : Nat → Nat → Nat) (i j : Nat) : Nat := if i = a ∧ j < k then F i j ^^^ Gp.m (F b j) y else F i j
end Go.Proofs.Ytojklpahobmleaa
