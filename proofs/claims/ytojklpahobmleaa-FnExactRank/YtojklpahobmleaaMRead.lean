/- The program reads a matrix: what it is when it is one, and that it is none. Conditions: at most 2^20 rows, at most 2^20 numbers a row. -/
import Derived.Test.YtojklpahobmleaaMImp
namespace Go.Proofs.Ytojklpahobmleaa
open Go.ChangeShapes Go.WideShapes Go.ChangeAt Go.RowKit

/-- It is a matrix. -/
def OkM (n : Nat) (L : Nat → Nat) (Z : Nat → Nat → Int) : Prop := 1 ≤ n ∧ n ≤ 16 ∧ 1 ≤ L 0 ∧ L 0 ≤ 16 ∧ ∀ i, i < n → L i = L 0 ∧ ∀ j, j < L 0 → isB (Z i j) = true
/-- Its numbers. -/
def cZ (Z : Nat → Nat → Int) (i j : Nat) : Nat := (Z i j).toNat
theorem readE_z (z : Nat → Int) (n : Nat) {w : World} {B g : Nat} (h : OwnU w B g n n (coP (zI z n))) : w.ownsRow B 59 1 (.slice (some ⟨g, 0, none⟩) n n) n ((zI (fun j => (((z j).toNat : Nat) : Int)) n).map (Value.int .u8)) := by
  unfold OwnU at h
  rw [eI_zI, zI_congr (g := fun j => (((z j).toNat : Nat) : Int)) (fun j hj => by unfold coP; rw [zI_getD z n j hj])] at h
  exact h
set_option maxHeartbeats 2000000 in
theorem readM_yes (a : Option Addr) (n cap : Nat) (L : Nat → Nat) (Z : Nat → Nat → Int) (w : World) (h : MatAt w a n L Z) (ok : OkM n L Z) :
    Calls Try.prog 48 #[.slice a n cap] w fun e w' => e = .returned (.tuple #[.slice (some ⟨w.heap.size, 0, none⟩) n n, .bool true]) ∧ (∃ g : Nat → Nat, MatU w' w.heap.size w'.heap.size (some ⟨w.heap.size, 0, none⟩) n n (fun i => some ⟨g i, 0, none⟩) (fun _ => L 0) (fun _ => L 0) (fun i j => ((cZ Z i j : Nat) : Int))) ∧ Below w.heap.size w w' := by
  obtain ⟨i0, hi, hz0, hz1, hz2⟩ := info_parts Try.infoElems
  obtain ⟨hn1, hn2, hl1, hl2, hall⟩ := ok
  obtain ⟨b0, off0, ai0, ci0, e0, hc0, _⟩ := h 0 (by omega)
  subst e0
  rw [Nat.add_zero] at hc0
  obtain ⟨l, hl⟩ : ∃ l, L 0 = l := ⟨_, rfl⟩
  rw [hl] at hc0 hl1 hl2 hall ⊢
  have hs1 : side (n : Int) = true := by rw [side_nat]; simp; omega
  have hs2 : side (l : Int) = true := by rw [side_nat]; simp; omega
  have hn1' : (1 : Int) ≤ (n : Int) := by omega
  have hb0 := block_lt_of_cell hc0
  have KH : Hid (MatAt w (some ⟨b0, off0, none⟩) n L Z) := h
  have KA : Hid _ := hall
  clear h hall hl
  go_enter Try.func48, Try.ntmps48
  go_wp2_with (first | (go_at_call 59; refine (isSide_any _ _).mono ?_; rintro e w' ⟨rfl, hw⟩; obtain rfl := hw.symm) | (at_make; refine wpList_make_full _ rfl _ _ 55 rfl w.heap.size 58 i0 (.slice none 0 0) 1 Try.underlying55 hi hz0 hz1 .i64 .i64 _ _ n rfl rfl rfl rfl (by rw [hz2]; omega) (by unfold maxLen; omega) (Nat.le_refl _) ?_; intro w1 hown hgrow))
  have hb1 : Below w.heap.size w w1 := (Below.refl _ _).grown hgrow (Nat.le_refl _) (by simp)
  have hlt1 := (World.ownsRow.lt hown _ rfl).2
  have KO : Hid (MatU w1 w.heap.size w1.heap.size (some ⟨w.heap.size, 0, none⟩) n n (fun i => if i < 0 then some ⟨0, 0, none⟩ else none) (fun i => if i < 0 then l else 0) (fun i => if i < 0 then l else 0) (fun i j => ((cZ Z i j : Nat) : Int))) :=
    (MatZ.made (by simpa [Value.cells, toList_madeCells_one] using hown) hlt1 _).congr (fun i _ => ⟨by simp, by simp, by simp, fun j hj => rfl⟩)
  have KB : Hid (Below w.heap.size w w1) := hb1
  clear hown hgrow hlt1 hb1 hi hz0 hz1 hz2
  go_loopw [26] (fun i wr => ∃ (k : Nat) (g : Nat → Nat), k ≤ n ∧ i = .int .i64 ((k : Nat) : Int) ∧ MatU wr w.heap.size wr.heap.size (some ⟨w.heap.size, 0, none⟩) n n (fun i => if i < k then some ⟨g i, 0, none⟩ else none) (fun i => if i < k then l else 0) (fun i => if i < k then l else 0) (fun i j => ((cZ Z i j : Nat) : Int)) ∧ Below w.heap.size w wr) (fun i _ => n - (intOf i).toNat)
  case atStart => exact ⟨0, fun _ => 0, Nat.zero_le _, rfl, KO.out, KB.out⟩
  case round =>
    obtain ⟨k, g, hk, rfl, hown, hbel⟩ := hrel
    clear KO KB
    by_cases hlt : k < n
    · have hlti : (k : Int) < (n : Int) := by omega
      obtain ⟨b, off, ai, ci, eb, hc, hr⟩ := KH.out.below hbel k hlt
      cases eb
      have hLk := (KA.out k hlt).1
      have hBk := (KA.out k hlt).2
      rw [hLk] at hc hr
      have hc0' := (hbel.cell (p := ⟨b0, off0, none⟩) hb0).trans hc0
      have hrd := readE_yes ai l ci (zI (Z k) l) wr hr (by omega) (fun i hi => by rw [zI_getD _ _ _ hi]; exact hBk i hi)
      have KM : Hid (MatU wr w.heap.size wr.heap.size (some ⟨w.heap.size, 0, none⟩) n n (fun i => if i < k then some ⟨g i, 0, none⟩ else none) (fun i => if i < k then l else 0) (fun i => if i < k then l else 0) (fun i j => ((cZ Z i j : Nat) : Int))) := hown
      have KR : Hid _ := hrd
      have KB : Hid (Below w.heap.size w wr) := hbel
      clear hown hrd hBk hr hLk hc0
      go_wp2_with fail
      refine Calls.mono KR.out ?_
      rintro e w2 ⟨rfl, ho2, hb2⟩
      have hM := (KM.out.below hb2).wide hb2.size
      have hold := hM.hdr hlt
      have hfr := hM.ofree k
      simp only [Nat.lt_irrefl, if_false] at hold
      have hsz := hbel.size
      have hSR := hM.setRow teNe hlt (own_base (readE_z (Z k) l ho2) hsz) (OwnU.lt ho2).2 (fun j hj _ x ex => by have := KM.out.rE j hj x ex; exact Nat.ne_of_lt this)
      have HS : Hid (MatU (w2.setCell ⟨w.heap.size, k, none⟩ (.slice (some ⟨wr.heap.size, 0, none⟩) l l)) w.heap.size (w2.setCell ⟨w.heap.size, k, none⟩ (.slice (some ⟨wr.heap.size, 0, none⟩) l l)).heap.size (some ⟨w.heap.size, 0, none⟩) n n (fun i => if i < k + 1 then some ⟨(fun i => if i = k then wr.heap.size else g i) i, 0, none⟩ else none) (fun i => if i < k + 1 then l else 0) (fun i => if i < k + 1 then l else 0) (fun i j => ((cZ Z i j : Nat) : Int))) :=
        (hSR.1.wide hSR.2.size).congr (fun i _ => by
          by_cases e : i = k
          · subst e; simp [cZ]
          · by_cases e2 : i < k
            · simp [e, e2, show i < k + 1 by omega]
            · simp [e, e2, show ¬ i < k + 1 by omega])
      have HB : Hid (Below w.heap.size w (w2.setCell ⟨w.heap.size, k, none⟩ (.slice (some ⟨wr.heap.size, 0, none⟩) l l))) := (below2 KB.out hb2).setCell (Nat.le_refl _) _
      clear hM ho2 hb2 hbel hSR KM KR
      go_wp2
      go_roundw
      case rel => exact ⟨k + 1, _, by omega, by go_num, HS.out, HB.out⟩
      case measure => simp [intOf] <;> omega
    · obtain rfl : k = n := by omega
      have KM : Hid (MatU wr w.heap.size wr.heap.size (some ⟨w.heap.size, 0, none⟩) k k (fun i => if i < k then some ⟨g i, 0, none⟩ else none) (fun i => if i < k then l else 0) (fun i => if i < k then l else 0) (fun i j => ((cZ Z i j : Nat) : Int))) := hown
      clear hown
      go_wp2
      go_ret2
      exact ⟨rfl, ⟨g, KM.out.congr (fun i hi => ⟨if_pos hi, if_pos hi, if_pos hi, fun j _ => rfl⟩)⟩, hbel⟩
end Go.Proofs.Ytojklpahobmleaa
