/- The program's product of polynomials, and the polynomials that are 0 at places. Conditions: byte numbers, at most 100 factors of at most 1000 numbers. -/
import Derived.Test.YtdnddimkgddooaaDoorPDiv
namespace Go.Proofs.YtdnddimkgddooaaDoor
open Go.ChangeShapes Go.WideShapes Go.ChangeAt Go.RowKit

/-- The product of the first factors, and its length. -/
def pf (F : Nat → Nat → Nat) (N : Nat → Nat) : Nat → (Nat → Nat) × Nat
  | 0 => (Gp.one, 1)
  | i + 1 => (Gp.cv (pf F N i).1 (F i) (pf F N i).2, Gp.tl (Gp.cv (pf F N i).1 (F i) (pf F N i).2) ((pf F N i).2 + N i))
theorem pf_pol {F : Nat → Nat → Nat} {N : Nat → Nat} {k : Nat} (h : ∀ i, i < k → Gp.Pol (F i) (N i)) : ∀ i, i ≤ k → Gp.Pol (pf F N i).1 (pf F N i).2 := by
  intro i
  induction i with
  | zero => intro _; exact Gp.one_pol
  | succ i ih => intro hi; exact (Gp.cv_pol (h i (by omega))).tl
theorem pf_len {F : Nat → Nat → Nat} {N : Nat → Nat} {k : Nat} (h : ∀ i, i < k → N i ≤ 1000) : ∀ i, i ≤ k → (pf F N i).2 ≤ 1 + 1000 * i := by
  intro i
  induction i with
  | zero => intro _; exact Nat.le_refl _
  | succ i ih =>
    intro hi
    have h1 := ih (by omega)
    have h2 := h i (by omega)
    have h3 := Gp.tl_le (Gp.cv (pf F N i).1 (F i) (pf F N i).2) ((pf F N i).2 + N i)
    show Gp.tl _ _ ≤ _
    omega
theorem pf_succ (F : Nat → Nat → Nat) (N : Nat → Nat) (i : Nat) : pf F N (i + 1) = (Gp.cv (pf F N i).1 (F i) (pf F N i).2, Gp.tl (Gp.cv (pf F N i).1 (F i) (pf F N i).2) ((pf F N i).2 + N i)) := rfl

/-- A row of polynomials. -/
def Facs (w : World) (g k : Nat) (A : Nat → Option Addr) (N C : Nat → Nat) (F : Nat → Nat → Nat) : Prop :=
  ∀ i, i < k → w.cell? ⟨g, i, none⟩ = some (.slice (A i) (N i) (C i)) ∧ Els w (A i) (N i) (C i) (F i)
theorem Facs.below {w w' : World} {g k : Nat} {A : Nat → Option Addr} {N C : Nat → Nat} {F : Nat → Nat → Nat} (h : Facs w g k A N C F) (hb : Below w.heap.size w w') : Facs w' g k A N C F := fun i hi =>
  ⟨(hb.cell (p := ⟨g, i, none⟩) (block_lt_of_cell (h i hi).1)).trans (h i hi).1, (h i hi).2.below hb⟩

theorem one_els (w : World) : Els (w.alloc (.cells #[.int .u8 1] 48)) (some ⟨w.heap.size, 0, none⟩) 1 1 Gp.one := by
  refine ⟨Nat.le_refl _, .inr ⟨_, rfl, by simp, fun i hi => ?_⟩⟩
  obtain rfl : i = 0 := by omega
  rw [cell_of_row _ _ _ _ _ _ (heap_alloc_new w _)]
  rfl

set_option maxHeartbeats 1000000 in
theorem product_any (g k cap : Nat) (A : Nat → Option Addr) (N C : Nat → Nat) (F : Nat → Nat → Nat) (w : World) (h : Facs w g k A N C F) (hk : k ≤ 100) (hN : ∀ i, i < k → N i ≤ 1000) (hF : ∀ i, i < k → Gp.Pol (F i) (N i)) :
    Calls Tryd.prog 39 #[.slice (some ⟨g, 0, none⟩) k cap] w fun e w' => ∃ ar cr, e = .returned (.slice ar (pf F N k).2 cr) ∧ Els w' ar (pf F N k).2 cr (pf F N k).1 ∧ Below w.heap.size w w' := by
  obtain ⟨i0, hi, hz0, hz1, hz2⟩ := info_parts Tryd.infoElem
  have h1e := one_els w
  have hb1 : Below w.heap.size w (w.alloc (.cells #[.int .u8 1] 48)) := (Below.refl _ _).alloc (Nat.le_refl _) _
  have H1 : Hid (Els _ _ _ _ _ ∧ Below _ _ _) := ⟨h1e, hb1⟩
  clear h1e hb1
  go_enter Tryd.func39, Tryd.ntmps39
  go_wp2
  go_loopw [3, 12] (fun r i wr => ∃ (c : Nat) (ar : Option Addr) (cr : Nat), c ≤ k ∧ i = .int .i64 c ∧ r = .slice ar (pf F N c).2 cr ∧ Els wr ar (pf F N c).2 cr (pf F N c).1 ∧ Below w.heap.size w wr) (fun _ i _ => k - (intOf i).toNat)
  case atStart => exact ⟨0, _, 1, Nat.zero_le _, rfl, rfl, H1.out.1, H1.out.2⟩
  case round =>
    obtain ⟨c, ar, cr, hc, rfl, rfl, hre, hbel⟩ := hrel
    clear H1
    by_cases hlt : c < k
    · have hltI : (c : Int) < (k : Int) := by omega
      have hf := (h.below hbel) c hlt
      have hFc := hF c hlt
      have hNc := hN c hlt
      have hP := pf_pol hF c hc
      have hL := pf_len (F := F) hN c hc
      have HS : Hid (pf F N (c + 1) = (Gp.cv (pf F N c).1 (F c) (pf F N c).2, Gp.tl (Gp.cv (pf F N c).1 (F c) (pf F N c).2) ((pf F N c).2 + N c))) := pf_succ F N c
      obtain ⟨hcell, hfe⟩ := hf
      generalize (pf F N c).1 = P at hre hP HS
      generalize (pf F N c).2 = q at hre hP hL HS ⊢
      have hq : q ≤ 101000 := by omega
      clear hL
      generalize F c = D at hFc hfe HS
      generalize N c = nk at hcell hfe hFc hNc HS
      generalize A c = ac at hcell hfe
      generalize C c = cc at hcell hfe
      obtain ⟨n1, hn1⟩ : ∃ n1, q + nk = n1 := ⟨_, rfl⟩
      have hn1I : (q : Int) + (nk : Int) = (n1 : Int) := by omega
      rw [hn1] at HS
      have hn2 : n1 ≤ 102000 := by omega
      have hwsz := hbel.size
      clear h hF hN
      go_wp2_with (at_make; refine wpList_make_full _ rfl _ _ 44 rfl w.heap.size 48 i0 (.int .u8 0) 1 Tryd.underlying44 hi hz0 hz1 .i64 .i64 _ _ n1 rfl rfl (by first | rfl | omega) (by first | rfl | omega) (by rw [hz2]; omega) (by unfold maxLen; omega) hwsz ?_; intro w2 hown hgrow)
      have hb2 : Below wr.heap.size wr w2 := (Below.refl _ _).grown hgrow (Nat.le_refl _) (by simp)
      have q2 : OwnU w2 w.heap.size wr.heap.size n1 n1 (Gp.cv P D 0) := by
        unfold OwnU
        rw [eI_const (f := Gp.cv P D 0) n1 0 (fun i _ => rfl)]
        simpa [Value.cells, toList_madeCells_one] using hown
      have hoff1 := hfe.off (Nat.le_refl wr.heap.size)
      have hoff2 := hre.off (Nat.le_refl wr.heap.size)
      have hfe2 := hfe.below hb2
      have hre2 := hre.below hb2
      have hbel2 := below2 hbel hb2
      have hsz2 := hb2.size
      clear hown hgrow hcell hfe hre hb2
      generalize wr.heap.size = gn at *
      go_loopw [24] (fun j wq => ∃ i : Nat, i ≤ q ∧ j = .int .i64 i ∧ OwnU wq w.heap.size gn n1 n1 (Gp.cv P D i) ∧ Els wq ac nk cc D ∧ Els wq ar q cr P ∧ Below w.heap.size w wq) (fun j _ => q - (intOf j).toNat)
      case atStart => exact ⟨0, Nat.zero_le _, rfl, q2, hfe2, hre2, hbel2⟩
      case round =>
        obtain ⟨i, hiq, rfl, hown, hfe, hre, hbel3⟩ := hrel
        clear q2 hfe2 hre2 hbel2 hbel hwsz
        by_cases hlt2 : i < q
        · have hlt2I : (i : Int) < (q : Int) := by omega
          obtain ⟨bR, rfl, hcR⟩ := hre.at (i := i) hlt2
          have hPi := hP.1 i
          have hA := addScaled_any w.heap.size gn n1 n1 (Gp.cv P D i) ac nk cc D (P i) i wr hown hfe hoff1 (fun j => Gp.cv_lt P D i j) hFc.1 hPi (by omega) (by omega)
          have HE : Hid (∀ j, onTop (Gp.cv P D i) D (P i) i nk j = Gp.cv P D (i + 1) j) := fun j => by rw [onTop_sh hFc.2]; rfl
          have HA : Hid _ := hA
          have HF : Hid _ := And.intro hfe hre
          have hgn := hown.lt.1
          clear hown hfe hre hA
          go_wp2_with fail
          refine Calls.mono HA.out ?_
          rintro e w4 ⟨rfl, ho4, hg4⟩
          have ho5 := OwnU.congr (h := Gp.cv P D (i + 1)) ho4 (fun j _ => HE.out j)
          have hf5 := HF.out.1.grown hg4 hoff1
          have hr5 := HF.out.2.grown hg4 hoff2
          have hb5 := hbel3.trans (below_of_grownBy hg4 hgn hbel3.size)
          have H5 : Hid _ := And.intro ho5 (And.intro hf5 (And.intro hr5 hb5))
          clear ho4 hg4 ho5 hf5 hr5 hb5 HA HF HE hcR
          go_wp2
          go_roundw
          case rel =>
            obtain ⟨r1, r2, r3, r4⟩ := H5.out
            exact ⟨i + 1, by omega, by go_num, r1, r2, r3, r4⟩
          case measure => simp [intOf] <;> omega
        · obtain rfl : i = q := by omega
          have hT := trimmed_any _ n1 n1 (Gp.cv P D i) wr (OwnU.els hown) (by omega) (fun j => Gp.cv_lt P D i j)
          have HE : Hid _ := (OwnU.els hown).less (Gp.tl_le (Gp.cv P D i) n1)
          have HA : Hid _ := hT
          clear hown hfe hre hT hoff1 hoff2 hP hFc
          go_wp2_with fail
          refine Calls.mono HA.out ?_
          rintro e w4 ⟨rfl, hw4⟩
          obtain rfl := hw4.symm
          go_wp2
          go_roundw
          case rel =>
            refine ⟨c + 1, some ⟨gn, 0, none⟩, n1, by omega, by go_num, ?_, ?_, hbel3⟩
            · rw [HS.out]
            · rw [HS.out]
              exact HE.out
          case measure => simp [intOf] <;> omega
    · obtain rfl : c = k := by omega
      have HR : Hid _ := hre
      clear hre h hF hN
      go_wp2
      go_ret
      exact ⟨_, _, rfl, HR.out, hbel⟩
end Go.Proofs.YtdnddimkgddooaaDoor
