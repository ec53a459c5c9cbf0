import Derived.Test.YtihklfkhjpnjkaaGreatDoorU11
import Derived.Test.YtihklfkhjpnjkaaGreatDoorU14
import Derived.Test.YtihklfkhjpnjkaaGreatDoorU15
import Derived.Test.YtihklfkhjpnjkaaGreatDoorU7
import Derived.Test.YtihklfkhjpnjkaaGreatDoorU13
import Derived.Test.YtihklfkhjpnjkaaGreatDoorU10
import Derived.Test.YtihklfkhjpnjkaaGreatDoorU6
import Derived.Deep.RegionHeld3
import Derived.Deep.AppendLies
import Derived.Test.YtihklfkhjpnjkaaGreatDoorU1
import Derived.Sort.LoopGhostIn
set_option maxHeartbeats 8000000
set_option maxRecDepth 2000
open Go.ChangeShapes Go.WideShapes Go.ChangeAt Go.RowKit
namespace Go.Proofs.YtihklfkhjpnjkaaGreatDoor
open Gs (U)
def sumS (s : ByteArray) : ByteArray := strOfNums (lx (Gs.sip (tat s) 1#64 2#64 s.size)) ++ strOfNums (lx (Gs.sip (tat s) 3#64 4#64 s.size))
theorem lxs_size (x : BitVec 64) : (strOfNums (lx x)).size = 8 := by rw [strOfNums_size, lx_len]
theorem sumS_size (s : ByteArray) : (sumS s).size = 16 := by
 unfold sumS
 rw [ByteArray.size_append, lxs_size, lxs_size]
theorem sum_wide (s : ByteArray) (w : World) (hs : s.size ≤ 4194304) :
  Calls Tryz.prog 90 #[.string s] w fun e w' => e = .returned (.string (sumS s)) ∧ Below w.heap.size w w' := by
 have z1 := lxs_size (Gs.sip (tat s) 1#64 2#64 s.size)
 have z2 := lxs_size (Gs.sip (tat s) 3#64 4#64 s.size)
 have HS : Hid (sumS s = strOfNums (lx (Gs.sip (tat s) 1#64 2#64 s.size)) ++ strOfNums (lx (Gs.sip (tat s) 3#64 4#64 s.size))) := rfl
 go_enter Tryz.func90, Tryz.ntmps90
 go_wp2_with fail
 refine (sip_wide 1#64 2#64 s _ hs).mono ?_
 rintro e w1 ⟨rfl, hb1⟩
 go_wp2_with fail
 refine (longText_any _ _).mono ?_
 rintro e w2 ⟨rfl, hb2⟩
 go_wp2_with fail
 refine (sip_wide 3#64 4#64 s _ hs).mono ?_
 rintro e w3 ⟨rfl, hb3⟩
 go_wp2_with fail
 refine (longText_any _ _).mono ?_
 rintro e w4 ⟨rfl, hb4⟩
 have hb := below2 (below2 hb1 hb2) (below2 hb3 hb4)
 generalize strOfNums (lx (Gs.sip (tat s) 1#64 2#64 s.size)) = t1 at z1 HS ⊢
 generalize strOfNums (lx (Gs.sip (tat s) 3#64 4#64 s.size)) = t2 at z2 HS ⊢
 go_wp2
 go_ret
 exact ⟨by rw [HS.out]; rfl, hb⟩
theorem sSum_wide (s : ByteArray) (w : World) (hs : s.size ≤ 4194304) :
  Calls Tryz.prog 91 #[.string s] w fun e w' => e = .returned (.string (sumS s)) ∧ Below w.heap.size w w' := by
 have z1 := lxs_size (Gs.sip (tat s) 1#64 2#64 s.size)
 have z2 := lxs_size (Gs.sip (tat s) 3#64 4#64 s.size)
 have HS : Hid (sumS s = strOfNums (lx (Gs.sip (tat s) 1#64 2#64 s.size)) ++ strOfNums (lx (Gs.sip (tat s) 3#64 4#64 s.size))) := rfl
 go_enter Tryz.func91, Tryz.ntmps91
 go_wp2_with fail
 refine (sSip_wide 1#64 2#64 s _ hs).mono ?_
 rintro e w1 ⟨rfl, hb1⟩
 go_wp2_with fail
 refine (sLongText_any _ _).mono ?_
 rintro e w2 ⟨rfl, hb2⟩
 go_wp2_with fail
 refine (sSip_wide 3#64 4#64 s _ hs).mono ?_
 rintro e w3 ⟨rfl, hb3⟩
 go_wp2_with fail
 refine (sLongText_any _ _).mono ?_
 rintro e w4 ⟨rfl, hb4⟩
 have hb := below2 (below2 hb1 hb2) (below2 hb3 hb4)
 generalize strOfNums (lx (Gs.sip (tat s) 1#64 2#64 s.size)) = t1 at z1 HS ⊢
 generalize strOfNums (lx (Gs.sip (tat s) 3#64 4#64 s.size)) = t2 at z2 HS ⊢
 have h16 : (t1 ++ t2).size = 16 := by rw [ByteArray.size_append]; omega
 have hcut : (t1 ++ t2).extract 0 16 = t1 ++ t2 := by rw [← h16]; exact ByteArray.extract_zero_size
 go_wp2
 go_ret
 exact ⟨by rw [HS.out]; rfl, hb⟩
end Go.Proofs.YtihklfkhjpnjkaaGreatDoor
namespace Go.Proofs.YtihklfkhjpnjkaaGreatDoor
namespace Gt
def jn (a b : ByteArray) : ByteArray := sumS ((⟨#[1]⟩ : ByteArray) ++ a ++ b)
def lf (s : ByteArray) : ByteArray := sumS ((⟨#[0]⟩ : ByteArray) ++ s)
theorem jn_size (a b : ByteArray) : (jn a b).size = 16 := sumS_size _
theorem lf_size (a : ByteArray) : (lf a).size = 16 := sumS_size _
def nb (i : Nat) : Nat := if i % 2 = 0 then i + 1 else i - 1
def hf (n : Nat) : Nat := (n + 1) / 2
def up (m : Nat) (R : Nat → ByteArray) : Nat → ByteArray := fun i => if 2 * i + 1 < m then jn (R (2 * i)) (R (2 * i + 1)) else if 2 * i < m then R (2 * i) else ByteArray.empty
theorem up_congr {m : Nat} {R R' : Nat → ByteArray} (h : ∀ i, i < m → R i = R' i) : up m R = up m R' := by
 funext i
 unfold up
 by_cases h1 : 2 * i + 1 < m
 ·rw [if_pos h1, if_pos h1, h _ (by omega), h _ h1]
 ·rw [if_neg h1, if_neg h1]
  by_cases h2 : 2 * i < m
  ·rw [if_pos h2, if_pos h2, h _ h2]
  ·rw [if_neg h2, if_neg h2]
theorem up_size {m : Nat} {R : Nat → ByteArray} (h : ∀ i, i < m → (R i).size = 16) : ∀ i, i < hf m → (up m R i).size = 16 := by
 intro i hi
 unfold hf at hi
 unfold up
 by_cases h1 : 2 * i + 1 < m
 ·rw [if_pos h1]; exact jn_size _ _
 ·rw [if_neg h1, if_pos (by omega)]; exact h _ (by omega)
theorem up_pad (m : Nat) (R : Nat → ByteArray) : ∀ i, hf m ≤ i → up m R i = ByteArray.empty := by
 intro i hi
 unfold hf at hi
 unfold up
 rw [if_neg (by omega), if_neg (by omega)]
def rt (n : Nat) (R : Nat → ByteArray) : ByteArray := if _h : n ≤ 1 then R 0 else rt (hf n) (up n R)
 termination_by n
 decreasing_by unfold hf; omega
theorem rt_one {n : Nat} (R : Nat → ByteArray) (h : n ≤ 1) : rt n R = R 0 := by rw [rt, dif_pos h]
theorem rt_more {n : Nat} (R : Nat → ByteArray) (h : ¬ n ≤ 1) : rt n R = rt (hf n) (up n R) := by rw [rt, dif_neg h]
theorem rt_congr {n : Nat} {R R' : Nat → ByteArray} (hn : 0 < n) (h : ∀ i, i < n → R i = R' i) : rt n R = rt n R' := by
 by_cases e : n ≤ 1
 ·rw [rt_one _ e, rt_one _ e, h 0 hn]
 ·rw [rt_more _ e, rt_more _ e, up_congr h]
theorem rt_size {n : Nat} : ∀ {R : Nat → ByteArray}, 0 < n → (∀ i, i < n → (R i).size = 16) → (rt n R).size = 16 := by
 induction n using Nat.strongRecOn with
 | _ n ih =>
  intro R hn h
  by_cases e : n ≤ 1
  ·rw [rt_one _ e]; exact h 0 hn
  ·rw [rt_more _ e]
   exact ih (hf n) (by unfold hf; omega) (by unfold hf; omega) (up_size h)
def pl (i n : Nat) : Nat := if _h : n ≤ 1 then 0 else (if nb i < n then 1 else 0) + pl (i / 2) (hf n)
 termination_by n
 decreasing_by unfold hf; omega
theorem pl_one {n : Nat} (i : Nat) (h : n ≤ 1) : pl i n = 0 := by rw [pl, dif_pos h]
theorem pl_yes {n : Nat} (i : Nat) (h : ¬ n ≤ 1) (hb : nb i < n) : pl i n = 1 + pl (i / 2) (hf n) := by rw [pl, dif_neg h, if_pos hb]
theorem pl_no {n : Nat} (i : Nat) (h : ¬ n ≤ 1) (hb : ¬ nb i < n) : pl i n = pl (i / 2) (hf n) := by rw [pl, dif_neg h, if_neg hb, Nat.zero_add]
theorem pl_le (k : Nat) : ∀ (i n : Nat), n ≤ 2 ^ k → pl i n ≤ k := by
 induction k with
 | zero => intro i n h; rw [pl_one i (by simpa using h)]; exact Nat.le_refl _
 | succ k ih =>
  intro i n h
  by_cases e : n ≤ 1
  ·rw [pl_one i e]; exact Nat.zero_le _
  ·have h2 : hf n ≤ 2 ^ k := by
    rw [Nat.pow_succ] at h
    unfold hf
    have := Nat.one_le_two_pow (n := k)
    omega
   have := ih (i / 2) (hf n) h2
   by_cases hb : nb i < n
   ·rw [pl_yes i e hb]; omega
   ·rw [pl_no i e hb]; omega
def pf (n : Nat) (R : Nat → ByteArray) (i : Nat) (j : Nat) : ByteArray :=
 if _h : n ≤ 1 then ByteArray.empty else if nb i < n then (if j = 0 then R (nb i) else pf (hf n) (up n R) (i / 2) (j - 1)) else pf (hf n) (up n R) (i / 2) j
 termination_by n
 decreasing_by all_goals (unfold hf; omega)
theorem pf_hd {n : Nat} (R : Nat → ByteArray) (i : Nat) (h : ¬ n ≤ 1) (hb : nb i < n) : pf n R i 0 = R (nb i) := by rw [pf, dif_neg h, if_pos hb, if_pos rfl]
theorem pf_tl {n : Nat} (R : Nat → ByteArray) (i j : Nat) (h : ¬ n ≤ 1) (hb : nb i < n) : pf n R i (j + 1) = pf (hf n) (up n R) (i / 2) j := by rw [pf, dif_neg h, if_pos hb, if_neg (by omega)]; rfl
theorem pf_no {n : Nat} (R : Nat → ByteArray) (i j : Nat) (h : ¬ n ≤ 1) (hb : ¬ nb i < n) : pf n R i j = pf (hf n) (up n R) (i / 2) j := by rw [pf, dif_neg h, if_neg hb]
theorem pf_congr {n : Nat} {R R' : Nat → ByteArray} (h : ∀ i, i < n → R i = R' i) (i j : Nat) : pf n R i j = pf n R' i j := by
 by_cases e : n ≤ 1
 ·rw [pf, dif_pos e, pf, dif_pos e]
 ·by_cases hb : nb i < n
  ·cases j with
   | zero => rw [pf_hd _ _ e hb, pf_hd _ _ e hb, h _ hb]
   | succ j => rw [pf_tl _ _ _ e hb, pf_tl _ _ _ e hb, up_congr h]
  ·rw [pf_no _ _ _ e hb, pf_no _ _ _ e hb, up_congr h]
theorem pf_size {n : Nat} : ∀ {R : Nat → ByteArray} (i : Nat), i < n → (∀ i, i < n → (R i).size = 16) → ∀ j, j < pl i n → (pf n R i j).size = 16 := by
 induction n using Nat.strongRecOn with
 | _ n ih =>
  intro R i hi h j hj
  by_cases e : n ≤ 1
  ·rw [pl_one i e] at hj; omega
  ·have hlt : hf n < n := by unfold hf; omega
   have hi2 : i / 2 < hf n := by unfold hf; omega
   by_cases hb : nb i < n
   ·rw [pl_yes i e hb] at hj
    cases j with
    | zero => rw [pf_hd _ _ e hb]; exact h _ hb
    | succ j => rw [pf_tl _ _ _ e hb]; exact ih (hf n) hlt (i / 2) hi2 (up_size h) j (by omega)
   ·rw [pl_no i e hb] at hj
    rw [pf_no _ _ _ e hb]
    exact ih (hf n) hlt (i / 2) hi2 (up_size h) j hj
def pr (x : ByteArray) (i n : Nat) (P : Nat → ByteArray) (c : Nat) : ByteArray :=
 if _h : n ≤ 1 then x else if nb i < n then pr (if i % 2 = 0 then jn x (P c) else jn (P c) x) (i / 2) (hf n) P (c + 1) else pr x (i / 2) (hf n) P c
 termination_by n
 decreasing_by all_goals (unfold hf; omega)
theorem pr_one {n : Nat} (x : ByteArray) (i : Nat) (P : Nat → ByteArray) (c : Nat) (h : n ≤ 1) : pr x i n P c = x := by rw [pr, dif_pos h]
theorem pr_yes {n : Nat} (x : ByteArray) (i : Nat) (P : Nat → ByteArray) (c : Nat) (h : ¬ n ≤ 1) (hb : nb i < n) : pr x i n P c = pr (if i % 2 = 0 then jn x (P c) else jn (P c) x) (i / 2) (hf n) P (c + 1) := by rw [pr, dif_neg h, if_pos hb]
theorem pr_no {n : Nat} (x : ByteArray) (i : Nat) (P : Nat → ByteArray) (c : Nat) (h : ¬ n ≤ 1) (hb : ¬ nb i < n) : pr x i n P c = pr x (i / 2) (hf n) P c := by rw [pr, dif_neg h, if_neg hb]
theorem pr_congr {P P' : Nat → ByteArray} {n : Nat} : ∀ (x : ByteArray) (i c c' : Nat), (∀ j, j < pl i n → P (c + j) = P' (c' + j)) → pr x i n P c = pr x i n P' c' := by
 induction n using Nat.strongRecOn with
 | _ n ih =>
  intro x i c c' h
  by_cases e : n ≤ 1
  ·rw [pr_one _ _ _ _ e, pr_one _ _ _ _ e]
  ·have hlt : hf n < n := by unfold hf; omega
   by_cases hb : nb i < n
   ·rw [pl_yes i e hb] at h
    rw [pr_yes _ _ _ _ e hb, pr_yes _ _ _ _ e hb]
    have h0 := h 0 (by omega)
    simp only [Nat.add_zero] at h0
    rw [h0]
    exact ih (hf n) hlt _ _ _ _ (fun j hj => by have := h (j + 1) (by omega); rwa [show c + (j + 1) = c + 1 + j by omega, show c' + (j + 1) = c' + 1 + j by omega] at this)
   ·rw [pl_no i e hb] at h
    rw [pr_no _ _ _ _ e hb, pr_no _ _ _ _ e hb]
    exact ih (hf n) hlt _ _ _ _ h
theorem pr_pf {n : Nat} : ∀ (R : Nat → ByteArray) (i : Nat), i < n → pr (R i) i n (pf n R i) 0 = rt n R := by
 induction n using Nat.strongRecOn with
 | _ n ih =>
  intro R i hi
  by_cases e : n ≤ 1
  ·rw [pr_one _ _ _ _ e, rt_one _ e, show i = 0 by omega]
  ·have hlt : hf n < n := by unfold hf; omega
   have hi2 : i / 2 < hf n := by unfold hf; omega
   have hIH := ih (hf n) hlt (up n R) (i / 2) hi2
   rw [rt_more _ e, ← hIH]
   by_cases hb : nb i < n
   ·rw [pr_yes _ _ _ _ e hb, pf_hd _ _ e hb]
    have hx : (if i % 2 = 0 then jn (R i) (R (nb i)) else jn (R (nb i)) (R i)) = up n R (i / 2) := by
     unfold nb at hb ⊢
     unfold up
     by_cases h2 : i % 2 = 0
     ·rw [if_pos h2] at hb ⊢
      rw [if_pos h2, if_pos (by omega), show 2 * (i / 2) = i by omega]
     ·rw [if_neg h2] at hb ⊢
      rw [if_neg h2, if_pos (by omega), show 2 * (i / 2) = i - 1 by omega, show i - 1 + 1 = i by omega]
    rw [hx]
    exact pr_congr _ _ _ _ (fun j _ => by rw [show 0 + 1 + j = j + 1 by omega, pf_tl _ _ _ e hb, Nat.zero_add])
   ·have hx : R i = up n R (i / 2) := by
     unfold nb at hb
     unfold up
     by_cases h2 : i % 2 = 0
     ·rw [if_pos h2] at hb
      rw [if_neg (by omega), if_pos (by omega), show 2 * (i / 2) = i by omega]
     ·rw [if_neg h2] at hb
      omega
    rw [pr_no _ _ _ _ e hb, ← hx]
    exact pr_congr _ _ _ _ (fun j _ => by rw [Nat.zero_add, pf_no _ _ _ e hb])
theorem pr_size {P : Nat → ByteArray} {n : Nat} : ∀ (x : ByteArray) (i c : Nat), x.size = 16 → (pr x i n P c).size = 16 := by
 induction n using Nat.strongRecOn with
 | _ n ih =>
  intro x i c h
  by_cases e : n ≤ 1
  ·rw [pr_one _ _ _ _ e]; exact h
  ·have hlt : hf n < n := by unfold hf; omega
   by_cases hb : nb i < n
   ·rw [pr_yes _ _ _ _ e hb]
    refine ih (hf n) hlt _ _ _ ?_
    by_cases h2 : i % 2 = 0
    ·rw [if_pos h2]; exact jn_size _ _
    ·rw [if_neg h2]; exact jn_size _ _
   ·rw [pr_no _ _ _ _ e hb]; exact ih (hf n) hlt _ _ _ h
def nm (p s : Nat) : Nat × Nat := if _h : s ≤ 1 then (p, s) else if nb p < s then (p, s) else nm (p / 2) (hf s)
 termination_by s
 decreasing_by unfold hf; omega
theorem nm_one {s : Nat} (p : Nat) (h : s ≤ 1) : nm p s = (p, s) := by rw [nm, dif_pos h]
theorem nm_yes {s : Nat} (p : Nat) (h : ¬ s ≤ 1) (hb : nb p < s) : nm p s = (p, s) := by rw [nm, dif_neg h, if_pos hb]
theorem nm_no {s : Nat} (p : Nat) (h : ¬ s ≤ 1) (hb : ¬ nb p < s) : nm p s = nm (p / 2) (hf s) := by rw [nm, dif_neg h, if_neg hb]
theorem pl_nm {s : Nat} : ∀ (p : Nat), pl (nm p s).1 (nm p s).2 = pl p s := by
 induction s using Nat.strongRecOn with
 | _ s ih =>
  intro p
  by_cases e : s ≤ 1
  ·rw [nm_one p e]
  ·by_cases hb : nb p < s
   ·rw [nm_yes p e hb]
   ·rw [nm_no p e hb, pl_no p e hb]; exact ih (hf s) (by unfold hf; omega) _
theorem pr_nm {s : Nat} : ∀ (x : ByteArray) (p : Nat) (P : Nat → ByteArray) (c : Nat), pr x (nm p s).1 (nm p s).2 P c = pr x p s P c := by
 induction s using Nat.strongRecOn with
 | _ s ih =>
  intro x p P c
  by_cases e : s ≤ 1
  ·rw [nm_one p e]
  ·by_cases hb : nb p < s
   ·rw [nm_yes p e hb]
   ·rw [nm_no p e hb, pr_no _ _ _ _ e hb]; exact ih (hf s) (by unfold hf; omega) _ _ _ _
theorem nb_xor (i : Nat) : i ^^^ 1 = nb i := by
 unfold nb
 have h1 : (i ^^^ 1) / 2 = i / 2 := by rw [Nat.xor_div_two]; simp
 have h2 : (i ^^^ 1) % 2 = (i + 1) % 2 := by
  have h := Nat.xor_mod_two_pow (a := i) (b := 1) (n := 1)
  rw [Nat.pow_one] at h
  rw [h]
  rcases Nat.mod_two_eq_zero_or_one i with e | e
  ·rw [e, show (i + 1) % 2 = 1 by omega]; decide
  ·rw [e, show (i + 1) % 2 = 0 by omega]; decide
 by_cases e : i % 2 = 0
 ·rw [if_pos e]; omega
 ·rw [if_neg e]; omega
theorem nb_model (i : Nat) : (i : Int) + 1 - 2 * ((i : Int) % 2) = (nb i : Int) := by
 unfold nb
 by_cases e : i % 2 = 0
 ·rw [if_pos e]; omega
 ·rw [if_neg e]; omega
end Gt
end Go.Proofs.YtihklfkhjpnjkaaGreatDoor
namespace Go.Proofs.YtihklfkhjpnjkaaGreatDoor
theorem hexT_size (s : ByteArray) : (hexT s).size = 2 * s.size := by unfold hexT; rw [strOfNums_size, hxL_len]
theorem hxAt_lt {T : Nat → Nat} (hT : ∀ i, T i < 256) (i : Nat) : hxAt T i < 256 := by
 have := hT (i / 2)
 unfold hxAt
 split <;> exact dg_lt (by omega)
theorem hexT_at (s : ByteArray) (i : Nat) (h : i < 2 * s.size) : tat (hexT s) i = hxAt (tat s) i := by
 unfold hexT
 rw [tat_str, show (hxL (tat s) (2 * s.size)).getD i 0 = ((hxAt (tat s) i : Nat) : Int) by simp [hxL, List.getD, h], Int.toNat_natCast, Nat.mod_eq_of_lt (hxAt_lt (tat_lt s) i)]
theorem hexT_hi (s : ByteArray) (i : Nat) (h : i < s.size) : ix (tat (hexT s) (2 * i)) = ((tat s i / 16 : Nat) : Int) := by
 have := tat_lt s i
 rw [hexT_at s _ (by omega), hxAt, if_pos (by omega), show 2 * i / 2 = i by omega, ix_dg (by omega)]
theorem hexT_lo (s : ByteArray) (i : Nat) (h : i < s.size) : ix (tat (hexT s) (2 * i + 1)) = ((tat s i % 16 : Nat) : Int) := by
 rw [hexT_at s _ (by omega), hxAt, if_neg (by omega), show (2 * i + 1) / 2 = i by omega, ix_dg (by omega)]
theorem hex_ok (s : ByteArray) : hbF (hexT s) = true := by
 unfold hbF
 rw [hexT_size, show 2 * s.size / 2 = s.size by omega, Bool.and_eq_true]
 refine ⟨by simp, oks_iff.2 fun i hi => ?_⟩
 unfold okp
 rw [hexT_hi s i hi, hexT_lo s i hi, Bool.and_eq_true, decide_eq_true_eq, decide_eq_true_eq]
 exact ⟨Int.natCast_nonneg _, Int.natCast_nonneg _⟩
theorem hbL_get (T : Nat → Nat) (m k : Nat) (h : k < m) : tat (strOfNums (hbL T m)) k = hbv T k := by
 rw [tat_str, hbL_at T m k h, Int.toNat_natCast, Nat.mod_eq_of_lt (hbv_lt T k)]
theorem hex_back (s : ByteArray) : hbS (hexT s) = s := by
 unfold hbS
 rw [if_pos (hex_ok s), hexT_size, show 2 * s.size / 2 = s.size by omega]
 have hz : (strOfNums (hbL (tat (hexT s)) s.size)).size = s.size := by rw [strOfNums_size, hbL_len]
 refine str_ext hz (fun k => ?_)
 by_cases hk : k < s.size
 ·rw [hbL_get _ _ _ hk, hbv, hexT_hi s k hk, hexT_lo s k hk, Int.toNat_natCast, Int.toNat_natCast]
  omega
 ·rw [tat_out _ k (by omega), tat_out s k hk]
theorem hbS_le (u : ByteArray) : (hbS u).size ≤ u.size := by
 unfold hbS
 split
 ·rw [strOfNums_size, hbL_len]; omega
 ·exact Nat.zero_le _
end Go.Proofs.YtihklfkhjpnjkaaGreatDoor
namespace Go.Proofs.YtihklfkhjpnjkaaGreatDoor
open Gt (jn lf)
theorem one_app (x : UInt8) (s : ByteArray) : ((⟨#[x]⟩ : ByteArray) ++ s).size = s.size + 1 := by rw [ByteArray.size_append, show (⟨#[x]⟩ : ByteArray).size = 1 from rfl]; omega
theorem join_any (a b : ByteArray) (w : World) (ha : a.size ≤ 1048576) (hb : b.size ≤ 1048576) : Calls Tryz.prog 119 #[.string a, .string b] w fun e w' => e = .returned (.string (jn a b)) ∧ Below w.heap.size w w' := by
 have h1 := one_app 1 a
 have h2 : ((⟨#[1]⟩ : ByteArray) ++ a ++ b).size = a.size + 1 + b.size := by rw [ByteArray.size_append, h1]
 have HS : Hid (∀ w0, Calls Tryz.prog 90 #[.string ((⟨#[1]⟩ : ByteArray) ++ a ++ b)] w0 fun e w' => e = .returned (.string (jn a b)) ∧ Below w0.heap.size w0 w') := fun w0 => sum_wide _ w0 (by omega)
 have hb1 : (⟨#[1]⟩ : ByteArray).size = 1 := rfl
 go_enter Tryz.func119, Tryz.ntmps119
 go_wp2_with fail
 refine (HS.out _).mono ?_
 rintro e w1 ⟨rfl, b1⟩
 go_wp2
 go_ret
 exact ⟨rfl, b1⟩
theorem sjoin_any (a b : ByteArray) (w : World) (ha : a.size ≤ 1048576) (hb : b.size ≤ 1048576) : Calls Tryz.prog 137 #[.string a, .string b] w fun e w' => e = .returned (.string (jn a b)) ∧ Below w.heap.size w w' := by
 have h1 := one_app 1 a
 have h2 : ((⟨#[1]⟩ : ByteArray) ++ a ++ b).size = a.size + 1 + b.size := by rw [ByteArray.size_append, h1]
 have HS : Hid (∀ w0, Calls Tryz.prog 91 #[.string ((⟨#[1]⟩ : ByteArray) ++ a ++ b)] w0 fun e w' => e = .returned (.string (jn a b)) ∧ Below w0.heap.size w0 w') := fun w0 => sSum_wide _ w0 (by omega)
 have hb1 : (⟨#[1]⟩ : ByteArray).size = 1 := rfl
 go_enter Tryz.func137, Tryz.ntmps137
 go_wp2_with fail
 refine (HS.out _).mono ?_
 rintro e w1 ⟨rfl, b1⟩
 go_wp2
 go_ret
 exact ⟨rfl, b1⟩
end Go.Proofs.YtihklfkhjpnjkaaGreatDoor
namespace Go.Proofs.YtihklfkhjpnjkaaGreatDoor
open Gt (nb hf)
abbrev SpV (p s : Int) : Value := .agg #[.int .i64 p, .int .i64 s]
theorem Tryz.infoSp : (Tryz.prog.info? 124).map (·.size) = some 2 := by kernel_rfl
theorem xor_one (p : Nat) (h : p ≤ 1048576) : bits .xor .i64 (p : Int) 1 = ((nb p : Nat) : Int) := by
 rw [← Gt.nb_xor]
 exact xor_i64 p 1 (by omega) (by omega)
theorem sizeAbove_any (s : Nat) (w : World) (hs : s ≤ 1048576) : Calls Tryz.prog 142 #[.int .i64 (s : Int)] w fun e w' => e = .returned (.int .i64 ((hf s : Nat) : Int)) ∧ w' = w := by
 obtain ⟨q, hq⟩ : ∃ q, hf s = q := ⟨_, rfl⟩
 have h1 : IntKind.i64.wrap ((s : Int) + 1) = (s : Int) + 1 := by rw [IntKind.wrap_i64]; omega
 have h2 : ((s : Int) + 1).tdiv 2 = (q : Int) := by rw [Int.tdiv_eq_ediv_of_nonneg (by omega), ← hq]; unfold hf; omega
 have h3 : IntKind.i64.wrap (q : Int) = (q : Int) := by unfold hf at hq; rw [IntKind.wrap_i64]; omega
 rw [hq]
 go_enter Tryz.func142, Tryz.ntmps142
 go_wp2
 go_ret
 exact ⟨rfl, rfl⟩
def inT (p s : Int) : Bool := decide (0 ≤ p ∧ p < s ∧ s ≤ 64)
theorem isInTree_any (p s : Int) (w : World) : Calls Tryz.prog 106 #[SpV p s] w fun e w' => e = .returned (.bool (inT p s)) ∧ Below w.heap.size w w' := by
 by_cases h1 : 0 ≤ p
 ·by_cases h2 : p < s
  ·by_cases h3 : s ≤ 64
   ·have HI : Hid (inT p s = true) := by show _ = _; simp [inT, h1, h2, h3]
    go_enter Tryz.func106, Tryz.ntmps106
    go_wp2
    go_ret
    exact ⟨by rw [HI.out]; rfl, (Below.refl _ _).alloc (Nat.le_refl _) _⟩
   ·have HI : Hid (inT p s = false) := by show _ = _; simp [inT]; omega
    go_enter Tryz.func106, Tryz.ntmps106
    go_wp2
    go_ret
    exact ⟨by rw [HI.out]; rfl, (Below.refl _ _).alloc (Nat.le_refl _) _⟩
  ·have HI : Hid (inT p s = false) := by show _ = _; simp [inT]; omega
   go_enter Tryz.func106, Tryz.ntmps106
   go_wp2
   go_ret
   exact ⟨by rw [HI.out]; rfl, (Below.refl _ _).alloc (Nat.le_refl _) _⟩
 ·have HI : Hid (inT p s = false) := by show _ = _; simp [inT]; omega
  go_enter Tryz.func106, Tryz.ntmps106
  go_wp2
  go_ret
  exact ⟨by rw [HI.out]; rfl, (Below.refl _ _).alloc (Nat.le_refl _) _⟩
theorem neighbour_any (p s : Nat) (w : World) (hp : p ≤ 1048576) :
  Calls Tryz.prog 107 #[SpV (p : Int) (s : Int)] w fun e w' => e = .returned (.tuple #[.int .i64 ((nb p : Nat) : Int), .bool (decide (nb p < s))]) ∧ Below w.heap.size w w' := by
 have hx := xor_one p hp
 have hd : decide ((nb p : Int) < (s : Int)) = decide (nb p < s) := by simp
 generalize nb p = q at hx hd
 go_enter Tryz.func107, Tryz.ntmps107
 go_wp2_with fail
 go_quiet (fail)
 go_wp2
 go_ret2
 exact ⟨by first | rfl | (rw [← hd]; rfl), belowDrewN ((Below.refl _ _).alloc (Nat.le_refl _) _) _⟩
theorem spotAbove_any (p s : Nat) (w : World) (hp : p ≤ 1048576) (hs : s ≤ 1048576) :
  Calls Tryz.prog 108 #[SpV (p : Int) (s : Int)] w fun e w' => e = .returned (SpV ((p / 2 : Nat) : Int) ((hf s : Nat) : Int)) ∧ Below w.heap.size w w' := by
 obtain ⟨q, hq⟩ : ∃ q, p / 2 = q := ⟨_, rfl⟩
 have h2 : (p : Int).tdiv 2 = (q : Int) := by rw [Int.tdiv_eq_ediv_of_nonneg (by omega), ← hq]; omega
 have h3 : IntKind.i64.wrap (q : Int) = (q : Int) := by rw [IntKind.wrap_i64]; omega
 rw [hq]
 clear hq
 obtain ⟨w1, HW1⟩ : ∃ w1, Hid (w1 = (w.alloc (.cells #[.int .i64 (p : Int), .int .i64 (s : Int)] 124)).alloc (.cells #[.int .i64 0, .int .i64 0] 124)) := ⟨_, rfl⟩
 have K1 : Hid (Row w1 w.heap.size 124 #[.int .i64 (p : Int), .int .i64 (s : Int)] ∧ Row w1 (w.heap.size + 1) 124 #[.int .i64 0, .int .i64 0] ∧ Below w.heap.size w w1) := by
  rw [HW1.out]
  refine ⟨(Row.new w _ _).alloc _, ?_, ((Below.refl _ _).alloc (Nat.le_refl _) _).alloc (by simp) _⟩
  have := Row.new (w.alloc (.cells #[.int .i64 (p : Int), .int .i64 (s : Int)] 124)) #[.int .i64 0, .int .i64 0] 124
  rw [show (w.alloc (.cells #[.int .i64 (p : Int), .int .i64 (s : Int)] 124)).heap.size = w.heap.size + 1 by simp] at this
  exact this
 obtain ⟨r, hr⟩ : ∃ r, hf s = r := ⟨_, rfl⟩
 have hsz := fun W => sizeAbove_any s W hs
 rw [hr] at hsz ⊢
 have KS : Hid (∀ W, Calls Tryz.prog 142 #[.int .i64 (s : Int)] W fun e w' => e = .returned (.int .i64 (r : Int)) ∧ w' = W) := hsz
 clear hsz hr
 go_enter Tryz.func108, Tryz.ntmps108
 go_wp2_with fail
 rw [← HW1.out]
 have c0 := K1.out.1.cell 0
 have c1 := K1.out.1.cell 1
 have d0 := K1.out.2.1.cell 0
 have d1 := K1.out.2.1.cell 1
 have f0 := K1.out.2.1.free 0
 have f1 := K1.out.2.1.free 1
 simp at c0 c1 d0 d1
 go_still_tail 7, Tryz.mixed
 still_call (KS.out _)
 repeat still_step
 refine wpStill_nil ?_
 rw [fold_drew]
 have HR := ((K1.out.2.1.drew.set 0 (.int .i64 (q : Int))).set 1 (.int .i64 (r : Int)))
 have HB : Hid (Below w.heap.size w ((w1.drew.setCell ⟨w.heap.size + 1, 0, none⟩ (.int .i64 (q : Int))).setCell ⟨w.heap.size + 1, 1, none⟩ (.int .i64 (r : Int)))) := (K1.out.2.2.drew.setCell (by simp) _).setCell (by simp) _
 go_wp2
 refine bodyPost_ret (results_cell_row (by rfl) _ _ (w.heap.size + 1) 124 _ (0, 0) _ (by rfl) HR Tryz.underlying124 (by rfl) Tryz.infoSp) rfl ?_
 exact ⟨rfl, HB.out⟩
end Go.Proofs.YtihklfkhjpnjkaaGreatDoor
namespace Go.Proofs.YtihklfkhjpnjkaaGreatDoor
end Go.Proofs.YtihklfkhjpnjkaaGreatDoor
namespace Go.Proofs.YtihklfkhjpnjkaaGreatDoor
open Go.ChangeShapes Go.WideShapes Go.ChangeAt Go.RowKit Go.Shelf
open Gt (nb hf nm)
abbrev jEnc (s : Nat × Nat) : Array Value := #[.int .i64 (s.1 : Int), .int .i64 ((nb s.1 : Nat) : Int)]
abbrev jOk (s : Nat × Nat) : Prop := 1 < s.2 ∧ nb s.1 < s.2 ∧ s.1 < s.2 ∧ s.2 ≤ 64
abbrev jNx (s : Nat × Nat) : Nat × Nat := nm (s.1 / 2) (hf s.2)
abbrev jFin (s : Nat × Nat) : Prop := s.2 ≤ 1
theorem wideFn (f : FuncId) : Fence.wide.fn f = True := rfl
theorem wideDepth : Fence.wide.depth = none := rfl
theorem joins_iter (i n : Nat) (hi : i < n) (hn : n ≤ 64) : IterM Tryz.prog 118 (SpV (i : Int) (n : Int)) jEnc jOk jNx jFin (nm i n) := by
 intro nn m l J W hJ hY hm h0
 subst hm
 have KY : Hid (∀ s W1, jOk s → J s W1 → W.heap.size < W1.heap.size → YieldAt Fence.wide m Tryz.prog l (jEnc s) W1 fun e W' => e = .returned (.bool true) ∧ J (jNx s) W' ∧ W.heap.size < W'.heap.size ∧ W'.heap[W.heap.size]? = W1.heap[W.heap.size]?) := hY
 clear hY
 have KJ : Hid (∀ s A B, J s A → A.grownBy B (some W.heap.size) → J s B) := hJ
 clear hJ
 have hfn := wideFn
 have hdp := wideDepth
 obtain ⟨b, hb⟩ : ∃ b, W.heap.size = b := ⟨_, rfl⟩
 have KW : Hid (W.heap.size = b) := hb
 refine callsIn_of_wp Tryz.func118 rfl trivial ?_ rfl
 simp only [Tryz.ntmps118, List.size_toArray, List.length_cons, List.length_nil, Nat.reduceAdd, Nat.reduceSub, Array.replicate_succ, Array.replicate_zero, List.push_toArray, List.append_toArray, List.nil_append, List.cons_append]
 gi_wp2
 gi_loopg [] n (fun gk wr => ∃ p s : Nat, s = gk ∧ p < s ∧ s ≤ 64 ∧ Row wr b 124 #[.int .i64 (p : Int), .int .i64 (s : Int)] ∧ Hid (J (nm p s) wr))
 case atStart =>
  refine ⟨i, n, rfl, hi, hn, ?_, KJ.out _ _ _ h0 (World.grownBy_alloc _ _ _)⟩
  rw [← hb]
  exact Row.new W _ _
 case round =>
  obtain ⟨p, s, rfl, hps, hs, hr, HJ⟩ := hrel
  clear h0
  have c0 := hr.cell 0
  have c1 := hr.cell 1
  simp at c0 c1
  by_cases h1 : s ≤ 1
  ·have h1' : ¬ (1 : Int) < (s : Int) := by omega
   have HE : Hid (J (p, s) wr) := by have := HJ.out; rw [Gt.nm_one p h1] at this; exact this
   gi_wp2
   go_end0
   exact ⟨⟨_, rfl⟩, p, s, h1, HE.out⟩
  ·have h1' : (1 : Int) < (s : Int) := by omega
   have hlb : b < wr.heap.size := hr.lt
   obtain ⟨d, hd⟩ : ∃ d, decide (nb p < s) = d := ⟨_, rfl⟩
   have KN : Hid (∀ w0, Calls Tryz.prog 107 #[SpV (p : Int) (s : Int)] w0 fun e w' => e = .returned (.tuple #[.int .i64 ((nb p : Nat) : Int), .bool d]) ∧ Below w0.heap.size w0 w') := by
    have := fun w0 => neighbour_any p s w0 (by omega)
    rw [hd] at this
    exact this
   have KR : Hid (Row wr b 124 #[.int .i64 (p : Int), .int .i64 (s : Int)]) := hr
   have KA : Hid (∀ w0, Calls Tryz.prog 108 #[SpV (p : Int) (s : Int)] w0 fun e w' => e = .returned (SpV ((p / 2 : Nat) : Int) ((hf s : Nat) : Int)) ∧ Below w0.heap.size w0 w') := fun w0 => spotAbove_any p s w0 (by omega) (by omega)
   obtain ⟨p', hp'⟩ : ∃ p', p / 2 = p' := ⟨_, rfl⟩
   obtain ⟨s', hs'⟩ : ∃ s', hf s = s' := ⟨_, rfl⟩
   have hps' : p' < s' ∧ s' < s := by unfold hf at hs'; omega
   rw [hp', hs'] at KA
   clear hr
   gi_wp2_with fail
   refine (callsIn_wide.2 (KN.out _)).mono ?_
   rintro e w1 ⟨rfl, hb1⟩
   cases d with
   | false =>
    have hnb : ¬ nb p < s := by simpa using hd
    have R1 := KR.out.below hb1 hlb
    have e0 := R1.cell 0
    have e1 := R1.cell 1
    have g0 := R1.free 0
    have g1 := R1.free 1
    simp at e0 e1
    have HJ1 : Hid (J (nm p' s') w1) := by
     have := KJ.out _ _ _ HJ.out (grown_below _ hb1)
     rw [Gt.nm_no p h1 hnb, hp', hs'] at this
     exact this
    clear c0 c1
    gi_wp2_with fail
    refine (callsIn_wide.2 (KA.out _)).mono ?_
    rintro e w2 ⟨rfl, hb2⟩
    have R2 := R1.below hb2 R1.lt
    have R3 := (R2.set 0 (.int .i64 (p' : Int))).set 1 (.int .i64 (s' : Int))
    have HJ2 : Hid (J (nm p' s') ((w2.setCell ⟨b, 0, none⟩ (.int .i64 (p' : Int))).setCell ⟨b, 1, none⟩ (.int .i64 (s' : Int)))) := by
     have hg := grown_below (some b) hb2
     rw [← KW.out] at hg ⊢
     exact KJ.out _ _ _ (KJ.out _ _ _ (KJ.out _ _ _ HJ1.out hg) (grown_set _ _ _ _)) (grown_set _ _ _ _)
    have e0 := R2.cell 0
    have e1 := R2.cell 1
    have g0 := R2.free 0
    have g1 := R2.free 1
    simp at e0 e1 R3
    gi_wp2
    gi_roundg s'
    case measure => exact hps'.2
    case rel => exact ⟨p', s', rfl, hps'.1, by omega, R3, HJ2⟩
   | true =>
    have hnb : nb p < s := by simpa using hd
    have R1 := KR.out.below hb1 hlb
    have e0 := R1.cell 0
    have e1 := R1.cell 1
    simp at e0 e1
    have HJ1 : J (p, s) w1 := by
     have := KJ.out _ _ _ HJ.out (grown_below _ hb1)
     rw [Gt.nm_yes p h1 hnb] at this
     exact this
    obtain ⟨fn, tmps, assign, body, hy, hR⟩ := KY.out (p, s) w1 ⟨by omega, hnb, hps, hs⟩ HJ1 (by rw [KW.out]; exact R1.lt)
    have HR : Hid (RoundIn Fence.wide m Tryz.prog l fn tmps assign body w1 fun e W' => e = .returned (.bool true) ∧ J (nm p' s') W' ∧ W.heap.size < W'.heap.size ∧ W'.heap[W.heap.size]? = w1.heap[W.heap.size]?) := by
     rw [← hp', ← hs']
     exact hR
    clear hR HJ1 c0 c1
    simp only [jEnc] at hy
    obtain ⟨q, hq⟩ : ∃ q, nb p = q := ⟨_, rfl⟩
    rw [hq] at hy
    have hmm : m + 1 - 1 = m := rfl
    gi_wp2
    try rw [hq]
    gi_wp2
    refine HR.out.mono ?_
    rintro e w2 ⟨rfl, hJ2, hs2, hk2⟩
    have R2 : Row w2 b 124 #[.int .i64 (p : Int), .int .i64 (s : Int)] := by
     unfold Row
     rw [← KW.out, hk2, KW.out]
     exact R1
    have HJ2 : Hid (J (nm p' s') w2) := hJ2
    have e0 := R2.cell 0
    have e1 := R2.cell 1
    simp at e0 e1
    clear hk2 hs2 hJ2
    gi_wp2_with fail
    refine (callsIn_wide.2 (KA.out _)).mono ?_
    rintro e w3 ⟨rfl, hb3⟩
    have R3 := R2.below hb3 R2.lt
    have R4 := (R3.set 0 (.int .i64 (p' : Int))).set 1 (.int .i64 (s' : Int))
    have HJ3 : Hid (J (nm p' s') ((w3.setCell ⟨b, 0, none⟩ (.int .i64 (p' : Int))).setCell ⟨b, 1, none⟩ (.int .i64 (s' : Int)))) := by
     have hg := grown_below (some b) hb3
     rw [← KW.out] at hg ⊢
     exact KJ.out _ _ _ (KJ.out _ _ _ (KJ.out _ _ _ HJ2.out hg) (grown_set _ _ _ _)) (grown_set _ _ _ _)
    have e0 := R3.cell 0
    have e1 := R3.cell 1
    have g0 := R3.free 0
    have g1 := R3.free 1
    simp at e0 e1 R4
    gi_wp2
    gi_roundg s'
    case measure => exact hps'.2
    case rel => exact ⟨p', s', rfl, hps'.1, by omega, R4, HJ3⟩
end Go.Proofs.YtihklfkhjpnjkaaGreatDoor
namespace Go.Proofs.YtihklfkhjpnjkaaGreatDoor
theorem belowOf {w w1 w2 : World} {g : Nat} (hb : Below w.heap.size w w1) (hg : w.heap.size ≤ g) (h : w1.grownBy w2 (some g)) : Below w.heap.size w w2 := hb.grown h hb.size (fun k e => by cases e; exact hg)
end Go.Proofs.YtihklfkhjpnjkaaGreatDoor
