import Derived.Test.YtaenoiffamgcfaaGreatDoorM9
import Derived.Test.YtaenoiffamgcfaaGreatDoorM12
import Derived.Test.YtaenoiffamgcfaaGreatDoorM13
import Derived.Test.YtaenoiffamgcfaaGreatDoorM8
import Derived.Test.YtaenoiffamgcfaaGreatDoorM6
import Derived.Deep.RegionHeld3
import Derived.Deep.AppendLies
import Derived.Test.YtaenoiffamgcfaaGreatDoorM10
import Derived.Test.YtaenoiffamgcfaaGreatDoorM4
import Derived.Sort.LoopGhostIn
set_option maxHeartbeats 8000000
set_option maxRecDepth 2000
open Go.ChangeShapes Go.WideShapes Go.ChangeAt Go.RowKit
namespace Go.Proofs.YtaenoiffamgcfaaGreatDoor
open Gs (U)
def sumS (s : ByteArray) : ByteArray := strOfNums (lx (Gs.sip (tat s) 1#64 2#64 s.size)) ++ strOfNums (lx (Gs.sip (tat s) 3#64 4#64 s.size))
theorem lxs_size (x : BitVec 64) : (strOfNums (lx x)).size = 8 := by rw [strOfNums_size, lx_len]
theorem sumS_size (s : ByteArray) : (sumS s).size = 16 := by
 unfold sumS
 rw [ByteArray.size_append, lxs_size, lxs_size]
theorem sum_wide (s : ByteArray) (w : World) (hs : s.size ≤ 4194304) :
  Calls Tryz.prog 32 #[.string s] w fun e w' => e = .returned (.string (sumS s)) ∧ Below w.heap.size w w' := by
 have z1 := lxs_size (Gs.sip (tat s) 1#64 2#64 s.size)
 have z2 := lxs_size (Gs.sip (tat s) 3#64 4#64 s.size)
 have HS : Hid (sumS s = strOfNums (lx (Gs.sip (tat s) 1#64 2#64 s.size)) ++ strOfNums (lx (Gs.sip (tat s) 3#64 4#64 s.size))) := rfl
 go_enter Tryz.func32, Tryz.ntmps32
 go_wp2_with fail
 refine (sip_wide 1#64 2#64 s _ hs).mono ?_
 rintro e w1 ⟨rfl, hb1⟩
 go_wp2_with fail
 refine (longText_any _ _).mono ?_
 rintro e w2 ⟨rfl, hb2⟩
 go_wp2_with fail
 refine (sip_wide 3#64 4#64 s _ hs).mono ?_
 rintro e w3 ⟨rfl, hb3⟩
 go_wp2_with fail
 refine (longText_any _ _).mono ?_
 rintro e w4 ⟨rfl, hb4⟩
 have hb := below2 (below2 hb1 hb2) (below2 hb3 hb4)
 generalize strOfNums (lx (Gs.sip (tat s) 1#64 2#64 s.size)) = t1 at z1 HS ⊢
 generalize strOfNums (lx (Gs.sip (tat s) 3#64 4#64 s.size)) = t2 at z2 HS ⊢
 go_wp2
 go_ret
 exact ⟨by rw [HS.out]; rfl, hb⟩
theorem sSum_wide (s : ByteArray) (w : World) (hs : s.size ≤ 4194304) :
  Calls Tryz.prog 36 #[.string s] w fun e w' => e = .returned (.string (sumS s)) ∧ Below w.heap.size w w' := by
 have z1 := lxs_size (Gs.sip (tat s) 1#64 2#64 s.size)
 have z2 := lxs_size (Gs.sip (tat s) 3#64 4#64 s.size)
 have HS : Hid (sumS s = strOfNums (lx (Gs.sip (tat s) 1#64 2#64 s.size)) ++ strOfNums (lx (Gs.sip (tat s) 3#64 4#64 s.size))) := rfl
 go_enter Tryz.func36, Tryz.ntmps36
 go_wp2_with fail
 refine (sSip_wide 1#64 2#64 s _ hs).mono ?_
 rintro e w1 ⟨rfl, hb1⟩
 go_wp2_with fail
 refine (sLongText_any _ _).mono ?_
 rintro e w2 ⟨rfl, hb2⟩
 go_wp2_with fail
 refine (sSip_wide 3#64 4#64 s _ hs).mono ?_
 rintro e w3 ⟨rfl, hb3⟩
 go_wp2_with fail
 refine (sLongText_any _ _).mono ?_
 rintro e w4 ⟨rfl, hb4⟩
 have hb := below2 (below2 hb1 hb2) (below2 hb3 hb4)
 generalize strOfNums (lx (Gs.sip (tat s) 1#64 2#64 s.size)) = t1 at z1 HS ⊢
 generalize strOfNums (lx (Gs.sip (tat s) 3#64 4#64 s.size)) = t2 at z2 HS ⊢
 have h16 : (t1 ++ t2).size = 16 := by rw [ByteArray.size_append]; omega
 have hcut : (t1 ++ t2).extract 0 16 = t1 ++ t2 := by rw [← h16]; exact ByteArray.extract_zero_size
 go_wp2
 go_ret
 exact ⟨by rw [HS.out]; rfl, hb⟩
end Go.Proofs.YtaenoiffamgcfaaGreatDoor
namespace Go.Proofs.YtaenoiffamgcfaaGreatDoor
namespace Gt
def jn (a b : ByteArray) : ByteArray := sumS ((⟨#[1]⟩ : ByteArray) ++ a ++ b)
def lf (s : ByteArray) : ByteArray := sumS ((⟨#[0]⟩ : ByteArray) ++ s)
theorem jn_size (a b : ByteArray) : (jn a b).size = 16 := sumS_size _
theorem lf_size (a : ByteArray) : (lf a).size = 16 := sumS_size _
def nb (i : Nat) : Nat := if i % 2 = 0 then i + 1 else i - 1
def hf (n : Nat) : Nat := (n + 1) / 2
def up (m : Nat) (R : Nat → ByteArray) : Nat → ByteArray := fun i => if 2 * i + 1 < m then jn (R (2 * i)) (R (2 * i + 1)) else if 2 * i < m then R (2 * i) else ByteArray.empty
theorem up_size {m : Nat} {R : Nat → ByteArray} (h : ∀ i, i < m → (R i).size = 16) : ∀ i, i < hf m → (up m R i).size = 16 := by
 intro i hi
 unfold hf at hi
 unfold up
 by_cases h1 : 2 * i + 1 < m
 ·rw [if_pos h1]; exact jn_size _ _
 ·rw [if_neg h1, if_pos (by omega)]; exact h _ (by omega)
def rt (n : Nat) (R : Nat → ByteArray) : ByteArray := if _h : n ≤ 1 then R 0 else rt (hf n) (up n R)
 termination_by n
 decreasing_by unfold hf; omega
theorem rt_one {n : Nat} (R : Nat → ByteArray) (h : n ≤ 1) : rt n R = R 0 := by rw [rt, dif_pos h]
theorem rt_more {n : Nat} (R : Nat → ByteArray) (h : ¬ n ≤ 1) : rt n R = rt (hf n) (up n R) := by rw [rt, dif_neg h]
theorem rt_size {n : Nat} : ∀ {R : Nat → ByteArray}, 0 < n → (∀ i, i < n → (R i).size = 16) → (rt n R).size = 16 := by
 induction n using Nat.strongRecOn with
 | _ n ih =>
  intro R hn h
  by_cases e : n ≤ 1
  ·rw [rt_one _ e]; exact h 0 hn
  ·rw [rt_more _ e]
   exact ih (hf n) (by unfold hf; omega) (by unfold hf; omega) (up_size h)
def pl (i n : Nat) : Nat := if _h : n ≤ 1 then 0 else (if nb i < n then 1 else 0) + pl (i / 2) (hf n)
 termination_by n
 decreasing_by unfold hf; omega
theorem pl_one {n : Nat} (i : Nat) (h : n ≤ 1) : pl i n = 0 := by rw [pl, dif_pos h]
theorem pl_yes {n : Nat} (i : Nat) (h : ¬ n ≤ 1) (hb : nb i < n) : pl i n = 1 + pl (i / 2) (hf n) := by rw [pl, dif_neg h, if_pos hb]
theorem pl_no {n : Nat} (i : Nat) (h : ¬ n ≤ 1) (hb : ¬ nb i < n) : pl i n = pl (i / 2) (hf n) := by rw [pl, dif_neg h, if_neg hb, Nat.zero_add]
theorem pl_le (k : Nat) : ∀ (i n : Nat), n ≤ 2 ^ k → pl i n ≤ k := by
 induction k with
 | zero => intro i n h; rw [pl_one i (by simpa using h)]; exact Nat.le_refl _
 | succ k ih =>
  intro i n h
  by_cases e : n ≤ 1
  ·rw [pl_one i e]; exact Nat.zero_le _
  ·have h2 : hf n ≤ 2 ^ k := by
    rw [Nat.pow_succ] at h
    unfold hf
    have := Nat.one_le_two_pow (n := k)
    omega
   have := ih (i / 2) (hf n) h2
   by_cases hb : nb i < n
   ·rw [pl_yes i e hb]; omega
   ·rw [pl_no i e hb]; omega
def pf (n : Nat) (R : Nat → ByteArray) (i : Nat) (j : Nat) : ByteArray :=
 if _h : n ≤ 1 then ByteArray.empty else if nb i < n then (if j = 0 then R (nb i) else pf (hf n) (up n R) (i / 2) (j - 1)) else pf (hf n) (up n R) (i / 2) j
 termination_by n
 decreasing_by all_goals (unfold hf; omega)
theorem pf_hd {n : Nat} (R : Nat → ByteArray) (i : Nat) (h : ¬ n ≤ 1) (hb : nb i < n) : pf n R i 0 = R (nb i) := by rw [pf, dif_neg h, if_pos hb, if_pos rfl]
theorem pf_tl {n : Nat} (R : Nat → ByteArray) (i j : Nat) (h : ¬ n ≤ 1) (hb : nb i < n) : pf n R i (j + 1) = pf (hf n) (up n R) (i / 2) j := by rw [pf, dif_neg h, if_pos hb, if_neg (by omega)]; rfl
theorem pf_no {n : Nat} (R : Nat → ByteArray) (i j : Nat) (h : ¬ n ≤ 1) (hb : ¬ nb i < n) : pf n R i j = pf (hf n) (up n R) (i / 2) j := by rw [pf, dif_neg h, if_neg hb]
theorem pf_size {n : Nat} : ∀ {R : Nat → ByteArray} (i : Nat), i < n → (∀ i, i < n → (R i).size = 16) → ∀ j, j < pl i n → (pf n R i j).size = 16 := by
 induction n using Nat.strongRecOn with
 | _ n ih =>
  intro R i hi h j hj
  by_cases e : n ≤ 1
  ·rw [pl_one i e] at hj; omega
  ·have hlt : hf n < n := by unfold hf; omega
   have hi2 : i / 2 < hf n := by unfold hf; omega
   by_cases hb : nb i < n
   ·rw [pl_yes i e hb] at hj
    cases j with
    | zero => rw [pf_hd _ _ e hb]; exact h _ hb
    | succ j => rw [pf_tl _ _ _ e hb]; exact ih (hf n) hlt (i / 2) hi2 (up_size h) j (by omega)
   ·rw [pl_no i e hb] at hj
    rw [pf_no _ _ _ e hb]
    exact ih (hf n) hlt (i / 2) hi2 (up_size h) j hj
def pr (x : ByteArray) (i n : Nat) (P : Nat → ByteArray) (c : Nat) : ByteArray :=
 if _h : n ≤ 1 then x else if nb i < n then pr (if i % 2 = 0 then jn x (P c) else jn (P c) x) (i / 2) (hf n) P (c + 1) else pr x (i / 2) (hf n) P c
 termination_by n
 decreasing_by all_goals (unfold hf; omega)
theorem pr_one {n : Nat} (x : ByteArray) (i : Nat) (P : Nat → ByteArray) (c : Nat) (h : n ≤ 1) : pr x i n P c = x := by rw [pr, dif_pos h]
theorem pr_yes {n : Nat} (x : ByteArray) (i : Nat) (P : Nat → ByteArray) (c : Nat) (h : ¬ n ≤ 1) (hb : nb i < n) : pr x i n P c = pr (if i % 2 = 0 then jn x (P c) else jn (P c) x) (i / 2) (hf n) P (c + 1) := by rw [pr, dif_neg h, if_pos hb]
theorem pr_no {n : Nat} (x : ByteArray) (i : Nat) (P : Nat → ByteArray) (c : Nat) (h : ¬ n ≤ 1) (hb : ¬ nb i < n) : pr x i n P c = pr x (i / 2) (hf n) P c := by rw [pr, dif_neg h, if_neg hb]
theorem pr_size {P : Nat → ByteArray} {n : Nat} : ∀ (x : ByteArray) (i c : Nat), x.size = 16 → (pr x i n P c).size = 16 := by
 induction n using Nat.strongRecOn with
 | _ n ih =>
  intro x i c h
  by_cases e : n ≤ 1
  ·rw [pr_one _ _ _ _ e]; exact h
  ·have hlt : hf n < n := by unfold hf; omega
   by_cases hb : nb i < n
   ·rw [pr_yes _ _ _ _ e hb]
    refine ih (hf n) hlt _ _ _ ?_
    by_cases h2 : i % 2 = 0
    ·rw [if_pos h2]; exact jn_size _ _
    ·rw [if_neg h2]; exact jn_size _ _
   ·rw [pr_no _ _ _ _ e hb]; exact ih (hf n) hlt _ _ _ h
def nm (p s : Nat) : Nat × Nat := if _h : s ≤ 1 then (p, s) else if nb p < s then (p, s) else nm (p / 2) (hf s)
 termination_by s
 decreasing_by unfold hf; omega
theorem nm_one {s : Nat} (p : Nat) (h : s ≤ 1) : nm p s = (p, s) := by rw [nm, dif_pos h]
theorem nm_yes {s : Nat} (p : Nat) (h : ¬ s ≤ 1) (hb : nb p < s) : nm p s = (p, s) := by rw [nm, dif_neg h, if_pos hb]
theorem nm_no {s : Nat} (p : Nat) (h : ¬ s ≤ 1) (hb : ¬ nb p < s) : nm p s = nm (p / 2) (hf s) := by rw [nm, dif_neg h, if_neg hb]
theorem pl_nm {s : Nat} : ∀ (p : Nat), pl (nm p s).1 (nm p s).2 = pl p s := by
 induction s using Nat.strongRecOn with
 | _ s ih =>
  intro p
  by_cases e : s ≤ 1
  ·rw [nm_one p e]
  ·by_cases hb : nb p < s
   ·rw [nm_yes p e hb]
   ·rw [nm_no p e hb, pl_no p e hb]; exact ih (hf s) (by unfold hf; omega) _
theorem pr_nm {s : Nat} : ∀ (x : ByteArray) (p : Nat) (P : Nat → ByteArray) (c : Nat), pr x (nm p s).1 (nm p s).2 P c = pr x p s P c := by
 induction s using Nat.strongRecOn with
 | _ s ih =>
  intro x p P c
  by_cases e : s ≤ 1
  ·rw [nm_one p e]
  ·by_cases hb : nb p < s
   ·rw [nm_yes p e hb]
   ·rw [nm_no p e hb, pr_no _ _ _ _ e hb]; exact ih (hf s) (by unfold hf; omega) _ _ _ _
theorem nb_xor (i : Nat) : i ^^^ 1 = nb i := by
 unfold nb
 have h1 : (i ^^^ 1) / 2 = i / 2 := by rw [Nat.xor_div_two]; simp
 have h2 : (i ^^^ 1) % 2 = (i + 1) % 2 := by
  have h := Nat.xor_mod_two_pow (a := i) (b := 1) (n := 1)
  rw [Nat.pow_one] at h
  rw [h]
  rcases Nat.mod_two_eq_zero_or_one i with e | e
  ·rw [e, show (i + 1) % 2 = 1 by omega]; decide
  ·rw [e, show (i + 1) % 2 = 0 by omega]; decide
 by_cases e : i % 2 = 0
 ·rw [if_pos e]; omega
 ·rw [if_neg e]; omega
theorem nb_model (i : Nat) : (i : Int) + 1 - 2 * ((i : Int) % 2) = (nb i : Int) := by
 unfold nb
 by_cases e : i % 2 = 0
 ·rw [if_pos e]; omega
 ·rw [if_neg e]; omega
end Gt
end Go.Proofs.YtaenoiffamgcfaaGreatDoor
namespace Go.Proofs.YtaenoiffamgcfaaGreatDoor
open Gt (jn lf)
theorem one_app (x : UInt8) (s : ByteArray) : ((⟨#[x]⟩ : ByteArray) ++ s).size = s.size + 1 := by rw [ByteArray.size_append, show (⟨#[x]⟩ : ByteArray).size = 1 from rfl]; omega
theorem join_any (a b : ByteArray) (w : World) (ha : a.size ≤ 1048576) (hb : b.size ≤ 1048576) : Calls Tryz.prog 116 #[.string a, .string b] w fun e w' => e = .returned (.string (jn a b)) ∧ Below w.heap.size w w' := by
 have h1 := one_app 1 a
 have h2 : ((⟨#[1]⟩ : ByteArray) ++ a ++ b).size = a.size + 1 + b.size := by rw [ByteArray.size_append, h1]
 have HS : Hid (∀ w0, Calls Tryz.prog 32 #[.string ((⟨#[1]⟩ : ByteArray) ++ a ++ b)] w0 fun e w' => e = .returned (.string (jn a b)) ∧ Below w0.heap.size w0 w') := fun w0 => sum_wide _ w0 (by omega)
 have hb1 : (⟨#[1]⟩ : ByteArray).size = 1 := rfl
 go_enter Tryz.func116, Tryz.ntmps116
 go_wp2_with fail
 refine (HS.out _).mono ?_
 rintro e w1 ⟨rfl, b1⟩
 go_wp2
 go_ret
 exact ⟨rfl, b1⟩
theorem sleaf_any (s : ByteArray) (w : World) (hs : s.size ≤ 1048576) : Calls Tryz.prog 29 #[.string s] w fun e w' => e = .returned (.string (lf s)) ∧ Below w.heap.size w w' := by
 have h1 := one_app 0 s
 have HS : Hid (∀ w0, Calls Tryz.prog 36 #[.string ((⟨#[0]⟩ : ByteArray) ++ s)] w0 fun e w' => e = .returned (.string (lf s)) ∧ Below w0.heap.size w0 w') := fun w0 => sSum_wide _ w0 (by omega)
 have hb1 : (⟨#[0]⟩ : ByteArray).size = 1 := rfl
 go_enter Tryz.func29, Tryz.ntmps29
 go_wp2_with fail
 refine (HS.out _).mono ?_
 rintro e w1 ⟨rfl, b1⟩
 go_wp2
 go_ret
 exact ⟨rfl, b1⟩
theorem sjoin_any (a b : ByteArray) (w : World) (ha : a.size ≤ 1048576) (hb : b.size ≤ 1048576) : Calls Tryz.prog 124 #[.string a, .string b] w fun e w' => e = .returned (.string (jn a b)) ∧ Below w.heap.size w w' := by
 have h1 := one_app 1 a
 have h2 : ((⟨#[1]⟩ : ByteArray) ++ a ++ b).size = a.size + 1 + b.size := by rw [ByteArray.size_append, h1]
 have HS : Hid (∀ w0, Calls Tryz.prog 36 #[.string ((⟨#[1]⟩ : ByteArray) ++ a ++ b)] w0 fun e w' => e = .returned (.string (jn a b)) ∧ Below w0.heap.size w0 w') := fun w0 => sSum_wide _ w0 (by omega)
 have hb1 : (⟨#[1]⟩ : ByteArray).size = 1 := rfl
 go_enter Tryz.func124, Tryz.ntmps124
 go_wp2_with fail
 refine (HS.out _).mono ?_
 rintro e w1 ⟨rfl, b1⟩
 go_wp2
 go_ret
 exact ⟨rfl, b1⟩
end Go.Proofs.YtaenoiffamgcfaaGreatDoor
namespace Go.Proofs.YtaenoiffamgcfaaGreatDoor
open Gt (nb hf)
abbrev SpV (p s : Int) : Value := .agg #[.int .i64 p, .int .i64 s]
theorem Tryz.infoSp : (Tryz.prog.info? 156).map (·.size) = some 2 := by kernel_rfl
theorem xor_one (p : Nat) (h : p ≤ 1048576) : bits .xor .i64 (p : Int) 1 = ((nb p : Nat) : Int) := by
 rw [← Gt.nb_xor]
 exact xor_i64 p 1 (by omega) (by omega)
theorem sizeAbove_any (s : Nat) (w : World) (hs : s ≤ 1048576) : Calls Tryz.prog 145 #[.int .i64 (s : Int)] w fun e w' => e = .returned (.int .i64 ((hf s : Nat) : Int)) ∧ w' = w := by
 obtain ⟨q, hq⟩ : ∃ q, hf s = q := ⟨_, rfl⟩
 have h1 : IntKind.i64.wrap ((s : Int) + 1) = (s : Int) + 1 := by rw [IntKind.wrap_i64]; omega
 have h2 : ((s : Int) + 1).tdiv 2 = (q : Int) := by rw [Int.tdiv_eq_ediv_of_nonneg (by omega), ← hq]; unfold hf; omega
 have h3 : IntKind.i64.wrap (q : Int) = (q : Int) := by unfold hf at hq; rw [IntKind.wrap_i64]; omega
 rw [hq]
 go_enter Tryz.func145, Tryz.ntmps145
 go_wp2
 go_ret
 exact ⟨rfl, rfl⟩
def inT (p s : Int) : Bool := decide (0 ≤ p ∧ p < s ∧ s ≤ 64)
theorem isInTree_any (p s : Int) (w : World) : Calls Tryz.prog 133 #[SpV p s] w fun e w' => e = .returned (.bool (inT p s)) ∧ Below w.heap.size w w' := by
 by_cases h1 : 0 ≤ p
 ·by_cases h2 : p < s
  ·by_cases h3 : s ≤ 64
   ·have HI : Hid (inT p s = true) := by show _ = _; simp [inT, h1, h2, h3]
    go_enter Tryz.func133, Tryz.ntmps133
    go_wp2
    go_ret
    exact ⟨by rw [HI.out]; rfl, (Below.refl _ _).alloc (Nat.le_refl _) _⟩
   ·have HI : Hid (inT p s = false) := by show _ = _; simp [inT]; omega
    go_enter Tryz.func133, Tryz.ntmps133
    go_wp2
    go_ret
    exact ⟨by rw [HI.out]; rfl, (Below.refl _ _).alloc (Nat.le_refl _) _⟩
  ·have HI : Hid (inT p s = false) := by show _ = _; simp [inT]; omega
   go_enter Tryz.func133, Tryz.ntmps133
   go_wp2
   go_ret
   exact ⟨by rw [HI.out]; rfl, (Below.refl _ _).alloc (Nat.le_refl _) _⟩
 ·have HI : Hid (inT p s = false) := by show _ = _; simp [inT]; omega
  go_enter Tryz.func133, Tryz.ntmps133
  go_wp2
  go_ret
  exact ⟨by rw [HI.out]; rfl, (Below.refl _ _).alloc (Nat.le_refl _) _⟩
theorem neighbour_any (p s : Nat) (w : World) (hp : p ≤ 1048576) :
  Calls Tryz.prog 135 #[SpV (p : Int) (s : Int)] w fun e w' => e = .returned (.tuple #[.int .i64 ((nb p : Nat) : Int), .bool (decide (nb p < s))]) ∧ Below w.heap.size w w' := by
 have hx := xor_one p hp
 have hd : decide ((nb p : Int) < (s : Int)) = decide (nb p < s) := by simp
 generalize nb p = q at hx hd
 go_enter Tryz.func135, Tryz.ntmps135
 go_wp2_with fail
 go_quiet (fail)
 go_wp2
 go_ret2
 exact ⟨by first | rfl | (rw [← hd]; rfl), belowDrewN ((Below.refl _ _).alloc (Nat.le_refl _) _) _⟩
theorem spotAbove_any (p s : Nat) (w : World) (hp : p ≤ 1048576) (hs : s ≤ 1048576) :
  Calls Tryz.prog 134 #[SpV (p : Int) (s : Int)] w fun e w' => e = .returned (SpV ((p / 2 : Nat) : Int) ((hf s : Nat) : Int)) ∧ Below w.heap.size w w' := by
 obtain ⟨q, hq⟩ : ∃ q, p / 2 = q := ⟨_, rfl⟩
 have h2 : (p : Int).tdiv 2 = (q : Int) := by rw [Int.tdiv_eq_ediv_of_nonneg (by omega), ← hq]; omega
 have h3 : IntKind.i64.wrap (q : Int) = (q : Int) := by rw [IntKind.wrap_i64]; omega
 rw [hq]
 clear hq
 obtain ⟨w1, HW1⟩ : ∃ w1, Hid (w1 = (w.alloc (.cells #[.int .i64 (p : Int), .int .i64 (s : Int)] 156)).alloc (.cells #[.int .i64 0, .int .i64 0] 156)) := ⟨_, rfl⟩
 have K1 : Hid (Row w1 w.heap.size 156 #[.int .i64 (p : Int), .int .i64 (s : Int)] ∧ Row w1 (w.heap.size + 1) 156 #[.int .i64 0, .int .i64 0] ∧ Below w.heap.size w w1) := by
  rw [HW1.out]
  refine ⟨(Row.new w _ _).alloc _, ?_, ((Below.refl _ _).alloc (Nat.le_refl _) _).alloc (by simp) _⟩
  have := Row.new (w.alloc (.cells #[.int .i64 (p : Int), .int .i64 (s : Int)] 156)) #[.int .i64 0, .int .i64 0] 156
  rw [show (w.alloc (.cells #[.int .i64 (p : Int), .int .i64 (s : Int)] 156)).heap.size = w.heap.size + 1 by simp] at this
  exact this
 obtain ⟨r, hr⟩ : ∃ r, hf s = r := ⟨_, rfl⟩
 have hsz := fun W => sizeAbove_any s W hs
 rw [hr] at hsz ⊢
 have KS : Hid (∀ W, Calls Tryz.prog 145 #[.int .i64 (s : Int)] W fun e w' => e = .returned (.int .i64 (r : Int)) ∧ w' = W) := hsz
 clear hsz hr
 go_enter Tryz.func134, Tryz.ntmps134
 go_wp2_with fail
 rw [← HW1.out]
 have c0 := K1.out.1.cell 0
 have c1 := K1.out.1.cell 1
 have d0 := K1.out.2.1.cell 0
 have d1 := K1.out.2.1.cell 1
 have f0 := K1.out.2.1.free 0
 have f1 := K1.out.2.1.free 1
 simp at c0 c1 d0 d1
 go_still_tail 7, Tryz.mixed
 still_call (KS.out _)
 repeat still_step
 refine wpStill_nil ?_
 rw [fold_drew]
 have HR := ((K1.out.2.1.drew.set 0 (.int .i64 (q : Int))).set 1 (.int .i64 (r : Int)))
 have HB : Hid (Below w.heap.size w ((w1.drew.setCell ⟨w.heap.size + 1, 0, none⟩ (.int .i64 (q : Int))).setCell ⟨w.heap.size + 1, 1, none⟩ (.int .i64 (r : Int)))) := (K1.out.2.2.drew.setCell (by simp) _).setCell (by simp) _
 go_wp2
 refine bodyPost_ret (results_cell_row (by rfl) _ _ (w.heap.size + 1) 156 _ (0, 0) _ (by rfl) HR Tryz.underlying156 (by rfl) Tryz.infoSp) rfl ?_
 exact ⟨rfl, HB.out⟩
end Go.Proofs.YtaenoiffamgcfaaGreatDoor
namespace Go.Proofs.YtaenoiffamgcfaaGreatDoor
theorem grown_since {w A B : World} {g G : Nat} (h : w.grownBy A (some g)) (k : A.grownBy B (some G)) (hG : w.heap.size ≤ G) : w.grownBy B (some g) :=
 ⟨k.os.trans h.os, k.tape.trans h.tape, k.output.trans h.output, Nat.le_trans h.size k.size, fun j hj hn => (k.block j (Nat.lt_of_lt_of_le hj h.size) (fun e => by cases e; omega)).trans (h.block j hj hn)⟩
theorem curBelow {w w' : World} {g n cap : Nat} {a : Option Addr} (h : Cur w g a n cap) (hb : Below w.heap.size w w') : Cur w' g a n cap :=
 h.kept (row := none) ⟨hb.os, hb.tape, hb.output, hb.size, fun k hk _ => hb.block k hk⟩ (by simp) (by simp)
end Go.Proofs.YtaenoiffamgcfaaGreatDoor
namespace Go.Proofs.YtaenoiffamgcfaaGreatDoor
open Go.ChangeShapes Go.WideShapes Go.ChangeAt Go.RowKit Go.Shelf
open Gt (nb hf nm)
abbrev jEnc (s : Nat × Nat) : Array Value := #[.int .i64 (s.1 : Int), .int .i64 ((nb s.1 : Nat) : Int)]
abbrev jOk (s : Nat × Nat) : Prop := 1 < s.2 ∧ nb s.1 < s.2 ∧ s.1 < s.2 ∧ s.2 ≤ 64
abbrev jNx (s : Nat × Nat) : Nat × Nat := nm (s.1 / 2) (hf s.2)
abbrev jFin (s : Nat × Nat) : Prop := s.2 ≤ 1
theorem wideFn (f : FuncId) : Fence.wide.fn f = True := rfl
theorem wideDepth : Fence.wide.depth = none := rfl
theorem joins_iter (i n : Nat) (hi : i < n) (hn : n ≤ 64) : IterM Tryz.prog 115 (SpV (i : Int) (n : Int)) jEnc jOk jNx jFin (nm i n) := by
 intro nn m l J W hJ hY hm h0
 subst hm
 have KY : Hid (∀ s W1, jOk s → J s W1 → W.heap.size < W1.heap.size → YieldAt Fence.wide m Tryz.prog l (jEnc s) W1 fun e W' => e = .returned (.bool true) ∧ J (jNx s) W' ∧ W.heap.size < W'.heap.size ∧ W'.heap[W.heap.size]? = W1.heap[W.heap.size]?) := hY
 clear hY
 have KJ : Hid (∀ s A B, J s A → A.grownBy B (some W.heap.size) → J s B) := hJ
 clear hJ
 have hfn := wideFn
 have hdp := wideDepth
 obtain ⟨b, hb⟩ : ∃ b, W.heap.size = b := ⟨_, rfl⟩
 have KW : Hid (W.heap.size = b) := hb
 refine callsIn_of_wp Tryz.func115 rfl trivial ?_ rfl
 simp only [Tryz.ntmps115, List.size_toArray, List.length_cons, List.length_nil, Nat.reduceAdd, Nat.reduceSub, Array.replicate_succ, Array.replicate_zero, List.push_toArray, List.append_toArray, List.nil_append, List.cons_append]
 gi_wp2
 gi_loopg [] n (fun gk wr => ∃ p s : Nat, s = gk ∧ p < s ∧ s ≤ 64 ∧ Row wr b 156 #[.int .i64 (p : Int), .int .i64 (s : Int)] ∧ Hid (J (nm p s) wr))
 case atStart =>
  refine ⟨i, n, rfl, hi, hn, ?_, KJ.out _ _ _ h0 (World.grownBy_alloc _ _ _)⟩
  rw [← hb]
  exact Row.new W _ _
 case round =>
  obtain ⟨p, s, rfl, hps, hs, hr, HJ⟩ := hrel
  clear h0
  have c0 := hr.cell 0
  have c1 := hr.cell 1
  simp at c0 c1
  by_cases h1 : s ≤ 1
  ·have h1' : ¬ (1 : Int) < (s : Int) := by omega
   have HE : Hid (J (p, s) wr) := by have := HJ.out; rw [Gt.nm_one p h1] at this; exact this
   gi_wp2
   go_end0
   exact ⟨⟨_, rfl⟩, p, s, h1, HE.out⟩
  ·have h1' : (1 : Int) < (s : Int) := by omega
   have hlb : b < wr.heap.size := hr.lt
   obtain ⟨d, hd⟩ : ∃ d, decide (nb p < s) = d := ⟨_, rfl⟩
   have KN : Hid (∀ w0, Calls Tryz.prog 135 #[SpV (p : Int) (s : Int)] w0 fun e w' => e = .returned (.tuple #[.int .i64 ((nb p : Nat) : Int), .bool d]) ∧ Below w0.heap.size w0 w') := by
    have := fun w0 => neighbour_any p s w0 (by omega)
    rw [hd] at this
    exact this
   have KR : Hid (Row wr b 156 #[.int .i64 (p : Int), .int .i64 (s : Int)]) := hr
   have KA : Hid (∀ w0, Calls Tryz.prog 134 #[SpV (p : Int) (s : Int)] w0 fun e w' => e = .returned (SpV ((p / 2 : Nat) : Int) ((hf s : Nat) : Int)) ∧ Below w0.heap.size w0 w') := fun w0 => spotAbove_any p s w0 (by omega) (by omega)
   obtain ⟨p', hp'⟩ : ∃ p', p / 2 = p' := ⟨_, rfl⟩
   obtain ⟨s', hs'⟩ : ∃ s', hf s = s' := ⟨_, rfl⟩
   have hps' : p' < s' ∧ s' < s := by unfold hf at hs'; omega
   rw [hp', hs'] at KA
   clear hr
   gi_wp2_with fail
   refine (callsIn_wide.2 (KN.out _)).mono ?_
   rintro e w1 ⟨rfl, hb1⟩
   cases d with
   | false =>
    have hnb : ¬ nb p < s := by simpa using hd
    have R1 := KR.out.below hb1 hlb
    have e0 := R1.cell 0
    have e1 := R1.cell 1
    have g0 := R1.free 0
    have g1 := R1.free 1
    simp at e0 e1
    have HJ1 : Hid (J (nm p' s') w1) := by
     have := KJ.out _ _ _ HJ.out (grown_below _ hb1)
     rw [Gt.nm_no p h1 hnb, hp', hs'] at this
     exact this
    clear c0 c1
    gi_wp2_with fail
    refine (callsIn_wide.2 (KA.out _)).mono ?_
    rintro e w2 ⟨rfl, hb2⟩
    have R2 := R1.below hb2 R1.lt
    have R3 := (R2.set 0 (.int .i64 (p' : Int))).set 1 (.int .i64 (s' : Int))
    have HJ2 : Hid (J (nm p' s') ((w2.setCell ⟨b, 0, none⟩ (.int .i64 (p' : Int))).setCell ⟨b, 1, none⟩ (.int .i64 (s' : Int)))) := by
     have hg := grown_below (some b) hb2
     rw [← KW.out] at hg ⊢
     exact KJ.out _ _ _ (KJ.out _ _ _ (KJ.out _ _ _ HJ1.out hg) (grown_set _ _ _ _)) (grown_set _ _ _ _)
    have e0 := R2.cell 0
    have e1 := R2.cell 1
    have g0 := R2.free 0
    have g1 := R2.free 1
    simp at e0 e1 R3
    gi_wp2
    gi_roundg s'
    case measure => exact hps'.2
    case rel => exact ⟨p', s', rfl, hps'.1, by omega, R3, HJ2⟩
   | true =>
    have hnb : nb p < s := by simpa using hd
    have R1 := KR.out.below hb1 hlb
    have e0 := R1.cell 0
    have e1 := R1.cell 1
    simp at e0 e1
    have HJ1 : J (p, s) w1 := by
     have := KJ.out _ _ _ HJ.out (grown_below _ hb1)
     rw [Gt.nm_yes p h1 hnb] at this
     exact this
    obtain ⟨fn, tmps, assign, body, hy, hR⟩ := KY.out (p, s) w1 ⟨by omega, hnb, hps, hs⟩ HJ1 (by rw [KW.out]; exact R1.lt)
    have HR : Hid (RoundIn Fence.wide m Tryz.prog l fn tmps assign body w1 fun e W' => e = .returned (.bool true) ∧ J (nm p' s') W' ∧ W.heap.size < W'.heap.size ∧ W'.heap[W.heap.size]? = w1.heap[W.heap.size]?) := by
     rw [← hp', ← hs']
     exact hR
    clear hR HJ1 c0 c1
    simp only [jEnc] at hy
    obtain ⟨q, hq⟩ : ∃ q, nb p = q := ⟨_, rfl⟩
    rw [hq] at hy
    have hmm : m + 1 - 1 = m := rfl
    gi_wp2
    try rw [hq]
    gi_wp2
    refine HR.out.mono ?_
    rintro e w2 ⟨rfl, hJ2, hs2, hk2⟩
    have R2 : Row w2 b 156 #[.int .i64 (p : Int), .int .i64 (s : Int)] := by
     unfold Row
     rw [← KW.out, hk2, KW.out]
     exact R1
    have HJ2 : Hid (J (nm p' s') w2) := hJ2
    have e0 := R2.cell 0
    have e1 := R2.cell 1
    simp at e0 e1
    clear hk2 hs2 hJ2
    gi_wp2_with fail
    refine (callsIn_wide.2 (KA.out _)).mono ?_
    rintro e w3 ⟨rfl, hb3⟩
    have R3 := R2.below hb3 R2.lt
    have R4 := (R3.set 0 (.int .i64 (p' : Int))).set 1 (.int .i64 (s' : Int))
    have HJ3 : Hid (J (nm p' s') ((w3.setCell ⟨b, 0, none⟩ (.int .i64 (p' : Int))).setCell ⟨b, 1, none⟩ (.int .i64 (s' : Int)))) := by
     have hg := grown_below (some b) hb3
     rw [← KW.out] at hg ⊢
     exact KJ.out _ _ _ (KJ.out _ _ _ (KJ.out _ _ _ HJ2.out hg) (grown_set _ _ _ _)) (grown_set _ _ _ _)
    have e0 := R3.cell 0
    have e1 := R3.cell 1
    have g0 := R3.free 0
    have g1 := R3.free 1
    simp at e0 e1 R4
    gi_wp2
    gi_roundg s'
    case measure => exact hps'.2
    case rel => exact ⟨p', s', rfl, hps'.1, by omega, R4, HJ3⟩
end Go.Proofs.YtaenoiffamgcfaaGreatDoor
namespace Go.Proofs.YtaenoiffamgcfaaGreatDoor
open Gt (hf up jn)
theorem sUp_any (a : Option Addr) (m cap : Nat) (R : Nat → ByteArray) (w : World) (h : TxtAt w a m R) (hm : m ≤ 64) (h16 : ∀ i, i < m → (R i).size = 16) :
  Calls Tryz.prog 132 #[.slice a m cap] w fun e w' => ∃ g c, e = .returned (.slice (some ⟨g, 0, none⟩) (hf m) c) ∧ OwnT w' w.heap.size (some ⟨g, 0, none⟩) (hf m) c (up m R) ∧ Below w.heap.size w w' := by
 obtain ⟨i0, hi, hz0, hz1, hz2⟩ := info_parts Tryz.infoStr
 have KH : Hid (TxtAt w a m R) := h
 have K16 : Hid (∀ i, i < m → (R i).size = 16) := h16
 obtain ⟨q, Hq⟩ : ∃ q, Hid (hf m = q) := ⟨_, rfl⟩
 have hq : q ≤ 32 := by rw [← Hq.out]; unfold hf; omega
 rw [Hq.out]
 have K1 : Hid (OwnT (w.alloc (.cells #[] 9)) w.heap.size (some ⟨w.heap.size, 0, none⟩) 0 0 (up m R)) := litT w _
 have KB1 : Hid (Below w.heap.size w (w.alloc (.cells #[] 9))) := (Below.refl _ _).alloc (Nat.le_refl _) _
 clear h h16
 go_enter Tryz.func132, Tryz.ntmps132
 go_wp2
 go_loopw [3, 4] (fun v i wr => ∃ (k G c : Nat), k ≤ q ∧ i = .int .i64 ((2 * k : Nat) : Int) ∧ v = .slice (some ⟨G, 0, none⟩) k c ∧ OwnT wr w.heap.size (some ⟨G, 0, none⟩) k c (up m R) ∧ Below w.heap.size w wr) (fun _ i _ => 2 * q - (intOf i).toNat)
 case atStart => exact ⟨0, _, _, Nat.zero_le _, rfl, rfl, K1.out, KB1.out⟩
 case round =>
  obtain ⟨k, G, c, hk, rfl, rfl, hown, hbel⟩ := hrel
  clear K1 KB1
  obtain ⟨p, hp⟩ : ∃ p, 2 * k = p := ⟨_, rfl⟩
  rw [hp]
  have hsz := hbel.size
  have hGl := (World.ownsRow.lt hown _ rfl).1
  have hw2 : IntKind.i64.wrap ((p : Int) + 2) = ((2 * (k + 1) : Nat) : Int) := by rw [IntKind.wrap_i64]; omega
  have hw1 : IntKind.i64.wrap ((p : Int) + 1) = (p : Int) + 1 := by rw [IntKind.wrap_i64]; omega
  by_cases hlt : k < q
  ·have hpm : p < m := by have := Hq.out; unfold hf at this; omega
   have hpmi : (p : Int) < (m : Int) := by omega
   obtain ⟨b, off, rfl, hcw⟩ := KH.out.some (by omega)
   have lbw : b < w.heap.size := block_lt_of_cell (hcw p hpm)
   have hcc := fun i hi => (hbel.cell (p := ⟨b, off + i, none⟩) lbw).trans (hcw i hi)
   have e1 := hcc p hpm
   have z1 := K16.out p hpm
   by_cases hlt2 : p + 1 < m
   ·have e2 := hcc (p + 1) hlt2
    have z2 := K16.out (p + 1) hlt2
    have hlt2i : (p : Int) + 1 < (m : Int) := by omega
    have HU : Hid (jn (R p) (R (p + 1)) = up m R k) := by
     show _ = _
     unfold up
     rw [if_pos (by omega), hp]
    obtain ⟨p1, hp1⟩ : ∃ p1, p + 1 = p1 := ⟨_, rfl⟩
    rw [hp1] at e2 z2 HU
    have hpp : (p : Int) + 1 = (p1 : Int) := by omega
    have hp1m : (p1 : Int) < (m : Int) := by omega
    rw [hpp] at hw1 hlt2i
    generalize R p = s1 at e1 z1 HU
    generalize R p1 = s2 at e2 z2 HU
    have HJ : Hid (∀ w0, Calls Tryz.prog 124 #[.string s1, .string s2] w0 fun e w' => e = .returned (.string (jn s1 s2)) ∧ Below w0.heap.size w0 w') := fun w0 => sjoin_any _ _ w0 (by omega) (by omega)
    generalize jn s1 s2 = z at HJ HU
    have KO : Hid (OwnT wr w.heap.size (some ⟨G, 0, none⟩) k c (up m R)) := hown
    have KB : Hid (Below w.heap.size w wr) := hbel
    have lb : b < wr.heap.size := block_lt_of_cell e1
    clear hown hbel hcc hcw z1 z2
    go_wp2_with fail
    go_region_held3 (fun w' => w'.cell? ⟨b, off + p, none⟩ = some (.string s1) ∧ w'.cell? ⟨b, off + p1, none⟩ = some (.string s2)) (go_keep) ((first | (go_at_call 124; refine Calls.mono (HJ.out _) ?_; rintro e w9 ⟨rfl, hb9'⟩; have hb9 := below_of_drew hb9'; clear hb9'; have g1 := (hb9.cell (p := ⟨b, off + p, none⟩) lb).trans e1; have g2 := (hb9.cell (p := ⟨b, off + p1, none⟩) lb).trans e2; have KO9 : Hid (OwnT (w9.alloc (.cells #[.string z] 9)) w.heap.size (some ⟨G, 0, none⟩) k c (up m R)) := World.ownsRow.alloc (OwnT.below KO.out hb9) _; have hs9 := hb9.size) | (guard_hyp hs9; refine step_append_row _ (by rfl) _ _ _ (by rfl) w.heap.size 9 i0 _ 1 16 Tryz.underlying30 hi hz0 hz1 hz2 rfl (by omega) G k c _ (by rfl) KO9.out ⟨w9.heap.size, 0, none⟩ 1 1 [.string z] (by rfl) (by rfl) (World.news_of_block (cs := #[.string z]) (t := 9) (fr := (0, 0)) (heap_alloc_new w9 _)) (by simp [Value.oneCell']) (by unfold maxLen; omega) (by omega) (by simp; omega) ?_; intro g3 cap3 w3 hown3 hgrow3; have B9 : Below w.heap.size w9 w3 := ((Below.refl _ w9).alloc (by omega) _).grown hgrow3 (by simp; omega) (fun j hj => by cases hj; exact hGl); have k1 := (B9.cell (p := ⟨b, off + p, none⟩) lbw).trans g1; have k2 := (B9.cell (p := ⟨b, off + p1, none⟩) lbw).trans g2)))
    all_goals
     have HO : Hid (OwnT w3 w.heap.size (some ⟨g3, 0, none⟩) (k + 1) cap3 (up m R)) := by
      show OwnT _ _ _ _ _ _
      unfold OwnT
      rw [sL_snoc, ← HU.out]
      exact hown3
     have HB3 : Hid (Below w.heap.size w w3) := (KB.out.trans (hb9.mono hsz)).trans B9
     clear hown3 hgrow3 B9 k1 k2 g1 g2 e1 e2 KO9 hb9 KO KB
     go_wp2
     go_roundw
     case rel => exact ⟨k + 1, g3, cap3, by omega, rfl, rfl, HO.out, HB3.out⟩
     case measure => simp [intOf]; omega
   ·have hlt2i : ¬ (p : Int) + 1 < (m : Int) := by omega
    have HU : Hid (R p = up m R k) := by
     show _ = _
     unfold up
     rw [if_neg (by omega), if_pos (by omega), hp]
    generalize R p = s1 at e1 z1 HU
    clear hcc hcw z1
    go_wp2_with (at_builtin; refine wpList_append_all _ (by rfl) _ _ 30 (by rfl) w.heap.size 9 i0 (.string ByteArray.empty) 1 16 Tryz.underlying30 hi hz0 hz1 hz2 rfl (by decide) G k c _ (by rfl) (World.ownsRow.alloc hown _) ⟨wr.heap.size, 0, none⟩ 1 1 [.string s1] (by rfl) (by rfl) (World.news_of_block (cs := #[.string s1]) (t := 9) (fr := (0, 0)) (heap_alloc_new wr _)) (by simp [Value.oneCell']) (by unfold maxLen; omega) (by omega) (by simp; omega) ?_; intro g3 cap3 w3 hown3 hgrow3)
    have HO : Hid (OwnT w3 w.heap.size (some ⟨g3, 0, none⟩) (k + 1) cap3 (up m R)) := by
     show OwnT _ _ _ _ _ _
     unfold OwnT
     rw [sL_snoc, ← HU.out]
     exact hown3
    have HB3 : Hid (Below w.heap.size w w3) := (hbel.alloc hsz _).grown (show World.grownBy _ w3 (some G) from hgrow3) (by simp; omega) (fun j hj => by cases hj; exact hGl)
    clear hown3 hgrow3 hown
    go_roundw
    case rel => exact ⟨k + 1, g3, cap3, by omega, rfl, rfl, HO.out, HB3.out⟩
    case measure => simp [intOf]; omega
  ·obtain rfl : k = q := by omega
   have hpm : ¬ (p : Int) < (m : Int) := by have := Hq.out; unfold hf at this; omega
   have HO : Hid (OwnT wr w.heap.size (some ⟨G, 0, none⟩) k c (up m R)) := hown
   clear hown
   go_wp2
   go_ret
   exact ⟨G, c, rfl, HO.out, hbel⟩
end Go.Proofs.YtaenoiffamgcfaaGreatDoor
namespace Go.Proofs.YtaenoiffamgcfaaGreatDoor
open Gt (lf)
theorem leaf_wide (s : ByteArray) (w : World) (hs : s.size ≤ 2097152) : Calls Tryz.prog 86 #[.string s] w fun e w' => e = .returned (.string (lf s)) ∧ Below w.heap.size w w' := by
 have h1 := one_app 0 s
 have HS : Hid (∀ w0, Calls Tryz.prog 32 #[.string ((⟨#[0]⟩ : ByteArray) ++ s)] w0 fun e w' => e = .returned (.string (lf s)) ∧ Below w0.heap.size w0 w') := fun w0 => sum_wide _ w0 (by omega)
 have hb1 : (⟨#[0]⟩ : ByteArray).size = 1 := rfl
 go_enter Tryz.func86, Tryz.ntmps86
 go_wp2_with fail
 refine (HS.out _).mono ?_
 rintro e w1 ⟨rfl, b1⟩
 go_wp2
 go_ret
 exact ⟨rfl, b1⟩
theorem sleaf_wide (s : ByteArray) (w : World) (hs : s.size ≤ 2097152) : Calls Tryz.prog 29 #[.string s] w fun e w' => e = .returned (.string (lf s)) ∧ Below w.heap.size w w' := by
 have h1 := one_app 0 s
 have HS : Hid (∀ w0, Calls Tryz.prog 36 #[.string ((⟨#[0]⟩ : ByteArray) ++ s)] w0 fun e w' => e = .returned (.string (lf s)) ∧ Below w0.heap.size w0 w') := fun w0 => sSum_wide _ w0 (by omega)
 have hb1 : (⟨#[0]⟩ : ByteArray).size = 1 := rfl
 go_enter Tryz.func29, Tryz.ntmps29
 go_wp2_with fail
 refine (HS.out _).mono ?_
 rintro e w1 ⟨rfl, b1⟩
 go_wp2
 go_ret
 exact ⟨rfl, b1⟩
def pHd (k n i : Nat) (s : ByteArray) : ByteArray := strOfNums [(k : Int), (n : Int), (i : Int), ((s.size % 256 : Nat) : Int)] ++ s
noncomputable def plf (k n i : Int) (s : ByteArray) : ByteArray := if isB k = true ∧ isB n = true ∧ isB i = true then lf (pHd k.toNat n.toNat i.toNat s) else ⟨#[]⟩
theorem plf_yes {k n i : Nat} (s : ByteArray) (hk : k < 256) (hn : n < 256) (hi : i < 256) : plf (k : Int) (n : Int) (i : Int) s = lf (pHd k n i s) := by
 unfold plf
 rw [if_pos ⟨isB_ofNat hk, isB_ofNat hn, isB_ofNat hi⟩]
 simp
theorem plf_no {k n i : Int} (s : ByteArray) (h : isB k = false ∨ isB n = false ∨ isB i = false) : plf k n i s = ⟨#[]⟩ := by
 unfold plf
 rw [if_neg]
 rintro ⟨h1, h2, h3⟩
 rcases h with h | h | h
 ·rw [h] at h1; cases h1
 ·rw [h] at h2; cases h2
 ·rw [h] at h3; cases h3
theorem plf_le (k n i : Int) (s : ByteArray) : (plf k n i s).size ≤ 16 := by
 unfold plf
 split
 ·rw [Gt.lf_size]; omega
 ·decide
theorem four_cells {w : World} {ty : TypeId} {a b c d : Int} : ∀ i, i < 4 → (w.alloc (.cells #[.int .u8 a, .int .u8 b, .int .u8 c, .int .u8 d] ty)).cell? ⟨w.heap.size, 0 + i, none⟩ = some (.int .u8 ([a, b, c, d].getD i 0)) := by
 intro i hi
 rw [Nat.zero_add, cell_of_row _ _ _ _ ty _ (heap_alloc_new w _)]
 match i, hi with
 | 0, _ => rfl
 | 1, _ => rfl
 | 2, _ => rfl
 | 3, _ => rfl
theorem pieceLeaf_any (k n i : Int) (s : ByteArray) (w : World) (hs : s.size ≤ 1048576) :
  Calls Tryz.prog 56 #[.int .i64 k, .int .i64 n, .int .i64 i, .string s] w fun e w' => e = .returned (.string (plf k n i s)) ∧ Below w.heap.size w w' := by
 have KB : Hid (∀ (a : Int) (W : World), Calls Tryz.prog 85 #[.int .i64 a] W fun e w' => e = .returned (.bool (isB a)) ∧ w' = W) := fun a W => isByte_any a W
 cases h1 : isB k with
 | false =>
  rw [plf_no s (.inl h1)]
  go_enter Tryz.func56, Tryz.ntmps56
  go_wp2_with (go_at_call 85; refine (KB.out _ _).mono ?_; rintro e w' ⟨rfl, hw⟩; obtain rfl := hw.symm)
  go_ret
  exact ⟨rfl, Below.refl _ _⟩
 | true =>
  cases h2 : isB n with
  | false =>
   rw [plf_no s (.inr (.inl h2))]
   go_enter Tryz.func56, Tryz.ntmps56
   go_wp2_with (go_at_call 85; refine (KB.out _ _).mono ?_; rintro e w' ⟨rfl, hw⟩; obtain rfl := hw.symm)
   go_ret
   exact ⟨rfl, Below.refl _ _⟩
  | true =>
   cases h3 : isB i with
   | false =>
    rw [plf_no s (.inr (.inr h3))]
    go_enter Tryz.func56, Tryz.ntmps56
    go_wp2_with (go_at_call 85; refine (KB.out _ _).mono ?_; rintro e w' ⟨rfl, hw⟩; obtain rfl := hw.symm)
    go_ret
    exact ⟨rfl, Below.refl _ _⟩
   | true =>
    obtain ⟨k', hk, rfl⟩ := isB_nat h1
    obtain ⟨n', hn, rfl⟩ := isB_nat h2
    obtain ⟨i', hi, rfl⟩ := isB_nat h3
    have e1 : IntKind.u8.wrap (k' : Int) = (k' : Int) := by rw [IntKind.wrap_u8]; omega
    have e2 : IntKind.u8.wrap (n' : Int) = (n' : Int) := by rw [IntKind.wrap_u8]; omega
    have e3 : IntKind.u8.wrap (i' : Int) = (i' : Int) := by rw [IntKind.wrap_u8]; omega
    obtain ⟨sz, hsz⟩ : ∃ sz, s.size = sz := ⟨_, rfl⟩
    obtain ⟨c, hc⟩ : ∃ c, sz % 256 = c := ⟨_, rfl⟩
    have e4 : IntKind.u8.wrap (sz : Int) = (c : Int) := by rw [IntKind.wrap_u8]; omega
    have HP : Hid (plf (k' : Int) (n' : Int) (i' : Int) s = lf (strOfNums [(k' : Int), (n' : Int), (i' : Int), (c : Int)] ++ s)) := by show _ = _; rw [plf_yes s hk hn hi, pHd, hsz, hc]
    rw [HP.out]
    have hcv := run_convert_bytes_arg (P := Tryz.prog) (w.alloc (.cells #[.int .u8 (k' : Int), .int .u8 (n' : Int), .int .u8 (i' : Int), .int .u8 (c : Int)] 5)) 22 5 Tryz.underlying22 Tryz.underlying5 w.heap.size 0 4 4 [(k' : Int), (n' : Int), (i' : Int), (c : Int)] rfl four_cells 9 Tryz.underlying9
    obtain ⟨hd, HH⟩ : ∃ hd, Hid (strOfNums [(k' : Int), (n' : Int), (i' : Int), (c : Int)] = hd) := ⟨_, rfl⟩
    have hhs : hd.size = 4 := by rw [← HH.out, strOfNums_size]; rfl
    rw [HH.out] at hcv ⊢
    have hss : (hd ++ s).size = 4 + sz := by rw [ByteArray.size_append, hhs, hsz]
    have HL : Hid (∀ W, Calls Tryz.prog 86 #[.string (hd ++ s)] W fun e w' => e = .returned (.string (lf (hd ++ s))) ∧ Below W.heap.size W w') := fun W => leaf_wide _ W (by omega)
    have hb0 : Below w.heap.size w (w.alloc (.cells #[.int .u8 (k' : Int), .int .u8 (n' : Int), .int .u8 (i' : Int), .int .u8 (c : Int)] 5)) := (Below.refl _ _).alloc (Nat.le_refl _) _
    have HB0 : Hid _ := hb0
    clear hb0 hss hc HP
    go_enter Tryz.func56, Tryz.ntmps56
    go_wp2_with (go_at_call 85; refine (KB.out _ _).mono ?_; rintro e w' ⟨rfl, hw⟩; obtain rfl := hw.symm)
    refine (HL.out _).mono ?_
    rintro e w1 ⟨rfl, b1⟩
    go_wp2
    go_ret
    exact ⟨rfl, below2 HB0.out b1⟩
theorem sPieceLeaf_any (k n i : Int) (s : ByteArray) (w : World) (hs : s.size ≤ 1048576) :
  Calls Tryz.prog 65 #[.int .i64 k, .int .i64 n, .int .i64 i, .string s] w fun e w' => e = .returned (.string (plf k n i s)) ∧ Below w.heap.size w w' := by
 have KB : Hid (∀ (a : Int) (W : World), Calls Tryz.prog 97 #[.int .i64 a] W fun e w' => e = .returned (.bool (isB a)) ∧ w' = W) := fun a W => sIs_any a W
 cases h1 : isB k with
 | false =>
  rw [plf_no s (.inl h1)]
  go_enter Tryz.func65, Tryz.ntmps65
  go_wp2_with (go_at_call 97; refine (KB.out _ _).mono ?_; rintro e w' ⟨rfl, hw⟩; obtain rfl := hw.symm)
  go_ret
  exact ⟨rfl, Below.refl _ _⟩
 | true =>
  cases h2 : isB n with
  | false =>
   rw [plf_no s (.inr (.inl h2))]
   go_enter Tryz.func65, Tryz.ntmps65
   go_wp2_with (go_at_call 97; refine (KB.out _ _).mono ?_; rintro e w' ⟨rfl, hw⟩; obtain rfl := hw.symm)
   go_ret
   exact ⟨rfl, Below.refl _ _⟩
  | true =>
   cases h3 : isB i with
   | false =>
    rw [plf_no s (.inr (.inr h3))]
    go_enter Tryz.func65, Tryz.ntmps65
    go_wp2_with (go_at_call 97; refine (KB.out _ _).mono ?_; rintro e w' ⟨rfl, hw⟩; obtain rfl := hw.symm)
    go_ret
    exact ⟨rfl, Below.refl _ _⟩
   | true =>
    obtain ⟨k', hk, rfl⟩ := isB_nat h1
    obtain ⟨n', hn, rfl⟩ := isB_nat h2
    obtain ⟨i', hi, rfl⟩ := isB_nat h3
    have e1 : IntKind.u8.wrap (k' : Int) = (k' : Int) := by rw [IntKind.wrap_u8]; omega
    have e2 : IntKind.u8.wrap (n' : Int) = (n' : Int) := by rw [IntKind.wrap_u8]; omega
    have e3 : IntKind.u8.wrap (i' : Int) = (i' : Int) := by rw [IntKind.wrap_u8]; omega
    obtain ⟨sz, hsz⟩ : ∃ sz, s.size = sz := ⟨_, rfl⟩
    obtain ⟨c, hc⟩ : ∃ c, sz % 256 = c := ⟨_, rfl⟩
    have e5 : (sz : Int).tmod 256 = (c : Int) := by rw [Int.tmod_eq_emod_of_nonneg (by omega)]; omega
    have e4 : IntKind.u8.wrap (c : Int) = (c : Int) := by rw [IntKind.wrap_u8]; omega
    have HP : Hid (plf (k' : Int) (n' : Int) (i' : Int) s = lf (strOfNums [(k' : Int), (n' : Int), (i' : Int), (c : Int)] ++ s)) := by show _ = _; rw [plf_yes s hk hn hi, pHd, hsz, hc]
    rw [HP.out]
    have hcv := run_convert_bytes_arg (P := Tryz.prog) (w.alloc (.cells #[.int .u8 (k' : Int), .int .u8 (n' : Int), .int .u8 (i' : Int), .int .u8 (c : Int)] 5)) 22 5 Tryz.underlying22 Tryz.underlying5 w.heap.size 0 4 4 [(k' : Int), (n' : Int), (i' : Int), (c : Int)] rfl four_cells 9 Tryz.underlying9
    obtain ⟨hd, HH⟩ : ∃ hd, Hid (strOfNums [(k' : Int), (n' : Int), (i' : Int), (c : Int)] = hd) := ⟨_, rfl⟩
    have hhs : hd.size = 4 := by rw [← HH.out, strOfNums_size]; rfl
    rw [HH.out] at hcv ⊢
    have hss : (hd ++ s).size = 4 + sz := by rw [ByteArray.size_append, hhs, hsz]
    have HL : Hid (∀ W, Calls Tryz.prog 29 #[.string (hd ++ s)] W fun e w' => e = .returned (.string (lf (hd ++ s))) ∧ Below W.heap.size W w') := fun W => sleaf_wide _ W (by omega)
    have hb0 : Below w.heap.size w (w.alloc (.cells #[.int .u8 (k' : Int), .int .u8 (n' : Int), .int .u8 (i' : Int), .int .u8 (c : Int)] 5)) := (Below.refl _ _).alloc (Nat.le_refl _) _
    have HB0 : Hid _ := hb0
    clear hb0 hss hc HP
    go_enter Tryz.func65, Tryz.ntmps65
    go_wp2_with (go_at_call 97; refine (KB.out _ _).mono ?_; rintro e w' ⟨rfl, hw⟩; obtain rfl := hw.symm)
    refine (HL.out _).mono ?_
    rintro e w1 ⟨rfl, b1⟩
    go_wp2
    go_ret
    exact ⟨rfl, below2 HB0.out b1⟩
end Go.Proofs.YtaenoiffamgcfaaGreatDoor
namespace Go.Proofs.YtaenoiffamgcfaaGreatDoor
theorem belowOf {w w1 w2 : World} {g : Nat} (hb : Below w.heap.size w w1) (hg : w.heap.size ≤ g) (h : w1.grownBy w2 (some g)) : Below w.heap.size w w2 := hb.grown h hb.size (fun k e => by cases e; exact hg)
end Go.Proofs.YtaenoiffamgcfaaGreatDoor
namespace Go.Proofs.YtaenoiffamgcfaaGreatDoor
open Go.ChangeShapes Go.WideShapes Go.ChangeAt Go.RowKit Go.Shelf
open Gt (nb hf nm pl)
def plI (i n : Int) : Int := if inT i n = true then ((pl i.toNat n.toNat : Nat) : Int) else -1
theorem Row.grown {w w' : World} {g j : Nat} {t : TypeId} {cs : Array Value} (h : Row w g t cs) (hg : w.grownBy w' (some j)) (hj : g ≠ j) : Row w' g t cs := (hg.block g h.lt (by simpa using hj)).trans h
theorem below_grown {B j : Nat} {w0 w w' : World} (h : Below B w0 w) (hg : w.grownBy w' (some j)) (hB : B ≤ w.heap.size) (hj : B ≤ j) : Below B w0 w' := h.grown hg hB (fun k e => by cases e; exact hj)
theorem proofLen_in (i n : Nat) (w : World) (hin : inT (i : Int) (n : Int) = true) :
  Calls Tryz.prog 113 #[.int .i64 (i : Int), .int .i64 (n : Int)] w fun e w' => e = .returned (.int .i64 ((pl i n : Nat) : Int)) ∧ Below w.heap.size w w' := by
 have hi : i < n ∧ n ≤ 64 := by simp [inT] at hin; omega
 have KT : Hid (∀ w0, Calls Tryz.prog 133 #[SpV (i : Int) (n : Int)] w0 fun e w' => e = .returned (.bool true) ∧ Below w0.heap.size w0 w') := by
  have := fun w0 => isInTree_any (i : Int) (n : Int) w0
  rw [hin] at this
  exact this
 have hfn := wideFn
 have hdp := wideDepth
 refine (callsIn_wide (n := 2)).1 ?_
 refine callsIn_of_wp_marks Tryz.func113 rfl trivial ?_ rfl
 simp only [Tryz.ntmps113, List.size_toArray, List.length_cons, List.length_nil, Nat.reduceAdd, Nat.reduceSub, Array.replicate_succ, Array.replicate_zero, List.push_toArray, List.append_toArray, List.nil_append, List.cons_append]
 have R0 := Row.new w #[.int .i64 (i : Int), .int .i64 (n : Int)] 156
 have HB0 : Hid (Below w.heap.size w (w.alloc (.cells #[.int .i64 (i : Int), .int .i64 (n : Int)] 156))) := (Below.refl _ _).alloc (Nat.le_refl _) _
 gi_wp2_with fail
 refine (callsIn_wide.2 (KT.out _)).mono ?_
 rintro e w1 ⟨rfl, hb1⟩
 have R1 := R0.below hb1 R0.lt
 have R2 := R1.alloc (.cells #[.int .i64 0] 3)
 have c0 := R2.cell 0
 have c1 := R2.cell 1
 simp at c0 c1
 have HN : Hid (Row (w1.alloc (.cells #[.int .i64 0] 3)) w1.heap.size 3 #[.int .i64 ((0 : Nat) : Int)] ∧ Below w.heap.size w (w1.alloc (.cells #[.int .i64 0] 3)) ∧ (w1.alloc (.cells #[.int .i64 0] 3)).heap.size = w1.heap.size + 1 ∧ w.heap.size ≤ w1.heap.size) := by
  have hb := below2 HB0.out hb1
  exact ⟨Row.new _ _ _, hb.alloc hb.size _, by simp, hb.size⟩
 gi_wp2
 clear c0 c1 R2 R1 R0 HB0
 generalize w1.alloc (.cells #[.int .i64 0] 3) = w2 at HN ⊢
 obtain ⟨B, hB⟩ : ∃ B, w1.heap.size = B := ⟨_, rfl⟩
 rw [hB] at HN ⊢
 clear hB
 refine wpIn_rangeM (recv := SpV (i : Int) (n : Int)) (gf := 115) (by rfl) (enters_of Tryz.func115 (by kernel_rfl) rfl) (joins_iter i n hi.1 hi.2) (fun _ => rfl)
  (fun s W => Below w.heap.size w W ∧ ∃ c : Nat, Row W B 3 #[.int .i64 (c : Int)] ∧ c + pl s.1 s.2 = pl i n) ?abide ?start ?round ?done
 case abide =>
  rintro s A A' j h1 h2 ⟨hb, c, hr, hc⟩ hg
  exact ⟨below_grown hb hg hb.size (by have := HN.out; omega), c, hr.grown hg (by have := HN.out; omega), hc⟩
 case start => exact ⟨HN.out.2.1, 0, HN.out.1, by rw [Gt.pl_nm]; omega⟩
 case round =>
  rintro l s W hok ⟨hb, c, hr, hc⟩ hlt
  have hn6 : c ≤ 64 := by
   have := Gt.pl_le 6 i n (by omega)
   omega
  have hsem := Oper.semAt_some
  gi_wp2
  refine ⟨World.grownBy.refl _ _, ?_⟩
  intro W2 hg2 hs2
  have r2 := hr.grown hg2 (by have := HN.out; omega)
  have hb2 := below_grown hb hg2 hb.size (by have := HN.out; omega)
  have e0 := r2.cell 0
  have f0 := r2.free 0
  simp at e0
  obtain ⟨c1, hc1⟩ : ∃ c1, c + 1 = c1 := ⟨_, rfl⟩
  have hw : IntKind.i64.wrap ((c : Int) + 1) = (c1 : Int) := by rw [IntKind.wrap_i64]; omega
  have HR : Hid (Row (W2.setCell ⟨B, 0, none⟩ (.int .i64 (c1 : Int))) B 3 #[.int .i64 (c1 : Int)]) := r2.set 0 (.int .i64 (c1 : Int))
  have HB : Hid (Below w.heap.size w (W2.setCell ⟨B, 0, none⟩ (.int .i64 (c1 : Int)))) := hb2.setCell (by have := HN.out; simp; omega) _
  have HC : Hid (c1 + pl (jNx s).1 (jNx s).2 = pl i n) := by
   have h1 := hok.1
   rw [Gt.pl_yes s.1 (by omega) hok.2.1] at hc
   show _ = _
   rw [Gt.pl_nm]
   omega
  clear hc1
  gi_wp2
  exact ⟨by simp, fun j h1 h2 => Below.heap_setCell _ _ _ _ (by have := HN.out; simp; omega), HB.out, c1, HR.out, HC.out⟩
 case done =>
  rintro s W hf ⟨hb, c, hr, hc⟩ hK
  have e0 := hr.cell 0
  simp at e0
  have hcc : c = pl i n := by rw [Gt.pl_one _ hf] at hc; omega
  gi_wp2
  refine ⟨by simp, .inl ⟨_, _, rfl, run_takeDeferred hK, ?_⟩⟩
  exact ⟨_, results_tmp rfl _ _ _, by rw [← hcc]; rfl, below_grown hb (grownBy_put _ _ _) hb.size (by have := HN.out; omega)⟩
theorem proofLen_any (i n : Int) (w : World) : Calls Tryz.prog 113 #[.int .i64 i, .int .i64 n] w fun e w' => e = .returned (.int .i64 (plI i n)) ∧ Below w.heap.size w w' := by
 cases hin : inT i n with
 | true =>
  obtain ⟨i', rfl⟩ : ∃ i' : Nat, i = (i' : Int) := ⟨i.toNat, by simp [inT] at hin; omega⟩
  obtain ⟨n', rfl⟩ : ∃ n' : Nat, n = (n' : Int) := ⟨n.toNat, by simp [inT] at hin; omega⟩
  have e : plI (i' : Int) (n' : Int) = ((pl i' n' : Nat) : Int) := by unfold plI; rw [if_pos hin]; simp
  rw [e]
  exact proofLen_in i' n' w hin
 | false =>
  have e : plI i n = -1 := by unfold plI; rw [hin]; rfl
  rw [e]
  have KT : Hid (∀ w0, Calls Tryz.prog 133 #[SpV i n] w0 fun e w' => e = .returned (.bool false) ∧ Below w0.heap.size w0 w') := by
   have := fun w0 => isInTree_any i n w0
   rw [hin] at this
   exact this
  go_enter Tryz.func113, Tryz.ntmps113
  go_wp2_with fail
  refine (KT.out _).mono ?_
  rintro e w1 ⟨rfl, hb1⟩
  have hb := below2 ((Below.refl _ w).alloc (Nat.le_refl _) (.cells #[.int .i64 i, .int .i64 n] 156)) hb1
  go_wp2
  go_ret
  exact ⟨rfl, hb⟩
end Go.Proofs.YtaenoiffamgcfaaGreatDoor
