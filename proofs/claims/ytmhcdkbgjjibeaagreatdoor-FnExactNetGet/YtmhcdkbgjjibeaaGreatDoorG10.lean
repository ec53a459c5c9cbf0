import Derived.Test.YtmhcdkbgjjibeaaGreatDoorG8
import Derived.Test.YtmhcdkbgjjibeaaGreatDoorG9
import Derived.Test.YtmhcdkbgjjibeaaGreatDoorG7
import Derived.Test.YtmhcdkbgjjibeaaGreatDoorG5
import Derived.Deep.RegionHeld3
import Derived.Deep.AppendLies
import Derived.Test.YtmhcdkbgjjibeaaGreatDoorG1
import Derived.Sort.LoopGhostIn
import Derived.Lib.Strings
import Derived.Lib.Walk
import Derived.Lib.BufferWrite
import Derived.Lib.UnsafeStr
import Derived.Lib.Hide
import Derived.Laws.MakeOwn
import Derived.Test.YtmhcdkbgjjibeaaGreatDoorG4
import Derived.Laws.CopyRow
set_option maxHeartbeats 8000000
set_option maxRecDepth 2000
open Go.ChangeShapes Go.WideShapes Go.ChangeAt Go.RowKit
namespace Go.Proofs.YtmhcdkbgjjibeaaGreatDoor
open Gs (U)
def sumS (s : ByteArray) : ByteArray := strOfNums (lx (Gs.sip (tat s) 1#64 2#64 s.size)) ++ strOfNums (lx (Gs.sip (tat s) 3#64 4#64 s.size))
theorem lxs_size (x : BitVec 64) : (strOfNums (lx x)).size = 8 := by rw [strOfNums_size, lx_len]
theorem sumS_size (s : ByteArray) : (sumS s).size = 16 := by
 unfold sumS
 rw [ByteArray.size_append, lxs_size, lxs_size]
theorem sum_wide (s : ByteArray) (w : World) (hs : s.size ≤ 4194304) :
  Calls Tryz.prog 172 #[.string s] w fun e w' => e = .returned (.string (sumS s)) ∧ Below w.heap.size w w' := by
 have z1 := lxs_size (Gs.sip (tat s) 1#64 2#64 s.size)
 have z2 := lxs_size (Gs.sip (tat s) 3#64 4#64 s.size)
 have HS : Hid (sumS s = strOfNums (lx (Gs.sip (tat s) 1#64 2#64 s.size)) ++ strOfNums (lx (Gs.sip (tat s) 3#64 4#64 s.size))) := rfl
 go_enter Tryz.func172, Tryz.ntmps172
 go_wp2_with fail
 refine (sip_wide 1#64 2#64 s _ hs).mono ?_
 rintro e w1 ⟨rfl, hb1⟩
 go_wp2_with fail
 refine (longText_any _ _).mono ?_
 rintro e w2 ⟨rfl, hb2⟩
 go_wp2_with fail
 refine (sip_wide 3#64 4#64 s _ hs).mono ?_
 rintro e w3 ⟨rfl, hb3⟩
 go_wp2_with fail
 refine (longText_any _ _).mono ?_
 rintro e w4 ⟨rfl, hb4⟩
 have hb := below2 (below2 hb1 hb2) (below2 hb3 hb4)
 generalize strOfNums (lx (Gs.sip (tat s) 1#64 2#64 s.size)) = t1 at z1 HS ⊢
 generalize strOfNums (lx (Gs.sip (tat s) 3#64 4#64 s.size)) = t2 at z2 HS ⊢
 go_wp2
 go_ret
 exact ⟨by rw [HS.out]; rfl, hb⟩
theorem sSum_wide (s : ByteArray) (w : World) (hs : s.size ≤ 4194304) :
  Calls Tryz.prog 164 #[.string s] w fun e w' => e = .returned (.string (sumS s)) ∧ Below w.heap.size w w' := by
 have z1 := lxs_size (Gs.sip (tat s) 1#64 2#64 s.size)
 have z2 := lxs_size (Gs.sip (tat s) 3#64 4#64 s.size)
 have HS : Hid (sumS s = strOfNums (lx (Gs.sip (tat s) 1#64 2#64 s.size)) ++ strOfNums (lx (Gs.sip (tat s) 3#64 4#64 s.size))) := rfl
 go_enter Tryz.func164, Tryz.ntmps164
 go_wp2_with fail
 refine (sSip_wide 1#64 2#64 s _ hs).mono ?_
 rintro e w1 ⟨rfl, hb1⟩
 go_wp2_with fail
 refine (sLongText_any _ _).mono ?_
 rintro e w2 ⟨rfl, hb2⟩
 go_wp2_with fail
 refine (sSip_wide 3#64 4#64 s _ hs).mono ?_
 rintro e w3 ⟨rfl, hb3⟩
 go_wp2_with fail
 refine (sLongText_any _ _).mono ?_
 rintro e w4 ⟨rfl, hb4⟩
 have hb := below2 (below2 hb1 hb2) (below2 hb3 hb4)
 generalize strOfNums (lx (Gs.sip (tat s) 1#64 2#64 s.size)) = t1 at z1 HS ⊢
 generalize strOfNums (lx (Gs.sip (tat s) 3#64 4#64 s.size)) = t2 at z2 HS ⊢
 have h16 : (t1 ++ t2).size = 16 := by rw [ByteArray.size_append]; omega
 have hcut : (t1 ++ t2).extract 0 16 = t1 ++ t2 := by rw [← h16]; exact ByteArray.extract_zero_size
 go_wp2
 go_ret
 exact ⟨by rw [HS.out]; rfl, hb⟩
end Go.Proofs.YtmhcdkbgjjibeaaGreatDoor
namespace Go.Proofs.YtmhcdkbgjjibeaaGreatDoor
namespace Gt
def jn (a b : ByteArray) : ByteArray := sumS ((⟨#[1]⟩ : ByteArray) ++ a ++ b)
def lf (s : ByteArray) : ByteArray := sumS ((⟨#[0]⟩ : ByteArray) ++ s)
theorem jn_size (a b : ByteArray) : (jn a b).size = 16 := sumS_size _
theorem lf_size (a : ByteArray) : (lf a).size = 16 := sumS_size _
def nb (i : Nat) : Nat := if i % 2 = 0 then i + 1 else i - 1
def hf (n : Nat) : Nat := (n + 1) / 2
def up (m : Nat) (R : Nat → ByteArray) : Nat → ByteArray := fun i => if 2 * i + 1 < m then jn (R (2 * i)) (R (2 * i + 1)) else if 2 * i < m then R (2 * i) else ByteArray.empty
theorem up_congr {m : Nat} {R R' : Nat → ByteArray} (h : ∀ i, i < m → R i = R' i) : up m R = up m R' := by
 funext i
 unfold up
 by_cases h1 : 2 * i + 1 < m
 ·rw [if_pos h1, if_pos h1, h _ (by omega), h _ h1]
 ·rw [if_neg h1, if_neg h1]
  by_cases h2 : 2 * i < m
  ·rw [if_pos h2, if_pos h2, h _ h2]
  ·rw [if_neg h2, if_neg h2]
theorem up_size {m : Nat} {R : Nat → ByteArray} (h : ∀ i, i < m → (R i).size = 16) : ∀ i, i < hf m → (up m R i).size = 16 := by
 intro i hi
 unfold hf at hi
 unfold up
 by_cases h1 : 2 * i + 1 < m
 ·rw [if_pos h1]; exact jn_size _ _
 ·rw [if_neg h1, if_pos (by omega)]; exact h _ (by omega)
theorem up_pad (m : Nat) (R : Nat → ByteArray) : ∀ i, hf m ≤ i → up m R i = ByteArray.empty := by
 intro i hi
 unfold hf at hi
 unfold up
 rw [if_neg (by omega), if_neg (by omega)]
def rt (n : Nat) (R : Nat → ByteArray) : ByteArray := if _h : n ≤ 1 then R 0 else rt (hf n) (up n R)
 termination_by n
 decreasing_by unfold hf; omega
theorem rt_one {n : Nat} (R : Nat → ByteArray) (h : n ≤ 1) : rt n R = R 0 := by rw [rt, dif_pos h]
theorem rt_more {n : Nat} (R : Nat → ByteArray) (h : ¬ n ≤ 1) : rt n R = rt (hf n) (up n R) := by rw [rt, dif_neg h]
theorem rt_congr {n : Nat} {R R' : Nat → ByteArray} (hn : 0 < n) (h : ∀ i, i < n → R i = R' i) : rt n R = rt n R' := by
 by_cases e : n ≤ 1
 ·rw [rt_one _ e, rt_one _ e, h 0 hn]
 ·rw [rt_more _ e, rt_more _ e, up_congr h]
theorem rt_size {n : Nat} : ∀ {R : Nat → ByteArray}, 0 < n → (∀ i, i < n → (R i).size = 16) → (rt n R).size = 16 := by
 induction n using Nat.strongRecOn with
 | _ n ih =>
  intro R hn h
  by_cases e : n ≤ 1
  ·rw [rt_one _ e]; exact h 0 hn
  ·rw [rt_more _ e]
   exact ih (hf n) (by unfold hf; omega) (by unfold hf; omega) (up_size h)
def pl (i n : Nat) : Nat := if _h : n ≤ 1 then 0 else (if nb i < n then 1 else 0) + pl (i / 2) (hf n)
 termination_by n
 decreasing_by unfold hf; omega
theorem pl_one {n : Nat} (i : Nat) (h : n ≤ 1) : pl i n = 0 := by rw [pl, dif_pos h]
theorem pl_yes {n : Nat} (i : Nat) (h : ¬ n ≤ 1) (hb : nb i < n) : pl i n = 1 + pl (i / 2) (hf n) := by rw [pl, dif_neg h, if_pos hb]
theorem pl_no {n : Nat} (i : Nat) (h : ¬ n ≤ 1) (hb : ¬ nb i < n) : pl i n = pl (i / 2) (hf n) := by rw [pl, dif_neg h, if_neg hb, Nat.zero_add]
theorem pl_le (k : Nat) : ∀ (i n : Nat), n ≤ 2 ^ k → pl i n ≤ k := by
 induction k with
 | zero => intro i n h; rw [pl_one i (by simpa using h)]; exact Nat.le_refl _
 | succ k ih =>
  intro i n h
  by_cases e : n ≤ 1
  ·rw [pl_one i e]; exact Nat.zero_le _
  ·have h2 : hf n ≤ 2 ^ k := by
    rw [Nat.pow_succ] at h
    unfold hf
    have := Nat.one_le_two_pow (n := k)
    omega
   have := ih (i / 2) (hf n) h2
   by_cases hb : nb i < n
   ·rw [pl_yes i e hb]; omega
   ·rw [pl_no i e hb]; omega
def pf (n : Nat) (R : Nat → ByteArray) (i : Nat) (j : Nat) : ByteArray :=
 if _h : n ≤ 1 then ByteArray.empty else if nb i < n then (if j = 0 then R (nb i) else pf (hf n) (up n R) (i / 2) (j - 1)) else pf (hf n) (up n R) (i / 2) j
 termination_by n
 decreasing_by all_goals (unfold hf; omega)
theorem pf_hd {n : Nat} (R : Nat → ByteArray) (i : Nat) (h : ¬ n ≤ 1) (hb : nb i < n) : pf n R i 0 = R (nb i) := by rw [pf, dif_neg h, if_pos hb, if_pos rfl]
theorem pf_tl {n : Nat} (R : Nat → ByteArray) (i j : Nat) (h : ¬ n ≤ 1) (hb : nb i < n) : pf n R i (j + 1) = pf (hf n) (up n R) (i / 2) j := by rw [pf, dif_neg h, if_pos hb, if_neg (by omega)]; rfl
theorem pf_no {n : Nat} (R : Nat → ByteArray) (i j : Nat) (h : ¬ n ≤ 1) (hb : ¬ nb i < n) : pf n R i j = pf (hf n) (up n R) (i / 2) j := by rw [pf, dif_neg h, if_neg hb]
def pr (x : ByteArray) (i n : Nat) (P : Nat → ByteArray) (c : Nat) : ByteArray :=
 if _h : n ≤ 1 then x else if nb i < n then pr (if i % 2 = 0 then jn x (P c) else jn (P c) x) (i / 2) (hf n) P (c + 1) else pr x (i / 2) (hf n) P c
 termination_by n
 decreasing_by all_goals (unfold hf; omega)
theorem pr_one {n : Nat} (x : ByteArray) (i : Nat) (P : Nat → ByteArray) (c : Nat) (h : n ≤ 1) : pr x i n P c = x := by rw [pr, dif_pos h]
theorem pr_yes {n : Nat} (x : ByteArray) (i : Nat) (P : Nat → ByteArray) (c : Nat) (h : ¬ n ≤ 1) (hb : nb i < n) : pr x i n P c = pr (if i % 2 = 0 then jn x (P c) else jn (P c) x) (i / 2) (hf n) P (c + 1) := by rw [pr, dif_neg h, if_pos hb]
theorem pr_no {n : Nat} (x : ByteArray) (i : Nat) (P : Nat → ByteArray) (c : Nat) (h : ¬ n ≤ 1) (hb : ¬ nb i < n) : pr x i n P c = pr x (i / 2) (hf n) P c := by rw [pr, dif_neg h, if_neg hb]
theorem pr_size {P : Nat → ByteArray} {n : Nat} : ∀ (x : ByteArray) (i c : Nat), x.size = 16 → (pr x i n P c).size = 16 := by
 induction n using Nat.strongRecOn with
 | _ n ih =>
  intro x i c h
  by_cases e : n ≤ 1
  ·rw [pr_one _ _ _ _ e]; exact h
  ·have hlt : hf n < n := by unfold hf; omega
   by_cases hb : nb i < n
   ·rw [pr_yes _ _ _ _ e hb]
    refine ih (hf n) hlt _ _ _ ?_
    by_cases h2 : i % 2 = 0
    ·rw [if_pos h2]; exact jn_size _ _
    ·rw [if_neg h2]; exact jn_size _ _
   ·rw [pr_no _ _ _ _ e hb]; exact ih (hf n) hlt _ _ _ h
def nm (p s : Nat) : Nat × Nat := if _h : s ≤ 1 then (p, s) else if nb p < s then (p, s) else nm (p / 2) (hf s)
 termination_by s
 decreasing_by unfold hf; omega
theorem nm_one {s : Nat} (p : Nat) (h : s ≤ 1) : nm p s = (p, s) := by rw [nm, dif_pos h]
theorem nm_yes {s : Nat} (p : Nat) (h : ¬ s ≤ 1) (hb : nb p < s) : nm p s = (p, s) := by rw [nm, dif_neg h, if_pos hb]
theorem nm_no {s : Nat} (p : Nat) (h : ¬ s ≤ 1) (hb : ¬ nb p < s) : nm p s = nm (p / 2) (hf s) := by rw [nm, dif_neg h, if_neg hb]
theorem pl_nm {s : Nat} : ∀ (p : Nat), pl (nm p s).1 (nm p s).2 = pl p s := by
 induction s using Nat.strongRecOn with
 | _ s ih =>
  intro p
  by_cases e : s ≤ 1
  ·rw [nm_one p e]
  ·by_cases hb : nb p < s
   ·rw [nm_yes p e hb]
   ·rw [nm_no p e hb, pl_no p e hb]; exact ih (hf s) (by unfold hf; omega) _
theorem pr_nm {s : Nat} : ∀ (x : ByteArray) (p : Nat) (P : Nat → ByteArray) (c : Nat), pr x (nm p s).1 (nm p s).2 P c = pr x p s P c := by
 induction s using Nat.strongRecOn with
 | _ s ih =>
  intro x p P c
  by_cases e : s ≤ 1
  ·rw [nm_one p e]
  ·by_cases hb : nb p < s
   ·rw [nm_yes p e hb]
   ·rw [nm_no p e hb, pr_no _ _ _ _ e hb]; exact ih (hf s) (by unfold hf; omega) _ _ _ _
theorem nb_xor (i : Nat) : i ^^^ 1 = nb i := by
 unfold nb
 have h1 : (i ^^^ 1) / 2 = i / 2 := by rw [Nat.xor_div_two]; simp
 have h2 : (i ^^^ 1) % 2 = (i + 1) % 2 := by
  have h := Nat.xor_mod_two_pow (a := i) (b := 1) (n := 1)
  rw [Nat.pow_one] at h
  rw [h]
  rcases Nat.mod_two_eq_zero_or_one i with e | e
  ·rw [e, show (i + 1) % 2 = 1 by omega]; decide
  ·rw [e, show (i + 1) % 2 = 0 by omega]; decide
 by_cases e : i % 2 = 0
 ·rw [if_pos e]; omega
 ·rw [if_neg e]; omega
theorem nb_model (i : Nat) : (i : Int) + 1 - 2 * ((i : Int) % 2) = (nb i : Int) := by
 unfold nb
 by_cases e : i % 2 = 0
 ·rw [if_pos e]; omega
 ·rw [if_neg e]; omega
end Gt
end Go.Proofs.YtmhcdkbgjjibeaaGreatDoor
namespace Go.Proofs.YtmhcdkbgjjibeaaGreatDoor
open Gt (jn lf)
theorem one_app (x : UInt8) (s : ByteArray) : ((⟨#[x]⟩ : ByteArray) ++ s).size = s.size + 1 := by rw [ByteArray.size_append, show (⟨#[x]⟩ : ByteArray).size = 1 from rfl]; omega
theorem join_any (a b : ByteArray) (w : World) (ha : a.size ≤ 1048576) (hb : b.size ≤ 1048576) : Calls Tryz.prog 171 #[.string a, .string b] w fun e w' => e = .returned (.string (jn a b)) ∧ Below w.heap.size w w' := by
 have h1 := one_app 1 a
 have h2 : ((⟨#[1]⟩ : ByteArray) ++ a ++ b).size = a.size + 1 + b.size := by rw [ByteArray.size_append, h1]
 have HS : Hid (∀ w0, Calls Tryz.prog 172 #[.string ((⟨#[1]⟩ : ByteArray) ++ a ++ b)] w0 fun e w' => e = .returned (.string (jn a b)) ∧ Below w0.heap.size w0 w') := fun w0 => sum_wide _ w0 (by omega)
 have hb1 : (⟨#[1]⟩ : ByteArray).size = 1 := rfl
 go_enter Tryz.func171, Tryz.ntmps171
 go_wp2_with fail
 refine (HS.out _).mono ?_
 rintro e w1 ⟨rfl, b1⟩
 go_wp2
 go_ret
 exact ⟨rfl, b1⟩
theorem sjoin_any (a b : ByteArray) (w : World) (ha : a.size ≤ 1048576) (hb : b.size ≤ 1048576) : Calls Tryz.prog 163 #[.string a, .string b] w fun e w' => e = .returned (.string (jn a b)) ∧ Below w.heap.size w w' := by
 have h1 := one_app 1 a
 have h2 : ((⟨#[1]⟩ : ByteArray) ++ a ++ b).size = a.size + 1 + b.size := by rw [ByteArray.size_append, h1]
 have HS : Hid (∀ w0, Calls Tryz.prog 164 #[.string ((⟨#[1]⟩ : ByteArray) ++ a ++ b)] w0 fun e w' => e = .returned (.string (jn a b)) ∧ Below w0.heap.size w0 w') := fun w0 => sSum_wide _ w0 (by omega)
 have hb1 : (⟨#[1]⟩ : ByteArray).size = 1 := rfl
 go_enter Tryz.func163, Tryz.ntmps163
 go_wp2_with fail
 refine (HS.out _).mono ?_
 rintro e w1 ⟨rfl, b1⟩
 go_wp2
 go_ret
 exact ⟨rfl, b1⟩
end Go.Proofs.YtmhcdkbgjjibeaaGreatDoor
namespace Go.Proofs.YtmhcdkbgjjibeaaGreatDoor
open Gt (nb hf)
abbrev SpV (p s : Int) : Value := .agg #[.int .i64 p, .int .i64 s]
theorem Tryz.infoSp : (Tryz.prog.info? 235).map (·.size) = some 2 := by kernel_rfl
theorem xor_one (p : Nat) (h : p ≤ 1048576) : bits .xor .i64 (p : Int) 1 = ((nb p : Nat) : Int) := by
 rw [← Gt.nb_xor]
 exact xor_i64 p 1 (by omega) (by omega)
theorem sizeAbove_any (s : Nat) (w : World) (hs : s ≤ 1048576) : Calls Tryz.prog 190 #[.int .i64 (s : Int)] w fun e w' => e = .returned (.int .i64 ((hf s : Nat) : Int)) ∧ w' = w := by
 obtain ⟨q, hq⟩ : ∃ q, hf s = q := ⟨_, rfl⟩
 have h1 : IntKind.i64.wrap ((s : Int) + 1) = (s : Int) + 1 := by rw [IntKind.wrap_i64]; omega
 have h2 : ((s : Int) + 1).tdiv 2 = (q : Int) := by rw [Int.tdiv_eq_ediv_of_nonneg (by omega), ← hq]; unfold hf; omega
 have h3 : IntKind.i64.wrap (q : Int) = (q : Int) := by unfold hf at hq; rw [IntKind.wrap_i64]; omega
 rw [hq]
 go_enter Tryz.func190, Tryz.ntmps190
 go_wp2
 go_ret
 exact ⟨rfl, rfl⟩
def inT (p s : Int) : Bool := decide (0 ≤ p ∧ p < s ∧ s ≤ 64)
theorem isInTree_any (p s : Int) (w : World) : Calls Tryz.prog 184 #[SpV p s] w fun e w' => e = .returned (.bool (inT p s)) ∧ Below w.heap.size w w' := by
 by_cases h1 : 0 ≤ p
 ·by_cases h2 : p < s
  ·by_cases h3 : s ≤ 64
   ·have HI : Hid (inT p s = true) := by show _ = _; simp [inT, h1, h2, h3]
    go_enter Tryz.func184, Tryz.ntmps184
    go_wp2
    go_ret
    exact ⟨by rw [HI.out]; rfl, (Below.refl _ _).alloc (Nat.le_refl _) _⟩
   ·have HI : Hid (inT p s = false) := by show _ = _; simp [inT]; omega
    go_enter Tryz.func184, Tryz.ntmps184
    go_wp2
    go_ret
    exact ⟨by rw [HI.out]; rfl, (Below.refl _ _).alloc (Nat.le_refl _) _⟩
  ·have HI : Hid (inT p s = false) := by show _ = _; simp [inT]; omega
   go_enter Tryz.func184, Tryz.ntmps184
   go_wp2
   go_ret
   exact ⟨by rw [HI.out]; rfl, (Below.refl _ _).alloc (Nat.le_refl _) _⟩
 ·have HI : Hid (inT p s = false) := by show _ = _; simp [inT]; omega
  go_enter Tryz.func184, Tryz.ntmps184
  go_wp2
  go_ret
  exact ⟨by rw [HI.out]; rfl, (Below.refl _ _).alloc (Nat.le_refl _) _⟩
theorem neighbour_any (p s : Nat) (w : World) (hp : p ≤ 1048576) :
  Calls Tryz.prog 186 #[SpV (p : Int) (s : Int)] w fun e w' => e = .returned (.tuple #[.int .i64 ((nb p : Nat) : Int), .bool (decide (nb p < s))]) ∧ Below w.heap.size w w' := by
 have hx := xor_one p hp
 have hd : decide ((nb p : Int) < (s : Int)) = decide (nb p < s) := by simp
 generalize nb p = q at hx hd
 go_enter Tryz.func186, Tryz.ntmps186
 go_wp2_with fail
 go_quiet (fail)
 go_wp2
 go_ret2
 exact ⟨by first | rfl | (rw [← hd]; rfl), belowDrewN ((Below.refl _ _).alloc (Nat.le_refl _) _) _⟩
theorem spotAbove_any (p s : Nat) (w : World) (hp : p ≤ 1048576) (hs : s ≤ 1048576) :
  Calls Tryz.prog 185 #[SpV (p : Int) (s : Int)] w fun e w' => e = .returned (SpV ((p / 2 : Nat) : Int) ((hf s : Nat) : Int)) ∧ Below w.heap.size w w' := by
 obtain ⟨q, hq⟩ : ∃ q, p / 2 = q := ⟨_, rfl⟩
 have h2 : (p : Int).tdiv 2 = (q : Int) := by rw [Int.tdiv_eq_ediv_of_nonneg (by omega), ← hq]; omega
 have h3 : IntKind.i64.wrap (q : Int) = (q : Int) := by rw [IntKind.wrap_i64]; omega
 rw [hq]
 clear hq
 obtain ⟨w1, HW1⟩ : ∃ w1, Hid (w1 = (w.alloc (.cells #[.int .i64 (p : Int), .int .i64 (s : Int)] 235)).alloc (.cells #[.int .i64 0, .int .i64 0] 235)) := ⟨_, rfl⟩
 have K1 : Hid (Row w1 w.heap.size 235 #[.int .i64 (p : Int), .int .i64 (s : Int)] ∧ Row w1 (w.heap.size + 1) 235 #[.int .i64 0, .int .i64 0] ∧ Below w.heap.size w w1) := by
  rw [HW1.out]
  refine ⟨(Row.new w _ _).alloc _, ?_, ((Below.refl _ _).alloc (Nat.le_refl _) _).alloc (by simp) _⟩
  have := Row.new (w.alloc (.cells #[.int .i64 (p : Int), .int .i64 (s : Int)] 235)) #[.int .i64 0, .int .i64 0] 235
  rw [show (w.alloc (.cells #[.int .i64 (p : Int), .int .i64 (s : Int)] 235)).heap.size = w.heap.size + 1 by simp] at this
  exact this
 obtain ⟨r, hr⟩ : ∃ r, hf s = r := ⟨_, rfl⟩
 have hsz := fun W => sizeAbove_any s W hs
 rw [hr] at hsz ⊢
 have KS : Hid (∀ W, Calls Tryz.prog 190 #[.int .i64 (s : Int)] W fun e w' => e = .returned (.int .i64 (r : Int)) ∧ w' = W) := hsz
 clear hsz hr
 go_enter Tryz.func185, Tryz.ntmps185
 go_wp2_with fail
 rw [← HW1.out]
 have c0 := K1.out.1.cell 0
 have c1 := K1.out.1.cell 1
 have d0 := K1.out.2.1.cell 0
 have d1 := K1.out.2.1.cell 1
 have f0 := K1.out.2.1.free 0
 have f1 := K1.out.2.1.free 1
 simp at c0 c1 d0 d1
 go_still_tail 7, Tryz.mixed
 still_call (KS.out _)
 repeat still_step
 refine wpStill_nil ?_
 rw [fold_drew]
 have HR := ((K1.out.2.1.drew.set 0 (.int .i64 (q : Int))).set 1 (.int .i64 (r : Int)))
 have HB : Hid (Below w.heap.size w ((w1.drew.setCell ⟨w.heap.size + 1, 0, none⟩ (.int .i64 (q : Int))).setCell ⟨w.heap.size + 1, 1, none⟩ (.int .i64 (r : Int)))) := (K1.out.2.2.drew.setCell (by simp) _).setCell (by simp) _
 go_wp2
 refine bodyPost_ret (results_cell_row (by rfl) _ _ (w.heap.size + 1) 235 _ (0, 0) _ (by rfl) HR Tryz.underlying235 (by rfl) Tryz.infoSp) rfl ?_
 exact ⟨rfl, HB.out⟩
end Go.Proofs.YtmhcdkbgjjibeaaGreatDoor
namespace Go.Proofs.YtmhcdkbgjjibeaaGreatDoor
open Go.ChangeShapes Go.WideShapes Go.ChangeAt Go.RowKit Go.Shelf
open Gt (nb hf nm)
abbrev jEnc (s : Nat × Nat) : Array Value := #[.int .i64 (s.1 : Int), .int .i64 ((nb s.1 : Nat) : Int)]
abbrev jOk (s : Nat × Nat) : Prop := 1 < s.2 ∧ nb s.1 < s.2 ∧ s.1 < s.2 ∧ s.2 ≤ 64
abbrev jNx (s : Nat × Nat) : Nat × Nat := nm (s.1 / 2) (hf s.2)
abbrev jFin (s : Nat × Nat) : Prop := s.2 ≤ 1
theorem wideFn (f : FuncId) : Fence.wide.fn f = True := rfl
theorem wideDepth : Fence.wide.depth = none := rfl
theorem joins_iter (i n : Nat) (hi : i < n) (hn : n ≤ 64) : IterM Tryz.prog 170 (SpV (i : Int) (n : Int)) jEnc jOk jNx jFin (nm i n) := by
 intro nn m l J W hJ hY hm h0
 subst hm
 have KY : Hid (∀ s W1, jOk s → J s W1 → W.heap.size < W1.heap.size → YieldAt Fence.wide m Tryz.prog l (jEnc s) W1 fun e W' => e = .returned (.bool true) ∧ J (jNx s) W' ∧ W.heap.size < W'.heap.size ∧ W'.heap[W.heap.size]? = W1.heap[W.heap.size]?) := hY
 clear hY
 have KJ : Hid (∀ s A B, J s A → A.grownBy B (some W.heap.size) → J s B) := hJ
 clear hJ
 have hfn := wideFn
 have hdp := wideDepth
 obtain ⟨b, hb⟩ : ∃ b, W.heap.size = b := ⟨_, rfl⟩
 have KW : Hid (W.heap.size = b) := hb
 refine callsIn_of_wp Tryz.func170 rfl trivial ?_ rfl
 simp only [Tryz.ntmps170, List.size_toArray, List.length_cons, List.length_nil, Nat.reduceAdd, Nat.reduceSub, Array.replicate_succ, Array.replicate_zero, List.push_toArray, List.append_toArray, List.nil_append, List.cons_append]
 gi_wp2
 gi_loopg [] n (fun gk wr => ∃ p s : Nat, s = gk ∧ p < s ∧ s ≤ 64 ∧ Row wr b 235 #[.int .i64 (p : Int), .int .i64 (s : Int)] ∧ Hid (J (nm p s) wr))
 case atStart =>
  refine ⟨i, n, rfl, hi, hn, ?_, KJ.out _ _ _ h0 (World.grownBy_alloc _ _ _)⟩
  rw [← hb]
  exact Row.new W _ _
 case round =>
  obtain ⟨p, s, rfl, hps, hs, hr, HJ⟩ := hrel
  clear h0
  have c0 := hr.cell 0
  have c1 := hr.cell 1
  simp at c0 c1
  by_cases h1 : s ≤ 1
  ·have h1' : ¬ (1 : Int) < (s : Int) := by omega
   have HE : Hid (J (p, s) wr) := by have := HJ.out; rw [Gt.nm_one p h1] at this; exact this
   gi_wp2
   go_end0
   exact ⟨⟨_, rfl⟩, p, s, h1, HE.out⟩
  ·have h1' : (1 : Int) < (s : Int) := by omega
   have hlb : b < wr.heap.size := hr.lt
   obtain ⟨d, hd⟩ : ∃ d, decide (nb p < s) = d := ⟨_, rfl⟩
   have KN : Hid (∀ w0, Calls Tryz.prog 186 #[SpV (p : Int) (s : Int)] w0 fun e w' => e = .returned (.tuple #[.int .i64 ((nb p : Nat) : Int), .bool d]) ∧ Below w0.heap.size w0 w') := by
    have := fun w0 => neighbour_any p s w0 (by omega)
    rw [hd] at this
    exact this
   have KR : Hid (Row wr b 235 #[.int .i64 (p : Int), .int .i64 (s : Int)]) := hr
   have KA : Hid (∀ w0, Calls Tryz.prog 185 #[SpV (p : Int) (s : Int)] w0 fun e w' => e = .returned (SpV ((p / 2 : Nat) : Int) ((hf s : Nat) : Int)) ∧ Below w0.heap.size w0 w') := fun w0 => spotAbove_any p s w0 (by omega) (by omega)
   obtain ⟨p', hp'⟩ : ∃ p', p / 2 = p' := ⟨_, rfl⟩
   obtain ⟨s', hs'⟩ : ∃ s', hf s = s' := ⟨_, rfl⟩
   have hps' : p' < s' ∧ s' < s := by unfold hf at hs'; omega
   rw [hp', hs'] at KA
   clear hr
   gi_wp2_with fail
   refine (callsIn_wide.2 (KN.out _)).mono ?_
   rintro e w1 ⟨rfl, hb1⟩
   cases d with
   | false =>
    have hnb : ¬ nb p < s := by simpa using hd
    have R1 := KR.out.below hb1 hlb
    have e0 := R1.cell 0
    have e1 := R1.cell 1
    have g0 := R1.free 0
    have g1 := R1.free 1
    simp at e0 e1
    have HJ1 : Hid (J (nm p' s') w1) := by
     have := KJ.out _ _ _ HJ.out (grown_below _ hb1)
     rw [Gt.nm_no p h1 hnb, hp', hs'] at this
     exact this
    clear c0 c1
    gi_wp2_with fail
    refine (callsIn_wide.2 (KA.out _)).mono ?_
    rintro e w2 ⟨rfl, hb2⟩
    have R2 := R1.below hb2 R1.lt
    have R3 := (R2.set 0 (.int .i64 (p' : Int))).set 1 (.int .i64 (s' : Int))
    have HJ2 : Hid (J (nm p' s') ((w2.setCell ⟨b, 0, none⟩ (.int .i64 (p' : Int))).setCell ⟨b, 1, none⟩ (.int .i64 (s' : Int)))) := by
     have hg := grown_below (some b) hb2
     rw [← KW.out] at hg ⊢
     exact KJ.out _ _ _ (KJ.out _ _ _ (KJ.out _ _ _ HJ1.out hg) (grown_set _ _ _ _)) (grown_set _ _ _ _)
    have e0 := R2.cell 0
    have e1 := R2.cell 1
    have g0 := R2.free 0
    have g1 := R2.free 1
    simp at e0 e1 R3
    gi_wp2
    gi_roundg s'
    case measure => exact hps'.2
    case rel => exact ⟨p', s', rfl, hps'.1, by omega, R3, HJ2⟩
   | true =>
    have hnb : nb p < s := by simpa using hd
    have R1 := KR.out.below hb1 hlb
    have e0 := R1.cell 0
    have e1 := R1.cell 1
    simp at e0 e1
    have HJ1 : J (p, s) w1 := by
     have := KJ.out _ _ _ HJ.out (grown_below _ hb1)
     rw [Gt.nm_yes p h1 hnb] at this
     exact this
    obtain ⟨fn, tmps, assign, body, hy, hR⟩ := KY.out (p, s) w1 ⟨by omega, hnb, hps, hs⟩ HJ1 (by rw [KW.out]; exact R1.lt)
    have HR : Hid (RoundIn Fence.wide m Tryz.prog l fn tmps assign body w1 fun e W' => e = .returned (.bool true) ∧ J (nm p' s') W' ∧ W.heap.size < W'.heap.size ∧ W'.heap[W.heap.size]? = w1.heap[W.heap.size]?) := by
     rw [← hp', ← hs']
     exact hR
    clear hR HJ1 c0 c1
    simp only [jEnc] at hy
    obtain ⟨q, hq⟩ : ∃ q, nb p = q := ⟨_, rfl⟩
    rw [hq] at hy
    have hmm : m + 1 - 1 = m := rfl
    gi_wp2
    try rw [hq]
    gi_wp2
    refine HR.out.mono ?_
    rintro e w2 ⟨rfl, hJ2, hs2, hk2⟩
    have R2 : Row w2 b 235 #[.int .i64 (p : Int), .int .i64 (s : Int)] := by
     unfold Row
     rw [← KW.out, hk2, KW.out]
     exact R1
    have HJ2 : Hid (J (nm p' s') w2) := hJ2
    have e0 := R2.cell 0
    have e1 := R2.cell 1
    simp at e0 e1
    clear hk2 hs2 hJ2
    gi_wp2_with fail
    refine (callsIn_wide.2 (KA.out _)).mono ?_
    rintro e w3 ⟨rfl, hb3⟩
    have R3 := R2.below hb3 R2.lt
    have R4 := (R3.set 0 (.int .i64 (p' : Int))).set 1 (.int .i64 (s' : Int))
    have HJ3 : Hid (J (nm p' s') ((w3.setCell ⟨b, 0, none⟩ (.int .i64 (p' : Int))).setCell ⟨b, 1, none⟩ (.int .i64 (s' : Int)))) := by
     have hg := grown_below (some b) hb3
     rw [← KW.out] at hg ⊢
     exact KJ.out _ _ _ (KJ.out _ _ _ (KJ.out _ _ _ HJ2.out hg) (grown_set _ _ _ _)) (grown_set _ _ _ _)
    have e0 := R3.cell 0
    have e1 := R3.cell 1
    have g0 := R3.free 0
    have g1 := R3.free 1
    simp at e0 e1 R4
    gi_wp2
    gi_roundg s'
    case measure => exact hps'.2
    case rel => exact ⟨p', s', rfl, hps'.1, by omega, R4, HJ3⟩
end Go.Proofs.YtmhcdkbgjjibeaaGreatDoor
namespace Go.Proofs.YtmhcdkbgjjibeaaGreatDoor
open Gt (hf up jn)
theorem sUp_any (a : Option Addr) (m cap : Nat) (R : Nat → ByteArray) (w : World) (h : TxtAt w a m R) (hm : m ≤ 64) (h16 : ∀ i, i < m → (R i).size = 16) :
  Calls Tryz.prog 128 #[.slice a m cap] w fun e w' => ∃ g c, e = .returned (.slice (some ⟨g, 0, none⟩) (hf m) c) ∧ OwnT w' w.heap.size (some ⟨g, 0, none⟩) (hf m) c (up m R) ∧ Below w.heap.size w w' := by
 obtain ⟨i0, hi, hz0, hz1, hz2⟩ := info_parts Tryz.infoStr
 have KH : Hid (TxtAt w a m R) := h
 have K16 : Hid (∀ i, i < m → (R i).size = 16) := h16
 obtain ⟨q, Hq⟩ : ∃ q, Hid (hf m = q) := ⟨_, rfl⟩
 have hq : q ≤ 32 := by rw [← Hq.out]; unfold hf; omega
 rw [Hq.out]
 have K1 : Hid (OwnT (w.alloc (.cells #[] 9)) w.heap.size (some ⟨w.heap.size, 0, none⟩) 0 0 (up m R)) := litT w _
 have KB1 : Hid (Below w.heap.size w (w.alloc (.cells #[] 9))) := (Below.refl _ _).alloc (Nat.le_refl _) _
 clear h h16
 go_enter Tryz.func128, Tryz.ntmps128
 go_wp2
 go_loopw [3, 4] (fun v i wr => ∃ (k G c : Nat), k ≤ q ∧ i = .int .i64 ((2 * k : Nat) : Int) ∧ v = .slice (some ⟨G, 0, none⟩) k c ∧ OwnT wr w.heap.size (some ⟨G, 0, none⟩) k c (up m R) ∧ Below w.heap.size w wr) (fun _ i _ => 2 * q - (intOf i).toNat)
 case atStart => exact ⟨0, _, _, Nat.zero_le _, rfl, rfl, K1.out, KB1.out⟩
 case round =>
  obtain ⟨k, G, c, hk, rfl, rfl, hown, hbel⟩ := hrel
  clear K1 KB1
  obtain ⟨p, hp⟩ : ∃ p, 2 * k = p := ⟨_, rfl⟩
  rw [hp]
  have hsz := hbel.size
  have hGl := (World.ownsRow.lt hown _ rfl).1
  have hw2 : IntKind.i64.wrap ((p : Int) + 2) = ((2 * (k + 1) : Nat) : Int) := by rw [IntKind.wrap_i64]; omega
  have hw1 : IntKind.i64.wrap ((p : Int) + 1) = (p : Int) + 1 := by rw [IntKind.wrap_i64]; omega
  by_cases hlt : k < q
  ·have hpm : p < m := by have := Hq.out; unfold hf at this; omega
   have hpmi : (p : Int) < (m : Int) := by omega
   obtain ⟨b, off, rfl, hcw⟩ := KH.out.some (by omega)
   have lbw : b < w.heap.size := block_lt_of_cell (hcw p hpm)
   have hcc := fun i hi => (hbel.cell (p := ⟨b, off + i, none⟩) lbw).trans (hcw i hi)
   have e1 := hcc p hpm
   have z1 := K16.out p hpm
   by_cases hlt2 : p + 1 < m
   ·have e2 := hcc (p + 1) hlt2
    have z2 := K16.out (p + 1) hlt2
    have hlt2i : (p : Int) + 1 < (m : Int) := by omega
    have HU : Hid (jn (R p) (R (p + 1)) = up m R k) := by
     show _ = _
     unfold up
     rw [if_pos (by omega), hp]
    obtain ⟨p1, hp1⟩ : ∃ p1, p + 1 = p1 := ⟨_, rfl⟩
    rw [hp1] at e2 z2 HU
    have hpp : (p : Int) + 1 = (p1 : Int) := by omega
    have hp1m : (p1 : Int) < (m : Int) := by omega
    rw [hpp] at hw1 hlt2i
    generalize R p = s1 at e1 z1 HU
    generalize R p1 = s2 at e2 z2 HU
    have HJ : Hid (∀ w0, Calls Tryz.prog 163 #[.string s1, .string s2] w0 fun e w' => e = .returned (.string (jn s1 s2)) ∧ Below w0.heap.size w0 w') := fun w0 => sjoin_any _ _ w0 (by omega) (by omega)
    generalize jn s1 s2 = z at HJ HU
    have KO : Hid (OwnT wr w.heap.size (some ⟨G, 0, none⟩) k c (up m R)) := hown
    have KB : Hid (Below w.heap.size w wr) := hbel
    have lb : b < wr.heap.size := block_lt_of_cell e1
    clear hown hbel hcc hcw z1 z2
    go_wp2_with fail
    go_region_held3 (fun w' => w'.cell? ⟨b, off + p, none⟩ = some (.string s1) ∧ w'.cell? ⟨b, off + p1, none⟩ = some (.string s2)) (go_keep) ((first | (go_at_call 163; refine Calls.mono (HJ.out _) ?_; rintro e w9 ⟨rfl, hb9'⟩; have hb9 := below_of_drew hb9'; clear hb9'; have g1 := (hb9.cell (p := ⟨b, off + p, none⟩) lb).trans e1; have g2 := (hb9.cell (p := ⟨b, off + p1, none⟩) lb).trans e2; have KO9 : Hid (OwnT (w9.alloc (.cells #[.string z] 9)) w.heap.size (some ⟨G, 0, none⟩) k c (up m R)) := World.ownsRow.alloc (OwnT.below KO.out hb9) _; have hs9 := hb9.size) | (guard_hyp hs9; refine step_append_row _ (by rfl) _ _ _ (by rfl) w.heap.size 9 i0 _ 1 16 Tryz.underlying46 hi hz0 hz1 hz2 rfl (by omega) G k c _ (by rfl) KO9.out ⟨w9.heap.size, 0, none⟩ 1 1 [.string z] (by rfl) (by rfl) (World.news_of_block (cs := #[.string z]) (t := 9) (fr := (0, 0)) (heap_alloc_new w9 _)) (by simp [Value.oneCell']) (by unfold maxLen; omega) (by omega) (by simp; omega) ?_; intro g3 cap3 w3 hown3 hgrow3; have B9 : Below w.heap.size w9 w3 := ((Below.refl _ w9).alloc (by omega) _).grown hgrow3 (by simp; omega) (fun j hj => by cases hj; exact hGl); have k1 := (B9.cell (p := ⟨b, off + p, none⟩) lbw).trans g1; have k2 := (B9.cell (p := ⟨b, off + p1, none⟩) lbw).trans g2)))
    all_goals
     have HO : Hid (OwnT w3 w.heap.size (some ⟨g3, 0, none⟩) (k + 1) cap3 (up m R)) := by
      show OwnT _ _ _ _ _ _
      unfold OwnT
      rw [sL_snoc, ← HU.out]
      exact hown3
     have HB3 : Hid (Below w.heap.size w w3) := (KB.out.trans (hb9.mono hsz)).trans B9
     clear hown3 hgrow3 B9 k1 k2 g1 g2 e1 e2 KO9 hb9 KO KB
     go_wp2
     go_roundw
     case rel => exact ⟨k + 1, g3, cap3, by omega, rfl, rfl, HO.out, HB3.out⟩
     case measure => simp [intOf]; omega
   ·have hlt2i : ¬ (p : Int) + 1 < (m : Int) := by omega
    have HU : Hid (R p = up m R k) := by
     show _ = _
     unfold up
     rw [if_neg (by omega), if_pos (by omega), hp]
    generalize R p = s1 at e1 z1 HU
    clear hcc hcw z1
    go_wp2_with (at_builtin; refine wpList_append_all _ (by rfl) _ _ 46 (by rfl) w.heap.size 9 i0 (.string ByteArray.empty) 1 16 Tryz.underlying46 hi hz0 hz1 hz2 rfl (by decide) G k c _ (by rfl) (World.ownsRow.alloc hown _) ⟨wr.heap.size, 0, none⟩ 1 1 [.string s1] (by rfl) (by rfl) (World.news_of_block (cs := #[.string s1]) (t := 9) (fr := (0, 0)) (heap_alloc_new wr _)) (by simp [Value.oneCell']) (by unfold maxLen; omega) (by omega) (by simp; omega) ?_; intro g3 cap3 w3 hown3 hgrow3)
    have HO : Hid (OwnT w3 w.heap.size (some ⟨g3, 0, none⟩) (k + 1) cap3 (up m R)) := by
     show OwnT _ _ _ _ _ _
     unfold OwnT
     rw [sL_snoc, ← HU.out]
     exact hown3
    have HB3 : Hid (Below w.heap.size w w3) := (hbel.alloc hsz _).grown (show World.grownBy _ w3 (some G) from hgrow3) (by simp; omega) (fun j hj => by cases hj; exact hGl)
    clear hown3 hgrow3 hown
    go_roundw
    case rel => exact ⟨k + 1, g3, cap3, by omega, rfl, rfl, HO.out, HB3.out⟩
    case measure => simp [intOf]; omega
  ·obtain rfl : k = q := by omega
   have hpm : ¬ (p : Int) < (m : Int) := by have := Hq.out; unfold hf at this; omega
   have HO : Hid (OwnT wr w.heap.size (some ⟨G, 0, none⟩) k c (up m R)) := hown
   clear hown
   go_wp2
   go_ret
   exact ⟨G, c, rfl, HO.out, hbel⟩
end Go.Proofs.YtmhcdkbgjjibeaaGreatDoor
namespace Go.Proofs.YtmhcdkbgjjibeaaGreatDoor
open Gt (lf)
theorem leaf_wide (s : ByteArray) (w : World) (hs : s.size ≤ 2097152) : Calls Tryz.prog 136 #[.string s] w fun e w' => e = .returned (.string (lf s)) ∧ Below w.heap.size w w' := by
 have h1 := one_app 0 s
 have HS : Hid (∀ w0, Calls Tryz.prog 172 #[.string ((⟨#[0]⟩ : ByteArray) ++ s)] w0 fun e w' => e = .returned (.string (lf s)) ∧ Below w0.heap.size w0 w') := fun w0 => sum_wide _ w0 (by omega)
 have hb1 : (⟨#[0]⟩ : ByteArray).size = 1 := rfl
 go_enter Tryz.func136, Tryz.ntmps136
 go_wp2_with fail
 refine (HS.out _).mono ?_
 rintro e w1 ⟨rfl, b1⟩
 go_wp2
 go_ret
 exact ⟨rfl, b1⟩
theorem sleaf_wide (s : ByteArray) (w : World) (hs : s.size ≤ 2097152) : Calls Tryz.prog 122 #[.string s] w fun e w' => e = .returned (.string (lf s)) ∧ Below w.heap.size w w' := by
 have h1 := one_app 0 s
 have HS : Hid (∀ w0, Calls Tryz.prog 164 #[.string ((⟨#[0]⟩ : ByteArray) ++ s)] w0 fun e w' => e = .returned (.string (lf s)) ∧ Below w0.heap.size w0 w') := fun w0 => sSum_wide _ w0 (by omega)
 have hb1 : (⟨#[0]⟩ : ByteArray).size = 1 := rfl
 go_enter Tryz.func122, Tryz.ntmps122
 go_wp2_with fail
 refine (HS.out _).mono ?_
 rintro e w1 ⟨rfl, b1⟩
 go_wp2
 go_ret
 exact ⟨rfl, b1⟩
def pHd (k n i : Nat) (s : ByteArray) : ByteArray := strOfNums [(k : Int), (n : Int), (i : Int), ((s.size % 256 : Nat) : Int)] ++ s
noncomputable def plf (k n i : Int) (s : ByteArray) : ByteArray := if isB k = true ∧ isB n = true ∧ isB i = true then lf (pHd k.toNat n.toNat i.toNat s) else ⟨#[]⟩
theorem plf_yes {k n i : Nat} (s : ByteArray) (hk : k < 256) (hn : n < 256) (hi : i < 256) : plf (k : Int) (n : Int) (i : Int) s = lf (pHd k n i s) := by
 unfold plf
 rw [if_pos ⟨isB_ofNat hk, isB_ofNat hn, isB_ofNat hi⟩]
 simp
theorem plf_no {k n i : Int} (s : ByteArray) (h : isB k = false ∨ isB n = false ∨ isB i = false) : plf k n i s = ⟨#[]⟩ := by
 unfold plf
 rw [if_neg]
 rintro ⟨h1, h2, h3⟩
 rcases h with h | h | h
 ·rw [h] at h1; cases h1
 ·rw [h] at h2; cases h2
 ·rw [h] at h3; cases h3
theorem plf_le (k n i : Int) (s : ByteArray) : (plf k n i s).size ≤ 16 := by
 unfold plf
 split
 ·rw [Gt.lf_size]; omega
 ·decide
theorem four_cells {w : World} {ty : TypeId} {a b c d : Int} : ∀ i, i < 4 → (w.alloc (.cells #[.int .u8 a, .int .u8 b, .int .u8 c, .int .u8 d] ty)).cell? ⟨w.heap.size, 0 + i, none⟩ = some (.int .u8 ([a, b, c, d].getD i 0)) := by
 intro i hi
 rw [Nat.zero_add, cell_of_row _ _ _ _ ty _ (heap_alloc_new w _)]
 match i, hi with
 | 0, _ => rfl
 | 1, _ => rfl
 | 2, _ => rfl
 | 3, _ => rfl
theorem pieceLeaf_any (k n i : Int) (s : ByteArray) (w : World) (hs : s.size ≤ 1048576) :
  Calls Tryz.prog 100 #[.int .i64 k, .int .i64 n, .int .i64 i, .string s] w fun e w' => e = .returned (.string (plf k n i s)) ∧ Below w.heap.size w w' := by
 have KB : Hid (∀ (a : Int) (W : World), Calls Tryz.prog 135 #[.int .i64 a] W fun e w' => e = .returned (.bool (isB a)) ∧ w' = W) := fun a W => isByte_any a W
 cases h1 : isB k with
 | false =>
  rw [plf_no s (.inl h1)]
  go_enter Tryz.func100, Tryz.ntmps100
  go_wp2_with (go_at_call 135; refine (KB.out _ _).mono ?_; rintro e w' ⟨rfl, hw⟩; obtain rfl := hw.symm)
  go_ret
  exact ⟨rfl, Below.refl _ _⟩
 | true =>
  cases h2 : isB n with
  | false =>
   rw [plf_no s (.inr (.inl h2))]
   go_enter Tryz.func100, Tryz.ntmps100
   go_wp2_with (go_at_call 135; refine (KB.out _ _).mono ?_; rintro e w' ⟨rfl, hw⟩; obtain rfl := hw.symm)
   go_ret
   exact ⟨rfl, Below.refl _ _⟩
  | true =>
   cases h3 : isB i with
   | false =>
    rw [plf_no s (.inr (.inr h3))]
    go_enter Tryz.func100, Tryz.ntmps100
    go_wp2_with (go_at_call 135; refine (KB.out _ _).mono ?_; rintro e w' ⟨rfl, hw⟩; obtain rfl := hw.symm)
    go_ret
    exact ⟨rfl, Below.refl _ _⟩
   | true =>
    obtain ⟨k', hk, rfl⟩ := isB_nat h1
    obtain ⟨n', hn, rfl⟩ := isB_nat h2
    obtain ⟨i', hi, rfl⟩ := isB_nat h3
    have e1 : IntKind.u8.wrap (k' : Int) = (k' : Int) := by rw [IntKind.wrap_u8]; omega
    have e2 : IntKind.u8.wrap (n' : Int) = (n' : Int) := by rw [IntKind.wrap_u8]; omega
    have e3 : IntKind.u8.wrap (i' : Int) = (i' : Int) := by rw [IntKind.wrap_u8]; omega
    obtain ⟨sz, hsz⟩ : ∃ sz, s.size = sz := ⟨_, rfl⟩
    obtain ⟨c, hc⟩ : ∃ c, sz % 256 = c := ⟨_, rfl⟩
    have e4 : IntKind.u8.wrap (sz : Int) = (c : Int) := by rw [IntKind.wrap_u8]; omega
    have HP : Hid (plf (k' : Int) (n' : Int) (i' : Int) s = lf (strOfNums [(k' : Int), (n' : Int), (i' : Int), (c : Int)] ++ s)) := by show _ = _; rw [plf_yes s hk hn hi, pHd, hsz, hc]
    rw [HP.out]
    have hcv := run_convert_bytes_arg (P := Tryz.prog) (w.alloc (.cells #[.int .u8 (k' : Int), .int .u8 (n' : Int), .int .u8 (i' : Int), .int .u8 (c : Int)] 5)) 129 5 Tryz.underlying129 Tryz.underlying5 w.heap.size 0 4 4 [(k' : Int), (n' : Int), (i' : Int), (c : Int)] rfl four_cells 9 Tryz.underlying9
    obtain ⟨hd, HH⟩ : ∃ hd, Hid (strOfNums [(k' : Int), (n' : Int), (i' : Int), (c : Int)] = hd) := ⟨_, rfl⟩
    have hhs : hd.size = 4 := by rw [← HH.out, strOfNums_size]; rfl
    rw [HH.out] at hcv ⊢
    have hss : (hd ++ s).size = 4 + sz := by rw [ByteArray.size_append, hhs, hsz]
    have HL : Hid (∀ W, Calls Tryz.prog 136 #[.string (hd ++ s)] W fun e w' => e = .returned (.string (lf (hd ++ s))) ∧ Below W.heap.size W w') := fun W => leaf_wide _ W (by omega)
    have hb0 : Below w.heap.size w (w.alloc (.cells #[.int .u8 (k' : Int), .int .u8 (n' : Int), .int .u8 (i' : Int), .int .u8 (c : Int)] 5)) := (Below.refl _ _).alloc (Nat.le_refl _) _
    have HB0 : Hid _ := hb0
    clear hb0 hss hc HP
    go_enter Tryz.func100, Tryz.ntmps100
    go_wp2_with (go_at_call 135; refine (KB.out _ _).mono ?_; rintro e w' ⟨rfl, hw⟩; obtain rfl := hw.symm)
    refine (HL.out _).mono ?_
    rintro e w1 ⟨rfl, b1⟩
    go_wp2
    go_ret
    exact ⟨rfl, below2 HB0.out b1⟩
theorem sPieceLeaf_any (k n i : Int) (s : ByteArray) (w : World) (hs : s.size ≤ 1048576) :
  Calls Tryz.prog 85 #[.int .i64 k, .int .i64 n, .int .i64 i, .string s] w fun e w' => e = .returned (.string (plf k n i s)) ∧ Below w.heap.size w w' := by
 have KB : Hid (∀ (a : Int) (W : World), Calls Tryz.prog 121 #[.int .i64 a] W fun e w' => e = .returned (.bool (isB a)) ∧ w' = W) := fun a W => sIs_any a W
 cases h1 : isB k with
 | false =>
  rw [plf_no s (.inl h1)]
  go_enter Tryz.func85, Tryz.ntmps85
  go_wp2_with (go_at_call 121; refine (KB.out _ _).mono ?_; rintro e w' ⟨rfl, hw⟩; obtain rfl := hw.symm)
  go_ret
  exact ⟨rfl, Below.refl _ _⟩
 | true =>
  cases h2 : isB n with
  | false =>
   rw [plf_no s (.inr (.inl h2))]
   go_enter Tryz.func85, Tryz.ntmps85
   go_wp2_with (go_at_call 121; refine (KB.out _ _).mono ?_; rintro e w' ⟨rfl, hw⟩; obtain rfl := hw.symm)
   go_ret
   exact ⟨rfl, Below.refl _ _⟩
  | true =>
   cases h3 : isB i with
   | false =>
    rw [plf_no s (.inr (.inr h3))]
    go_enter Tryz.func85, Tryz.ntmps85
    go_wp2_with (go_at_call 121; refine (KB.out _ _).mono ?_; rintro e w' ⟨rfl, hw⟩; obtain rfl := hw.symm)
    go_ret
    exact ⟨rfl, Below.refl _ _⟩
   | true =>
    obtain ⟨k', hk, rfl⟩ := isB_nat h1
    obtain ⟨n', hn, rfl⟩ := isB_nat h2
    obtain ⟨i', hi, rfl⟩ := isB_nat h3
    have e1 : IntKind.u8.wrap (k' : Int) = (k' : Int) := by rw [IntKind.wrap_u8]; omega
    have e2 : IntKind.u8.wrap (n' : Int) = (n' : Int) := by rw [IntKind.wrap_u8]; omega
    have e3 : IntKind.u8.wrap (i' : Int) = (i' : Int) := by rw [IntKind.wrap_u8]; omega
    obtain ⟨sz, hsz⟩ : ∃ sz, s.size = sz := ⟨_, rfl⟩
    obtain ⟨c, hc⟩ : ∃ c, sz % 256 = c := ⟨_, rfl⟩
    have e5 : (sz : Int).tmod 256 = (c : Int) := by rw [Int.tmod_eq_emod_of_nonneg (by omega)]; omega
    have e4 : IntKind.u8.wrap (c : Int) = (c : Int) := by rw [IntKind.wrap_u8]; omega
    have HP : Hid (plf (k' : Int) (n' : Int) (i' : Int) s = lf (strOfNums [(k' : Int), (n' : Int), (i' : Int), (c : Int)] ++ s)) := by show _ = _; rw [plf_yes s hk hn hi, pHd, hsz, hc]
    rw [HP.out]
    have hcv := run_convert_bytes_arg (P := Tryz.prog) (w.alloc (.cells #[.int .u8 (k' : Int), .int .u8 (n' : Int), .int .u8 (i' : Int), .int .u8 (c : Int)] 5)) 129 5 Tryz.underlying129 Tryz.underlying5 w.heap.size 0 4 4 [(k' : Int), (n' : Int), (i' : Int), (c : Int)] rfl four_cells 9 Tryz.underlying9
    obtain ⟨hd, HH⟩ : ∃ hd, Hid (strOfNums [(k' : Int), (n' : Int), (i' : Int), (c : Int)] = hd) := ⟨_, rfl⟩
    have hhs : hd.size = 4 := by rw [← HH.out, strOfNums_size]; rfl
    rw [HH.out] at hcv ⊢
    have hss : (hd ++ s).size = 4 + sz := by rw [ByteArray.size_append, hhs, hsz]
    have HL : Hid (∀ W, Calls Tryz.prog 122 #[.string (hd ++ s)] W fun e w' => e = .returned (.string (lf (hd ++ s))) ∧ Below W.heap.size W w') := fun W => sleaf_wide _ W (by omega)
    have hb0 : Below w.heap.size w (w.alloc (.cells #[.int .u8 (k' : Int), .int .u8 (n' : Int), .int .u8 (i' : Int), .int .u8 (c : Int)] 5)) := (Below.refl _ _).alloc (Nat.le_refl _) _
    have HB0 : Hid _ := hb0
    clear hb0 hss hc HP
    go_enter Tryz.func85, Tryz.ntmps85
    go_wp2_with (go_at_call 121; refine (KB.out _ _).mono ?_; rintro e w' ⟨rfl, hw⟩; obtain rfl := hw.symm)
    refine (HL.out _).mono ?_
    rintro e w1 ⟨rfl, b1⟩
    go_wp2
    go_ret
    exact ⟨rfl, below2 HB0.out b1⟩
end Go.Proofs.YtmhcdkbgjjibeaaGreatDoor
namespace Go.Proofs.YtmhcdkbgjjibeaaGreatDoor
open Go.ChangeShapes Go.WideShapes Go.ChangeAt Go.RowKit Go.Shelf
open Gt (nb hf nm pl)
def plI (i n : Int) : Int := if inT i n = true then ((pl i.toNat n.toNat : Nat) : Int) else -1
theorem Row.grown {w w' : World} {g j : Nat} {t : TypeId} {cs : Array Value} (h : Row w g t cs) (hg : w.grownBy w' (some j)) (hj : g ≠ j) : Row w' g t cs := (hg.block g h.lt (by simpa using hj)).trans h
theorem below_grown {B j : Nat} {w0 w w' : World} (h : Below B w0 w) (hg : w.grownBy w' (some j)) (hB : B ≤ w.heap.size) (hj : B ≤ j) : Below B w0 w' := h.grown hg hB (fun k e => by cases e; exact hj)
theorem proofLen_in (i n : Nat) (w : World) (hin : inT (i : Int) (n : Int) = true) :
  Calls Tryz.prog 168 #[.int .i64 (i : Int), .int .i64 (n : Int)] w fun e w' => e = .returned (.int .i64 ((pl i n : Nat) : Int)) ∧ Below w.heap.size w w' := by
 have hi : i < n ∧ n ≤ 64 := by simp [inT] at hin; omega
 have KT : Hid (∀ w0, Calls Tryz.prog 184 #[SpV (i : Int) (n : Int)] w0 fun e w' => e = .returned (.bool true) ∧ Below w0.heap.size w0 w') := by
  have := fun w0 => isInTree_any (i : Int) (n : Int) w0
  rw [hin] at this
  exact this
 have hfn := wideFn
 have hdp := wideDepth
 refine (callsIn_wide (n := 2)).1 ?_
 refine callsIn_of_wp_marks Tryz.func168 rfl trivial ?_ rfl
 simp only [Tryz.ntmps168, List.size_toArray, List.length_cons, List.length_nil, Nat.reduceAdd, Nat.reduceSub, Array.replicate_succ, Array.replicate_zero, List.push_toArray, List.append_toArray, List.nil_append, List.cons_append]
 have R0 := Row.new w #[.int .i64 (i : Int), .int .i64 (n : Int)] 235
 have HB0 : Hid (Below w.heap.size w (w.alloc (.cells #[.int .i64 (i : Int), .int .i64 (n : Int)] 235))) := (Below.refl _ _).alloc (Nat.le_refl _) _
 gi_wp2_with fail
 refine (callsIn_wide.2 (KT.out _)).mono ?_
 rintro e w1 ⟨rfl, hb1⟩
 have R1 := R0.below hb1 R0.lt
 have R2 := R1.alloc (.cells #[.int .i64 0] 3)
 have c0 := R2.cell 0
 have c1 := R2.cell 1
 simp at c0 c1
 have HN : Hid (Row (w1.alloc (.cells #[.int .i64 0] 3)) w1.heap.size 3 #[.int .i64 ((0 : Nat) : Int)] ∧ Below w.heap.size w (w1.alloc (.cells #[.int .i64 0] 3)) ∧ (w1.alloc (.cells #[.int .i64 0] 3)).heap.size = w1.heap.size + 1 ∧ w.heap.size ≤ w1.heap.size) := by
  have hb := below2 HB0.out hb1
  exact ⟨Row.new _ _ _, hb.alloc hb.size _, by simp, hb.size⟩
 gi_wp2
 clear c0 c1 R2 R1 R0 HB0
 generalize w1.alloc (.cells #[.int .i64 0] 3) = w2 at HN ⊢
 obtain ⟨B, hB⟩ : ∃ B, w1.heap.size = B := ⟨_, rfl⟩
 rw [hB] at HN ⊢
 clear hB
 refine wpIn_rangeM (recv := SpV (i : Int) (n : Int)) (gf := 170) (by rfl) (enters_of Tryz.func170 (by kernel_rfl) rfl) (joins_iter i n hi.1 hi.2) (fun _ => rfl)
  (fun s W => Below w.heap.size w W ∧ ∃ c : Nat, Row W B 3 #[.int .i64 (c : Int)] ∧ c + pl s.1 s.2 = pl i n) ?abide ?start ?round ?done
 case abide =>
  rintro s A A' j h1 h2 ⟨hb, c, hr, hc⟩ hg
  exact ⟨below_grown hb hg hb.size (by have := HN.out; omega), c, hr.grown hg (by have := HN.out; omega), hc⟩
 case start => exact ⟨HN.out.2.1, 0, HN.out.1, by rw [Gt.pl_nm]; omega⟩
 case round =>
  rintro l s W hok ⟨hb, c, hr, hc⟩ hlt
  have hn6 : c ≤ 64 := by
   have := Gt.pl_le 6 i n (by omega)
   omega
  have hsem := Oper.semAt_some
  gi_wp2
  refine ⟨World.grownBy.refl _ _, ?_⟩
  intro W2 hg2 hs2
  have r2 := hr.grown hg2 (by have := HN.out; omega)
  have hb2 := below_grown hb hg2 hb.size (by have := HN.out; omega)
  have e0 := r2.cell 0
  have f0 := r2.free 0
  simp at e0
  obtain ⟨c1, hc1⟩ : ∃ c1, c + 1 = c1 := ⟨_, rfl⟩
  have hw : IntKind.i64.wrap ((c : Int) + 1) = (c1 : Int) := by rw [IntKind.wrap_i64]; omega
  have HR : Hid (Row (W2.setCell ⟨B, 0, none⟩ (.int .i64 (c1 : Int))) B 3 #[.int .i64 (c1 : Int)]) := r2.set 0 (.int .i64 (c1 : Int))
  have HB : Hid (Below w.heap.size w (W2.setCell ⟨B, 0, none⟩ (.int .i64 (c1 : Int)))) := hb2.setCell (by have := HN.out; simp; omega) _
  have HC : Hid (c1 + pl (jNx s).1 (jNx s).2 = pl i n) := by
   have h1 := hok.1
   rw [Gt.pl_yes s.1 (by omega) hok.2.1] at hc
   show _ = _
   rw [Gt.pl_nm]
   omega
  clear hc1
  gi_wp2
  exact ⟨by simp, fun j h1 h2 => Below.heap_setCell _ _ _ _ (by have := HN.out; simp; omega), HB.out, c1, HR.out, HC.out⟩
 case done =>
  rintro s W hf ⟨hb, c, hr, hc⟩ hK
  have e0 := hr.cell 0
  simp at e0
  have hcc : c = pl i n := by rw [Gt.pl_one _ hf] at hc; omega
  gi_wp2
  refine ⟨by simp, .inl ⟨_, _, rfl, run_takeDeferred hK, ?_⟩⟩
  exact ⟨_, results_tmp rfl _ _ _, by rw [← hcc]; rfl, below_grown hb (grownBy_put _ _ _) hb.size (by have := HN.out; omega)⟩
theorem proofLen_any (i n : Int) (w : World) : Calls Tryz.prog 168 #[.int .i64 i, .int .i64 n] w fun e w' => e = .returned (.int .i64 (plI i n)) ∧ Below w.heap.size w w' := by
 cases hin : inT i n with
 | true =>
  obtain ⟨i', rfl⟩ : ∃ i' : Nat, i = (i' : Int) := ⟨i.toNat, by simp [inT] at hin; omega⟩
  obtain ⟨n', rfl⟩ : ∃ n' : Nat, n = (n' : Int) := ⟨n.toNat, by simp [inT] at hin; omega⟩
  have e : plI (i' : Int) (n' : Int) = ((pl i' n' : Nat) : Int) := by unfold plI; rw [if_pos hin]; simp
  rw [e]
  exact proofLen_in i' n' w hin
 | false =>
  have e : plI i n = -1 := by unfold plI; rw [hin]; rfl
  rw [e]
  have KT : Hid (∀ w0, Calls Tryz.prog 184 #[SpV i n] w0 fun e w' => e = .returned (.bool false) ∧ Below w0.heap.size w0 w') := by
   have := fun w0 => isInTree_any i n w0
   rw [hin] at this
   exact this
  go_enter Tryz.func168, Tryz.ntmps168
  go_wp2_with fail
  refine (KT.out _).mono ?_
  rintro e w1 ⟨rfl, hb1⟩
  have hb := below2 ((Below.refl _ w).alloc (Nat.le_refl _) (.cells #[.int .i64 i, .int .i64 n] 235)) hb1
  go_wp2
  go_ret
  exact ⟨rfl, hb⟩
end Go.Proofs.YtmhcdkbgjjibeaaGreatDoor
namespace Go.Proofs.YtmhcdkbgjjibeaaGreatDoor
open Gt (nb hf pl)
theorem up_nums (p s : Nat) (hp : p < s) (hs : s ≤ 64) : IntKind.i64.wrap ((p : Int) + 1) = (p : Int) + 1 ∧ (p : Int).tmod 2 = (p : Int) % 2 ∧ IntKind.i64.wrap (2 * ((p : Int) % 2)) = 2 * ((p : Int) % 2) ∧ IntKind.i64.wrap ((p : Int) + 1 - 2 * ((p : Int) % 2)) = ((nb p : Nat) : Int) ∧
  (p : Int).tdiv 2 = ((p / 2 : Nat) : Int) ∧ IntKind.i64.wrap ((p / 2 : Nat) : Int) = ((p / 2 : Nat) : Int) ∧ IntKind.i64.wrap ((s : Int) + 1) = (s : Int) + 1 ∧ ((s : Int) + 1).tdiv 2 = ((hf s : Nat) : Int) ∧ IntKind.i64.wrap ((hf s : Nat) : Int) = ((hf s : Nat) : Int) := by
 refine ⟨by rw [IntKind.wrap_i64]; omega, by rw [Int.tmod_eq_emod_of_nonneg (by omega)], by rw [IntKind.wrap_i64]; omega, ?_, by rw [Int.tdiv_eq_ediv_of_nonneg (by omega)]; omega, by rw [IntKind.wrap_i64]; omega, by rw [IntKind.wrap_i64]; omega, by rw [Int.tdiv_eq_ediv_of_nonneg (by omega)]; unfold hf; omega, by unfold hf; rw [IntKind.wrap_i64]; omega⟩
 rw [Gt.nb_model, IntKind.wrap_i64]
 have : nb p ≤ p + 1 := by unfold nb; split <;> omega
 omega
theorem inB_false {x a b : Int} (h : ¬ (a ≤ x ∧ x ≤ b)) : inB x a b = false := by unfold inB; simpa using h
theorem inB_true {x a b : Int} (h : a ≤ x ∧ x ≤ b) : inB x a b = true := by unfold inB; simpa using h
theorem sProofLen_any (i n : Int) (w : World) : Calls Tryz.prog 162 #[.int .i64 i, .int .i64 n] w fun e w' => e = .returned (.int .i64 (plI i n)) ∧ w' = w := by
 by_cases hn : 1 ≤ n ∧ n ≤ 64
 ·have KN : inB n 1 64 = true := inB_true hn
  have hw1 : IntKind.i64.wrap (n - 1) = n - 1 := by rw [IntKind.wrap_i64]; omega
  by_cases hi : 0 ≤ i ∧ i ≤ n - 1
  ·have KI : inB i 0 (n - 1) = true := inB_true hi
   obtain ⟨i', rfl⟩ : ∃ i' : Nat, i = (i' : Int) := ⟨i.toNat, by omega⟩
   obtain ⟨n', rfl⟩ : ∃ n' : Nat, n = (n' : Int) := ⟨n.toNat, by omega⟩
   have hin : inT (i' : Int) (n' : Int) = true := by simp [inT]; omega
   have e : plI (i' : Int) (n' : Int) = ((pl i' n' : Nat) : Int) := by unfold plI; rw [if_pos hin]; simp
   rw [e]
   obtain ⟨N, hN⟩ : ∃ N, pl i' n' = N := ⟨_, rfl⟩
   have hN6 : N ≤ 6 := by rw [← hN]; exact Gt.pl_le 6 _ _ (by omega)
   have HN : Hid (pl i' n' = N) := hN
   rw [hN]
   clear hin e hN
   go_enter Tryz.func162, Tryz.ntmps162
   go_wp2_with (go_at_call 83; refine (sIn_any _ _ _ _).mono ?_; rintro e w' ⟨rfl, hw⟩; obtain rfl := hw.symm)
   go_loop [0, 1, 5] (fun vi vn vc => ∃ p s c : Nat, p < s ∧ s ≤ 64 ∧ c ≤ 6 ∧ Hid (c + pl p s = N) ∧ vi = .int .i64 (p : Int) ∧ vn = .int .i64 (s : Int) ∧ vc = .int .i64 (c : Int)) (fun _ vn _ => (intOf vn).toNat)
   case atStart => exact ⟨i', n', 0, by omega, by omega, by omega, by show 0 + _ = _; rw [HN.out]; omega, rfl, rfl, rfl⟩
   case round =>
    obtain ⟨p, s, c, hp, hs, hc, HC, rfl, rfl, rfl⟩ := hrel
    clear hw1 hi hn
    by_cases h1 : s ≤ 1
    ·have h1' : ¬ (1 : Int) < (s : Int) := by omega
     have HE : Hid (c = N) := by have := HC.out; rw [Gt.pl_one p h1] at this; show _ = _; omega
     go_wp2
     go_ret
     exact ⟨by rw [← HE.out]; rfl, rfl⟩
    ·have h1' : (1 : Int) < (s : Int) := by omega
     obtain ⟨u1, u2, u3, u4, u5, u6, u7, u8, u9⟩ := up_nums p s hp hs
     have hlt : p / 2 < hf s ∧ hf s < s := by unfold hf; omega
     by_cases hb : nb p < s
     ·have HC2 : Hid (c + 1 + pl (p / 2) (hf s) = N) := by have := HC.out; rw [Gt.pl_yes p h1 hb] at this; show _ = _; omega
      have hb' : ((nb p : Nat) : Int) < (s : Int) := by omega
      have hc2 : c + 1 ≤ 6 := by have := HC2.out; omega
      generalize nb p = q at u4 hb'
      generalize p / 2 = p' at u5 u6 hlt HC2
      generalize hf s = s' at u8 u9 hlt HC2
      go_wp2
      go_round
      case rel => exact ⟨p', s', c + 1, by omega, by omega, hc2, HC2, rfl, rfl, by go_num⟩
      case measure => simp [intOf]; omega
     ·have HC2 : Hid (c + pl (p / 2) (hf s) = N) := by have := HC.out; rw [Gt.pl_no p h1 hb] at this; exact this
      have hb' : ¬ ((nb p : Nat) : Int) < (s : Int) := by omega
      generalize nb p = q at u4 hb'
      generalize p / 2 = p' at u5 u6 hlt HC2
      generalize hf s = s' at u8 u9 hlt HC2
      go_wp2
      go_round
      case rel => exact ⟨p', s', c, by omega, by omega, hc, HC2, rfl, rfl, rfl⟩
      case measure => simp [intOf]; omega
  ·have KI : inB i 0 (n - 1) = false := inB_false hi
   have e : plI i n = -1 := by unfold plI; rw [show inT i n = false by simp [inT]; omega]; rfl
   rw [e]
   clear e
   go_enter Tryz.func162, Tryz.ntmps162
   go_wp2_with (go_at_call 83; refine (sIn_any _ _ _ _).mono ?_; rintro e w' ⟨rfl, hw⟩; obtain rfl := hw.symm)
   go_ret
   exact ⟨rfl, rfl⟩
 ·have KN : inB n 1 64 = false := inB_false hn
  have e : plI i n = -1 := by unfold plI; rw [show inT i n = false by simp [inT]; omega]; rfl
  rw [e]
  clear e
  go_enter Tryz.func162, Tryz.ntmps162
  go_wp2_with (go_at_call 83; refine (sIn_any _ _ _ _).mono ?_; rintro e w' ⟨rfl, hw⟩; obtain rfl := hw.symm)
  go_ret
  exact ⟨rfl, rfl⟩
end Go.Proofs.YtmhcdkbgjjibeaaGreatDoor
namespace Go.Proofs.YtmhcdkbgjjibeaaGreatDoor
def aS (n : Nat) (S : Nat → ByteArray) : Bool := decide (∀ i, i < n → (S i).size = 16)
theorem aS_yes {n : Nat} {S : Nat → ByteArray} (h : ∀ i, i < n → (S i).size = 16) : aS n S = true := by unfold aS; simpa using h
theorem aS_no {n k : Nat} {S : Nat → ByteArray} (hk : k < n) (h : (S k).size ≠ 16) : aS n S = false := by unfold aS; simp; exact ⟨k, hk, h⟩
theorem aS_iff {n : Nat} {S : Nat → ByteArray} : aS n S = true ↔ ∀ i, i < n → (S i).size = 16 := by unfold aS; simp
theorem areSums_any (a : Option Addr) (n cap : Nat) (S : Nat → ByteArray) (w : World) (h : TxtAt w a n S) (hn : n ≤ 1048576) (hL : ∀ i, i < n → (S i).size ≤ maxLen) :
  Calls Tryz.prog 169 #[.slice a n cap] w fun e w' => e = .returned (.bool (aS n S)) ∧ w' = w := by
 unfold maxLen at hL
 have KH : Hid (TxtAt w a n S) := h
 have KL : Hid (∀ i, i < n → (S i).size ≤ 9223372036854775807) := hL
 clear h hL
 go_enter Tryz.func169, Tryz.ntmps169
 go_wp2
 go_loop [7] (fun i => ∃ k : Nat, k ≤ n ∧ i = .int .i64 k ∧ Hid (∀ i, i < k → (S i).size = 16)) (fun i => n - (intOf i).toNat)
 case atStart => exact ⟨0, Nat.zero_le _, rfl, fun i hi => by omega⟩
 case round =>
  obtain ⟨k, hk, rfl, HS⟩ := hrel
  by_cases hlt : k < n
  ·obtain ⟨b, off, rfl, hc⟩ := KH.out k hlt
   have hlti : (k : Int) < (n : Int) := by omega
   have hl := KL.out k hlt
   obtain ⟨s, hs⟩ : ∃ s, S k = s := ⟨_, rfl⟩
   rw [hs] at hc hl
   by_cases h16 : s.size = 16
   ·have h16' : (s.size : Int) = 16 := by omega
    have HS2 : Hid (∀ i, i < k + 1 → (S i).size = 16) := fun i hi => by
     by_cases e : i = k
     ·subst e; rw [hs]; exact h16
     ·exact HS.out i (by omega)
    clear h16 hs
    go_wp2
    go_round
    case rel => exact ⟨k + 1, by omega, by go_num, HS2⟩
    case measure => simp [intOf]; omega
   ·have h16' : ((s.size : Int) != 16) = true := by simp; omega
    have HE : Hid (aS n S = false) := aS_no hlt (by rw [hs]; exact h16)
    clear h16 hs
    go_wp2
    go_ret
    exact ⟨by rw [HE.out]; rfl, rfl⟩
  ·obtain rfl : k = n := by omega
   have HE : Hid (aS k S = true) := aS_yes HS.out
   go_wp2
   go_ret
   exact ⟨by rw [HE.out]; rfl, rfl⟩
def lvB (n : Nat) (S : Nat → ByteArray) : Bool := aS n S && inB (n : Int) 1 64
theorem sLeaves_any (a : Option Addr) (n cap : Nat) (S : Nat → ByteArray) (w : World) (h : TxtAt w a n S) (hn : n ≤ 1048576) (hL : ∀ i, i < n → (S i).size ≤ maxLen) :
  Calls Tryz.prog 127 #[.slice a n cap] w fun e w' => e = .returned (.bool (lvB n S)) ∧ w' = w := by
 unfold maxLen at hL
 have KH : Hid (TxtAt w a n S) := h
 have KL : Hid (∀ i, i < n → (S i).size ≤ 9223372036854775807) := hL
 clear h hL
 go_enter Tryz.func127, Tryz.ntmps127
 go_wp2
 go_loop [3] (fun i => ∃ k : Nat, k ≤ n ∧ i = .int .i64 k ∧ Hid (∀ i, i < k → (S i).size = 16)) (fun i => n - (intOf i).toNat)
 case atStart => exact ⟨0, Nat.zero_le _, rfl, fun i hi => by omega⟩
 case round =>
  obtain ⟨k, hk, rfl, HS⟩ := hrel
  by_cases hlt : k < n
  ·obtain ⟨b, off, rfl, hc⟩ := KH.out k hlt
   have hlti : (k : Int) < (n : Int) := by omega
   have hl := KL.out k hlt
   obtain ⟨s, hs⟩ : ∃ s, S k = s := ⟨_, rfl⟩
   rw [hs] at hc hl
   by_cases h16 : s.size = 16
   ·have h16' : (s.size : Int) = 16 := by omega
    have HS2 : Hid (∀ i, i < k + 1 → (S i).size = 16) := fun i hi => by
     by_cases e : i = k
     ·subst e; rw [hs]; exact h16
     ·exact HS.out i (by omega)
    clear h16 hs
    go_wp2
    go_round
    case rel => exact ⟨k + 1, by omega, by go_num, HS2⟩
    case measure => simp [intOf]; omega
   ·have h16' : ((s.size : Int) != 16) = true := by simp; omega
    have HE : Hid (lvB n S = false) := by show _ = _; unfold lvB; rw [aS_no hlt (by rw [hs]; exact h16)]; rfl
    clear h16 hs
    go_wp2
    go_ret
    exact ⟨by rw [HE.out]; rfl, rfl⟩
  ·obtain rfl : k = n := by omega
   have HE : Hid (lvB k S = inB (k : Int) 1 64) := by show _ = _; unfold lvB; rw [aS_yes HS.out]; rfl
   go_wp2_with (go_at_call 83; refine (sIn_any _ _ _ _).mono ?_; rintro e w' ⟨rfl, hw⟩; obtain rfl := hw.symm)
   go_ret
   exact ⟨by rw [HE.out]; rfl, rfl⟩
set_option maxRecDepth 100000 in
theorem cloneLite_any (s : ByteArray) (w : World) (hlim : s.size ≤ 1048576) :
  Calls Tryz.prog 161 #[.string s] w fun e w' => e = .returned (.string s) ∧ Below w.heap.size w w' := by
 by_cases h0 : s.size = 0
 ·have hs : s = ⟨#[]⟩ := by
   apply ByteArray.ext
   exact Array.eq_empty_of_size_eq_zero h0
  subst hs
  go_enter Tryz.func161, Tryz.ntmps161
  go_wp2
  go_ret
  exact ⟨rfl, Below.refl _ _⟩
 ·obtain ⟨i0, hi, hz0, hz1, hz2⟩ := info_parts Tryz.infoByte
  have hinfo : (Tryz.prog.info? 5).map (·.size) = some 1 := by rw [hi]; simp [hz1]
  have hco : Tryz.prog.cellsOf 5 = 1 := by simp [Program.cellsOf, hi, hz1]
  obtain ⟨M, hM⟩ : ∃ M, M = madeCells (Value.int .u8 0).cells (((s.size : Nat) : Int).toNat * i0.size) := ⟨_, rfl⟩
  have hMs : M.size = s.size := by rw [hM, size_madeCells, hz1]; simp
  have hmk : ∀ W : World, (Instr.makeSlice 129 (.int .i64 (s.size : Int)) (.int .i64 (s.size : Int))).run Tryz.prog W = .ok (.slice (some ⟨W.heap.size, 0, none⟩) s.size s.size) (W.alloc (.cells M 5)) := fun W => by
   have h := run_make (P := Tryz.prog) W 129 5 i0 (.int .u8 0) Tryz.underlying129 hi hz0 .i64 .i64 (s.size : Int) (s.size : Int) (by omega) (by omega) (by rw [hz2]; omega) (by omega)
   rw [← hM] at h
   simpa using h
  clear hM
  have hcp := Lib.run_copy_row_string (P := Tryz.prog) (w.alloc (.cells M 5)) 129 9 3 5 w.heap.size 0 s.size s.size s M 5 Tryz.underlying129 hinfo (heap_alloc_new w _) (Nat.le_refl _) (by omega)
  obtain ⟨Y, hY⟩ : ∃ Y, Y = (M.toList.take 0 ++ Lib.byteCells s.data.toList ++ M.toList.drop (0 + s.size)).toArray := ⟨_, rfl⟩
  rw [← hY] at hcp
  have hYl : Y.toList = Lib.byteCells s.data.toList := by
   rw [hY, List.toList_toArray, List.take_zero, List.nil_append, List.drop_of_length_le (by rw [Array.length_toList]; omega), List.append_nil]
  have hYs : Y.size = s.size := by rw [← Array.length_toList, hYl, Lib.byteCells_length, ← Lib.size_eq]
  have hgY : ((w.alloc (.cells M 5)).setRow w.heap.size Y).heap[w.heap.size]? = some (.cells Y 5 (0, 0)) := setRow_heap _ _ M _ 5 (0, 0) (heap_alloc_new w _)
  have hne : s.data.toList ≠ [] := fun e => h0 (by rw [Lib.size_eq, e]; rfl)
  have hUS := Lib.run_unsafeString_row (P := Tryz.prog) ((w.alloc (.cells M 5)).setRow w.heap.size Y) 249 3 9 5 Tryz.underlying249 hco w.heap.size Y.size (by unfold World.shape?; rw [hgY]) s.data.toList hne (by rw [← Lib.size_eq]; omega) (by rw [← Lib.size_eq]; omega)
   (fun j x hx => Lib.cells_of_row hgY Y.size j _ (by rw [List.take_of_length_le (by rw [Array.length_toList]; exact Nat.le_refl _), hYl]; simp [Lib.byteCells, hx]))
  rw [← Lib.size_eq] at hUS
  clear hY
  go_enter Tryz.func161, Tryz.ntmps161
  go_wp2
  go_ret
  have hb1 : Below w.heap.size w (w.alloc (.cells M 5)) := (Below.refl _ w).alloc (Nat.le_refl _) _
  have hb2 : Below w.heap.size (w.alloc (.cells M 5)) ((w.alloc (.cells M 5)).setRow w.heap.size Y) := ⟨rfl, rfl, rfl, by simp, fun k hk => setRow_other _ _ _ _ (by omega)⟩
  exact ⟨rfl, Lib.below_freeze (hb1.trans hb2) (p := ⟨w.heap.size, 0, none⟩) (Nat.le_refl _) _⟩
theorem clone_any (s : ByteArray) (w : World) (hlim : s.size ≤ 1048576) :
  Calls Tryz.prog 116 #[.string s] w fun e w' => e = .returned (.string s) ∧ Below w.heap.size w w' := by
 go_enter Tryz.func116, Tryz.ntmps116
 go_wp2_with fail
 refine (cloneLite_any s _ hlim).mono ?_
 rintro e w1 ⟨rfl, b1⟩
 go_wp2
 go_ret
 exact ⟨rfl, b1⟩
end Go.Proofs.YtmhcdkbgjjibeaaGreatDoor
namespace Go.Proofs.YtmhcdkbgjjibeaaGreatDoor
open Go.ChangeShapes Go.WideShapes Go.ChangeAt Go.RowKit Go.Shelf
open Gt (nb hf nm pl pr jn)
def prB (x : ByteArray) (i n : Int) (k : Nat) (S : Nat → ByteArray) : Bool := decide (x.size = 16) && decide ((k : Int) = plI i n) && aS k S
def prS (x : ByteArray) (i n : Int) (k : Nat) (S : Nat → ByteArray) : ByteArray := if prB x i n k S = true then pr x i.toNat n.toNat S 0 else ⟨#[]⟩
theorem proofRoot_no (x : ByteArray) (i n : Int) (a : Option Addr) (k cap : Nat) (S : Nat → ByteArray) (w : World) (h : TxtAt w a k S) (hk : k ≤ 1048576) (hL : ∀ i, i < k → (S i).size ≤ maxLen) (hno : prB x i n k S = false) :
  Calls Tryz.prog 134 #[.string x, .int .i64 i, .int .i64 n, .slice a k cap] w fun e w' => e = .returned (.tuple #[.string ⟨#[]⟩, .bool false]) ∧ Below w.heap.size w w' := by
 obtain ⟨w1, HW1⟩ : ∃ w1, Hid (w1 = w.alloc (.cells #[.slice a k cap] 46)) := ⟨_, rfl⟩
 have K1 : Hid (Row w1 w.heap.size 46 #[.slice a k cap] ∧ Below w.heap.size w w1) := by rw [HW1.out]; exact ⟨Row.new w _ _, (Below.refl _ _).alloc (Nat.le_refl _) _⟩
 have KP : Hid (∀ w0, Calls Tryz.prog 168 #[.int .i64 i, .int .i64 n] w0 fun e w' => e = .returned (.int .i64 (plI i n)) ∧ Below w0.heap.size w0 w') := fun w0 => proofLen_any i n w0
 have KA : Hid (∀ W, Below w.heap.size w W → Calls Tryz.prog 169 #[.slice a k cap] W fun e w' => e = .returned (.bool (aS k S)) ∧ w' = W) := fun W hb => areSums_any a k cap S W (h.below hb) hk hL
 have hc := K1.out.1.cell 0
 have hlt := K1.out.1.lt
 simp at hc
 obtain ⟨r, hr⟩ : ∃ r, plI i n = r := ⟨_, rfl⟩
 rw [hr] at KP
 unfold prB at hno
 rw [hr] at hno
 by_cases h16 : x.size = 16
 ·have h16' : ((x.size : Int) != 16) = false := by simp; omega
  by_cases hkr : (k : Int) = r
  ·have hkr' : ((k : Int) != r) = false := by simp; exact hkr
   have haS : aS k S = false := by simpa [h16, hkr] using hno
   rw [haS] at KA
   clear h hL hno h16 hkr haS hr
   go_enter Tryz.func134, Tryz.ntmps134
   go_wp2_with fail
   rw [← HW1.out]
   go_region_held3 (fun w' => w'.cell? ⟨w.heap.size, 0, none⟩ = some (.slice a k cap)) (go_keep) ((first | (go_at_call 168; refine Calls.mono (KP.out _) ?_; rintro e w5 ⟨rfl, hb5'⟩; have hb5 := below_of_drew hb5'; clear hb5'; have h50 := (hb5.cell (p := ⟨w.heap.size, 0, none⟩) hlt).trans hc) | (guard_hyp hb5; go_at_call 169; refine Calls.mono (KA.out _ (K1.out.2.trans (hb5.mono K1.out.2.size))) ?_; rintro e w6 ⟨rfl, hw6⟩; obtain rfl := hw6.symm)))
   go_wp2
   go_ret2
   exact ⟨rfl, K1.out.2.trans (hb5.mono K1.out.2.size)⟩
  ·have hkr' : ((k : Int) != r) = true := by simp; exact hkr
   clear h hL hno h16 hkr hr KA
   go_enter Tryz.func134, Tryz.ntmps134
   go_wp2_with fail
   rw [← HW1.out]
   go_region_with (go_at_call 168; refine Calls.mono (KP.out _) ?_; rintro e w5 ⟨rfl, hb5'⟩; have hb5 := below_of_drew hb5'; clear hb5'; have h50 := (hb5.cell (p := ⟨w.heap.size, 0, none⟩) hlt).trans hc)
   all_goals go_wp2
   all_goals go_ret2
   all_goals exact ⟨rfl, K1.out.2.trans (hb5.mono K1.out.2.size)⟩
 ·have h16' : ((x.size : Int) != 16) = true := by simp; omega
  clear h hL hno h16 hr KA
  go_enter Tryz.func134, Tryz.ntmps134
  go_wp2_with fail
  rw [← HW1.out]
  go_quiet (fail)
  go_wp2
  go_ret2
  exact ⟨rfl, belowDrewN K1.out.2 _⟩
end Go.Proofs.YtmhcdkbgjjibeaaGreatDoor
namespace Go.Proofs.YtmhcdkbgjjibeaaGreatDoor
open Go.RowKit
def rowC (T : Nat → ByteArray) (m : Nat) : Array Value := (sL T 64 ++ [Value.int .i64 (m : Int)]).toArray
theorem rowC_size (T : Nat → ByteArray) (m : Nat) : (rowC T m).size = 65 := by simp [rowC, sL]
theorem rowC_get (T : Nat → ByteArray) (m i : Nat) (h : i < 64) : (rowC T m)[i]? = some (.string (T i)) := by
 unfold rowC
 rw [List.getElem?_toArray, List.getElem?_append_left (by rw [sL_len]; exact h), sL_get _ _ _ h]
theorem rowC_last (T : Nat → ByteArray) (m : Nat) : (rowC T m)[64]? = some (.int .i64 (m : Int)) := by
 unfold rowC
 rw [List.getElem?_toArray, List.getElem?_append_right (by rw [sL_len]; exact Nat.le_refl _), sL_len]
 rfl
theorem rowC_set (T : Nat → ByteArray) (m i : Nat) (s : ByteArray) (h : i < 64) : (rowC T m).setIfInBounds i (.string s) = rowC (fun j => if j = i then s else T j) m := by
 apply Array.ext'
 unfold rowC
 rw [Array.toList_setIfInBounds, List.toList_toArray, List.toList_toArray, List.set_append_left _ _ (by rw [sL_len]; exact h), sL_set _ _ _ _ h]
theorem rowC_congr {T T' : Nat → ByteArray} (m : Nat) (h : ∀ i, i < 64 → T i = T' i) : rowC T m = rowC T' m := by unfold rowC; rw [sL_congr h]
theorem rowC_one (T : Nat → ByteArray) (m : Nat) : (rowC T m).all (·.oneCell') = true := by
 unfold rowC
 simp [sL, Value.oneCell']
def RwV (T : Nat → ByteArray) (m : Nat) : Value := .agg (rowC T m)
def noT : Nat → ByteArray := fun _ => ByteArray.empty
theorem Tryz.infoRw : (Tryz.prog.info? 225).map (·.size) = some 65 := by kernel_rfl
theorem Tryz.zeroRw : (Tryz.prog.info? 225).bind (·.zero) = some (RwV noT 0) := by kernel_rfl
theorem Tryz.builtRw0 : Tryz.prog.built 225 [] = some (rowC noT 0) := by kernel_rfl
theorem Tryz.builtRw (m : Nat) : Tryz.prog.built 225 [(1, .int .i64 (m : Int))] = some (rowC noT m) := by kernel_rfl
theorem run_allocRw (w : World) : (Instr.alloc 225 true (.tuple #[])).run Tryz.prog w = .ok (.pointer (some ⟨w.heap.size, 0, none⟩)) (w.alloc (.cells (rowC noT 0) 225)) := by
 have hz := Tryz.zeroRw
 cases hit : Tryz.prog.info? 225 with
 | none => simp [hit] at hz
 | some it =>
  simp [hit] at hz
  have ha : (zeroValue 225).run Tryz.prog w = .ok (RwV noT 0) w := by simp [zeroValue, typeInfo, hit, hz]
  unfold Instr.alloc
  simp only [Sem.run_bind, ha, Result.andThen_ok]
  rfl
section
variable {P : Program} {F : Fence} {n : Nat} {ops : Array Oper} {rest : List Oper} {o : Oper} {a : Act} {w : World} {Q : Exit → Act → World → Prop}
theorem in_value (hg : o.guard = none) (hnd : ∀ c, o.op ≠ .defer c) (hab : o.about P w a.eval = none) (v : Value) (w' : World) (hrun : (execOp a.eval o).run P w = .ok (.value v) w')
  (h : wpListIn F n P ops Q rest (a.put o.dst v) w') : wpListIn F n P ops Q (o :: rest) a w := by
 refine wpListIn_plain hg fun K hK => ?_
 unfold Oper.wpIn
 rw [Oper.semAt_plain F _ _ hnd, hrun, Oper.uponIn_value]
 exact ⟨fun f hf => (by rw [hab] at hf; cases hf), hK _ _ h⟩
theorem in_skip (hg : o.guard = none) (hnd : ∀ c, o.op ≠ .defer c) (hab : o.about P w a.eval = none) (w' : World) (hrun : (execOp a.eval o).run P w = .ok .skip w')
  (h : wpListIn F n P ops Q rest (a.put o.dst undef) w') : wpListIn F n P ops Q (o :: rest) a w := by
 refine wpListIn_plain hg fun K hK => ?_
 unfold Oper.wpIn
 rw [Oper.semAt_plain F _ _ hnd, hrun, Oper.uponIn_skip]
 exact ⟨fun f hf => (by rw [hab] at hf; cases hf), hK _ _ h⟩
theorem p_value (hg : o.guard = none) (v : Value) (w' : World) (hrun : (execOp a.eval o).run P w = .ok (.value v) w')
  (h : wpList P ops Q rest (a.put o.dst v) w') : wpList P ops Q (o :: rest) a w := by
 refine wpList_plain hg fun K hK => ?_
 unfold Oper.wp
 rw [hrun, Oper.upon_value]
 exact hK _ _ h
theorem p_skip (hg : o.guard = none) (w' : World) (hrun : (execOp a.eval o).run P w = .ok .skip w')
  (h : wpList P ops Q rest (a.put o.dst undef) w') : wpList P ops Q (o :: rest) a w := by
 refine wpList_plain hg fun K hK => ?_
 unfold Oper.wp
 rw [hrun, Oper.upon_skip]
 exact hK _ _ h
end
section
variable {F : Fence} {n : Nat} {ops : Array Oper} {rest : List Oper} {o : Oper} {a : Act} {w : World} {Q : Exit → Act → World → Prop}
theorem x_alloc (ho : o.op = .alloc 225) : (execOp a.eval o).run Tryz.prog w = .ok (.value (.pointer (some ⟨w.heap.size, 0, none⟩))) (w.alloc (.cells (rowC noT 0) 225)) := by
 unfold execOp
 simp only [ho, Sem.run_bind, run_allocRw, Result.andThen_ok]
 rfl
theorem x_box (x : Operand) (ho : o.op = .box 225 x) (T : Nat → ByteArray) (m : Nat) (hx : a.eval x = RwV T m) : (execOp a.eval o).run Tryz.prog w = .ok (.value (.pointer (some ⟨w.heap.size, 0, none⟩))) (w.alloc (.cells (rowC T m) 225)) := by
 unfold execOp
 simp only [ho, hx, Sem.run_bind, Instr.box, newVar, newRow, run_newObj_alloc, Sem.run_pure, Result.andThen_ok]
 rfl
theorem x_load (x : Operand) (ho : o.op = .load 225 x) (g : Nat) (hx : a.eval x = .pointer (some ⟨g, 0, none⟩)) (T : Nat → ByteArray) (m : Nat) (hr : Row w g 225 (rowC T m)) : (execOp a.eval o).run Tryz.prog w = .ok (.value (RwV T m)) w := by
 unfold execOp
 simp only [ho, hx, Instr.loadAt, Instr.sureAddr, Sem.run_bind, Sem.run_pure, Result.andThen_ok, run_loadVar_row w g 225 225 (rowC T m) (0, 0) _ hr Tryz.underlying225 rfl (by rw [Tryz.infoRw, rowC_size])]
 rfl
theorem x_store (x y : Operand) (ho : o.op = .store 225 x y) (g : Nat) (hx : a.eval x = .pointer (some ⟨g, 0, none⟩)) (T : Nat → ByteArray) (m : Nat) (hy : a.eval y = RwV T m) (T' : Nat → ByteArray) (m' : Nat) (hr : Row w g 225 (rowC T' m')) :
  (execOp a.eval o).run Tryz.prog w = .ok .skip (w.setRow g (rowC T m)) := by
 unfold execOp
 have hy' : a.eval y = .agg (rowC T m) := hy
 simp only [ho, hx, hy', Instr.storeAt, Instr.sureAddr, Sem.run_bind, Sem.run_pure, Result.andThen_ok, run_storeVar_row w g 225 225 (rowC T' m') (rowC T m) hr (by rw [Tryz.infoRw, rowC_size]) (by rw [rowC_size, rowC_size]) (rowC_one T m)]
theorem x_build (x : Operand) (ho : o.op = .build 225 #[(1, x)]) (m : Nat) (hx : a.eval x = .int .i64 (m : Int)) : (execOp a.eval o).run Tryz.prog w = .ok (.value (RwV noT m)) w := by
 have hb := run_build (P := Tryz.prog) w 225 #[(1, .int .i64 (m : Int))] (rowC noT m) (Tryz.builtRw m)
 unfold execOp
 simp [ho, hx, hb]
 rfl
theorem x_build0 (ho : o.op = .build 225 #[]) : (execOp a.eval o).run Tryz.prog w = .ok (.value (RwV noT 0)) w := by
 have hb := run_build (P := Tryz.prog) w 225 #[] (rowC noT 0) Tryz.builtRw0
 unfold execOp
 simp [ho, hb]
 rfl
theorem p_alloc (hg : o.guard = none) (ho : o.op = .alloc 225) (h : wpList Tryz.prog ops Q rest (a.put o.dst (.pointer (some ⟨w.heap.size, 0, none⟩))) (w.alloc (.cells (rowC noT 0) 225))) : wpList Tryz.prog ops Q (o :: rest) a w := p_value hg _ _ (x_alloc ho) h
theorem p_box (hg : o.guard = none) (x : Operand) (ho : o.op = .box 225 x) (T : Nat → ByteArray) (m : Nat) (hx : a.eval x = RwV T m) (h : wpList Tryz.prog ops Q rest (a.put o.dst (.pointer (some ⟨w.heap.size, 0, none⟩))) (w.alloc (.cells (rowC T m) 225))) : wpList Tryz.prog ops Q (o :: rest) a w := p_value hg _ _ (x_box x ho T m hx) h
theorem p_load (hg : o.guard = none) (x : Operand) (ho : o.op = .load 225 x) (g : Nat) (hx : a.eval x = .pointer (some ⟨g, 0, none⟩)) (T : Nat → ByteArray) (m : Nat) (hr : Row w g 225 (rowC T m)) (h : wpList Tryz.prog ops Q rest (a.put o.dst (RwV T m)) w) : wpList Tryz.prog ops Q (o :: rest) a w := p_value hg _ _ (x_load x ho g hx T m hr) h
theorem p_store (hg : o.guard = none) (x y : Operand) (ho : o.op = .store 225 x y) (g : Nat) (hx : a.eval x = .pointer (some ⟨g, 0, none⟩)) (T : Nat → ByteArray) (m : Nat) (hy : a.eval y = RwV T m) (T' : Nat → ByteArray) (m' : Nat) (hr : Row w g 225 (rowC T' m'))
  (h : wpList Tryz.prog ops Q rest (a.put o.dst undef) (w.setRow g (rowC T m))) : wpList Tryz.prog ops Q (o :: rest) a w := p_skip hg _ (x_store x y ho g hx T m hy T' m' hr) h
theorem p_build (hg : o.guard = none) (x : Operand) (ho : o.op = .build 225 #[(1, x)]) (m : Nat) (hx : a.eval x = .int .i64 (m : Int)) (h : wpList Tryz.prog ops Q rest (a.put o.dst (RwV noT m)) w) : wpList Tryz.prog ops Q (o :: rest) a w := p_value hg _ _ (x_build x ho m hx) h
theorem p_build0 (hg : o.guard = none) (ho : o.op = .build 225 #[]) (h : wpList Tryz.prog ops Q rest (a.put o.dst (RwV noT 0)) w) : wpList Tryz.prog ops Q (o :: rest) a w := p_value hg _ _ (x_build0 ho) h
theorem i_alloc (hg : o.guard = none) (ho : o.op = .alloc 225) (h : wpListIn F n Tryz.prog ops Q rest (a.put o.dst (.pointer (some ⟨w.heap.size, 0, none⟩))) (w.alloc (.cells (rowC noT 0) 225))) : wpListIn F n Tryz.prog ops Q (o :: rest) a w := in_value hg (by rw [ho]; intro c hc; cases hc) (by simp [Oper.about, ho]) _ _ (x_alloc ho) h
theorem i_box (hg : o.guard = none) (x : Operand) (ho : o.op = .box 225 x) (T : Nat → ByteArray) (m : Nat) (hx : a.eval x = RwV T m) (h : wpListIn F n Tryz.prog ops Q rest (a.put o.dst (.pointer (some ⟨w.heap.size, 0, none⟩))) (w.alloc (.cells (rowC T m) 225))) : wpListIn F n Tryz.prog ops Q (o :: rest) a w := in_value hg (by rw [ho]; intro c hc; cases hc) (by simp [Oper.about, ho]) _ _ (x_box x ho T m hx) h
theorem i_load (hg : o.guard = none) (x : Operand) (ho : o.op = .load 225 x) (g : Nat) (hx : a.eval x = .pointer (some ⟨g, 0, none⟩)) (T : Nat → ByteArray) (m : Nat) (hr : Row w g 225 (rowC T m)) (h : wpListIn F n Tryz.prog ops Q rest (a.put o.dst (RwV T m)) w) : wpListIn F n Tryz.prog ops Q (o :: rest) a w := in_value hg (by rw [ho]; intro c hc; cases hc) (by simp [Oper.about, ho]) _ _ (x_load x ho g hx T m hr) h
theorem i_store (hg : o.guard = none) (x y : Operand) (ho : o.op = .store 225 x y) (g : Nat) (hx : a.eval x = .pointer (some ⟨g, 0, none⟩)) (T : Nat → ByteArray) (m : Nat) (hy : a.eval y = RwV T m) (T' : Nat → ByteArray) (m' : Nat) (hr : Row w g 225 (rowC T' m'))
  (h : wpListIn F n Tryz.prog ops Q rest (a.put o.dst undef) (w.setRow g (rowC T m))) : wpListIn F n Tryz.prog ops Q (o :: rest) a w := in_skip hg (by rw [ho]; intro c hc; cases hc) (by simp [Oper.about, ho]) _ (x_store x y ho g hx T m hy T' m' hr) h
end
end Go.Proofs.YtmhcdkbgjjibeaaGreatDoor
namespace Go.Proofs.YtmhcdkbgjjibeaaGreatDoor
open Gt (nb hf up jn)
def upTo (k m : Nat) (T : Nat → ByteArray) : Nat → ByteArray := fun i => if i < k then up m T i else ByteArray.empty
theorem results_row {fn : Func} {p : Tmp} (h : fn.results = #[.cell p 225]) (tmps : Array Value) (w : World) (g : Nat) (T : Nat → ByteArray) (m : Nat)
  (hp : tmps.getD p undef = .pointer (some ⟨g, 0, none⟩)) (hr : Row w g 225 (rowC T m)) : (results fn tmps).run Tryz.prog w = .ok (RwV T m) w :=
 results_cell_row h tmps w g 225 (rowC T m) (0, 0) _ hp hr Tryz.underlying225 rfl (by rw [Tryz.infoRw, rowC_size])
theorem upTo_set (k m : Nat) (T : Nat → ByteArray) (s : ByteArray) (hs : s = up m T k) : (fun j => if j = k then s else upTo k m T j) = upTo (k + 1) m T := by
 funext j
 unfold upTo
 by_cases e : j = k
 ·subst e; simp [hs]
 ·by_cases e2 : j < k
  ·simp [e, e2, show j < k + 1 by omega]
  ·simp [e, e2, show ¬ j < k + 1 by omega]
theorem upTo_set2 (k m : Nat) (T : Nat → ByteArray) (r s : ByteArray) (hs : s = up m T k) : (fun j => if j = k then s else (if j = k then r else upTo k m T j)) = upTo (k + 1) m T := by
 rw [← upTo_set k m T s hs]
 funext j
 by_cases e : j = k <;> simp [e]
theorem rowAbove_any (T : Nat → ByteArray) (m : Nat) (w : World) (hm : 1 ≤ m) (hm64 : m ≤ 64) (hS : ∀ i, i < m → (T i).size = 16) :
  Calls Tryz.prog 179 #[RwV T m] w fun e w' => e = .returned (RwV (up m T) (hf m)) ∧ Below w.heap.size w w' := by
 have hq : hf m ≤ 32 := by unfold hf; omega
 have hmq : hf m ≤ m := by unfold hf; omega
 obtain ⟨q, Hq⟩ : ∃ q, Hid (hf m = q) := ⟨_, rfl⟩
 have KA : Hid (∀ W, Calls Tryz.prog 190 #[.int .i64 (m : Int)] W fun e w' => e = .returned (.int .i64 (q : Int)) ∧ w' = W) := fun W => by rw [← Hq.out]; exact sizeAbove_any m W (by omega)
 rw [Hq.out] at hq hmq ⊢
 obtain ⟨B, hB⟩ : ∃ B, w.heap.size = B := ⟨_, rfl⟩
 obtain ⟨w1, HW1⟩ : ∃ w1, Hid (w1 = w.alloc (.cells (rowC T m) 225)) := ⟨_, rfl⟩
 have K1 : Hid (Row w1 B 225 (rowC T m) ∧ Below B w w1 ∧ w1.heap.size = B + 1) := by rw [HW1.out, ← hB]; exact ⟨Row.new w _ _, (Below.refl _ _).alloc (Nat.le_refl _) _, by simp⟩
 obtain ⟨w2, HW2⟩ : ∃ w2, Hid (w2 = w1.alloc (.cells (rowC noT 0) 225)) := ⟨_, rfl⟩
 have K2 : Hid (Row w2 B 225 (rowC T m) ∧ Row w2 (B + 1) 225 (rowC noT 0) ∧ Below B w w2 ∧ w2.heap.size = B + 2) := by
  rw [HW2.out]
  have h1 := K1.out.2.2
  refine ⟨K1.out.1.alloc _, ?_, K1.out.2.1.alloc (by omega) _, by simp; omega⟩
  have := Row.new w1 (rowC noT 0) 225
  rw [h1] at this
  exact this
 obtain ⟨w3, HW3⟩ : ∃ w3, Hid (w3 = w2.alloc (.cells (rowC noT q) 225)) := ⟨_, rfl⟩
 have HS3 : Hid ((w2.alloc (.cells (rowC noT 0) 225)).setRow w2.heap.size (rowC noT q) = w3) := by rw [HW3.out]; exact setRow_alloc _ _ _ _
 have K3 : Hid (Row w3 B 225 (rowC T m) ∧ Row w3 (B + 1) 225 (rowC noT 0) ∧ Row w3 (B + 2) 225 (rowC noT q) ∧ Below B w w3) := by
  rw [HW3.out]
  have h1 := K2.out.2.2.2
  refine ⟨K2.out.1.alloc _, K2.out.2.1.alloc _, ?_, K2.out.2.2.1.alloc (by omega) _⟩
  have := Row.new w2 (rowC noT q) 225
  rw [h1] at this
  exact this
 have hz1 := K1.out.2.2
 have hz2 := K2.out.2.2.2
 have c64 : w2.cell? ⟨B, 64, none⟩ = some (.int .i64 (m : Int)) := by rw [K2.out.1.cell 64, rowC_last]
 have d64 : w3.cell? ⟨B + 2, 64, none⟩ = some (.int .i64 (q : Int)) := by rw [K3.out.2.2.1.cell 64, rowC_last]
 have KT : Hid (∀ i, i < m → (T i).size = 16) := hS
 clear hS
 go_enter Tryz.func179, Tryz.ntmps179
 go_wp2_with (first | (refine p_box (by rfl) _ (by rfl) T m (by rfl) ?_; rw [← HW1.out]) | (refine p_alloc (by rfl) (by rfl) ?_; first | rw [← HW2.out] | skip) | (refine p_build (by rfl) _ (by rfl) q (by rfl) ?_) | (refine p_store (by rfl) _ _ (by rfl) w2.heap.size (by rfl) noT q (by rfl) noT 0 (Row.new w2 _ _) ?_; rw [HS3.out]) | (go_at_call 190; refine (KA.out _).mono ?_; rintro e w' ⟨rfl, hw⟩; obtain rfl := hw.symm))
 go_loopw [14] (fun vi wr => ∃ k : Nat, k ≤ q ∧ vi = .int .i64 (k : Int) ∧ Row wr B 225 (rowC T m) ∧ Row wr (B + 1) 225 (rowC noT 0) ∧ Row wr (B + 2) 225 (rowC (upTo k m T) q) ∧ Below B w wr) (fun vi _ => q - (intOf vi).toNat)
 case atStart =>
  refine ⟨0, Nat.zero_le _, rfl, K3.out.1, K3.out.2.1, ?_, K3.out.2.2.2⟩
  have := K3.out.2.2.1
  rw [rowC_congr q (T' := upTo 0 m T) (fun i _ => by simp [noT, upTo])] at this
  exact this
 case round =>
  obtain ⟨k, hk, rfl, r0, r1, r2, hbel⟩ := hrel
  clear c64 d64 hz1 hz2 K1 K2 K3 HW1 HW2 HW3 HS3 KA
  by_cases hlt : k < q
  ·have hlti : (k : Int) < (q : Int) := by omega
   have h2k : 2 * k < m := by have := Hq.out; unfold hf at this; omega
   have c64 : wr.cell? ⟨B, 64, none⟩ = some (.int .i64 (m : Int)) := by rw [r0.cell 64, rowC_last]
   obtain ⟨p, hp⟩ : ∃ p, 2 * k = p := ⟨_, rfl⟩
   have hw2 : IntKind.i64.wrap (2 * (k : Int)) = (p : Int) := by rw [IntKind.wrap_i64]; omega
   have hp64 : (p : Int) < 64 := by omega
   have h2k' : p < m := by omega
   have hk64' : k < 64 := by omega
   have hk64 : (k : Int) < 64 := by omega
   obtain ⟨R, hR⟩ : ∃ R, wr.heap.size = R := ⟨_, rfl⟩
   have hRB : B + 2 < R := by have := r2.lt; omega
   obtain ⟨w4, HW4⟩ : ∃ w4, Hid (w4 = wr.alloc (.cells #[.int .i64 (p : Int), .int .i64 (m : Int)] 235)) := ⟨_, rfl⟩
   have K4 : Hid (Row w4 B 225 (rowC T m) ∧ Row w4 (B + 1) 225 (rowC noT 0) ∧ Row w4 (B + 2) 225 (rowC (upTo k m T) q) ∧ Row w4 R 235 #[.int .i64 (p : Int), .int .i64 (m : Int)] ∧ Below B w w4) := by
    rw [HW4.out, ← hR]
    exact ⟨r0.alloc _, r1.alloc _, r2.alloc _, Row.new wr _ _, hbel.alloc (by omega) _⟩
   obtain ⟨w5, HW5⟩ : ∃ w5, Hid (w5 = (wr.setCell ⟨B + 2, k, none⟩ (.string (T p))).alloc (.cells #[.int .i64 (p : Int), .int .i64 (m : Int)] 235)) := ⟨_, rfl⟩
   have K5 : Hid (Row w5 B 225 (rowC T m) ∧ Row w5 (B + 1) 225 (rowC noT 0) ∧ Row w5 (B + 2) 225 (rowC (fun j => if j = k then T p else upTo k m T j) q) ∧ Row w5 R 235 #[.int .i64 (p : Int), .int .i64 (m : Int)] ∧ Below B w w5) := by
    rw [HW5.out]
    refine ⟨(r0.other _ _ (by omega)).alloc _, (r1.other _ _ (by omega)).alloc _, ?_, ?_, (hbel.setCell (by simp) _).alloc (by simp; omega) _⟩
    ·have := r2.set k (.string (T p))
     rw [rowC_set _ _ _ _ (by omega)] at this
     exact this.alloc _
    ·have := Row.new (wr.setCell ⟨B + 2, k, none⟩ (.string (T p))) #[.int .i64 (p : Int), .int .i64 (m : Int)] 235
     rw [show (wr.setCell ⟨B + 2, k, none⟩ (.string (T p))).heap.size = R by simp [hR]] at this
     exact this
   have e0 := K4.out.2.2.2.1.cell 0
   have e1 : w4.cell? ⟨B, p, none⟩ = some (.string (T p)) := by rw [K4.out.1.cell p, rowC_get _ _ _ (by omega)]
   have e2 : w4.cell? ⟨B + 2, k, none⟩ = some (.string (upTo k m T k)) := by rw [K4.out.2.2.1.cell k, rowC_get _ _ _ (by omega)]
   have g2 := K4.out.2.2.1.free k
   have s0 := K5.out.2.2.2.1.cell 0
   have s1 := K5.out.2.2.2.1.cell 1
   simp at e0 s0 s1
   generalize upTo k m T k = old at e2
   obtain ⟨tp, htp⟩ : ∃ tp, T p = tp := ⟨_, rfl⟩
   rw [htp] at e1
   have HW5' : Hid ((wr.setCell ⟨B + 2, k, none⟩ (.string tp)).alloc (.cells #[.int .i64 (p : Int), .int .i64 (m : Int)] 235) = w5) := by show _ = _; rw [HW5.out, htp]
   rw [← HW5'.out] at s0 s1
   rw [HW4.out] at e0 e1 e2 g2
   have KN : Hid (∀ w0, Calls Tryz.prog 186 #[SpV (p : Int) (m : Int)] w0 fun e w' => e = .returned (.tuple #[.int .i64 ((p + 1 : Nat) : Int), .bool (decide (p + 1 < m))]) ∧ Below w0.heap.size w0 w') := by
    have hnb : nb p = p + 1 := by unfold nb; rw [if_pos (by omega)]
    have := fun w0 => neighbour_any p m w0 (by omega)
    rw [hnb] at this
    exact this
   obtain ⟨p1, hp1⟩ : ∃ p1, p + 1 = p1 := ⟨_, rfl⟩
   rw [hp1] at KN
   clear hbel r0 r1 r2
   go_wp2_with fail
   rw [HW5'.out]
   refine (KN.out _).mono ?_
   rintro e w6 ⟨rfl, hb6⟩
   have K6 : Hid (Row w6 B 225 (rowC T m) ∧ Row w6 (B + 1) 225 (rowC noT 0) ∧ Row w6 (B + 2) 225 (rowC (fun j => if j = k then T p else upTo k m T j) q) ∧ Row w6 R 235 #[.int .i64 (p : Int), .int .i64 (m : Int)] ∧ Below B w w6) := by
    obtain ⟨a0, a1, a2, a3, a4⟩ := K5.out
    exact ⟨a0.below hb6 a0.lt, a1.below hb6 a1.lt, a2.below hb6 a2.lt, a3.below hb6 a3.lt, a4.trans (hb6.mono (by have := a0.lt; omega))⟩
   clear e0 e1 e2 g2 s0 s1 c64 HW5' HW5 HW4 K4 K5 hb6
   by_cases hok : p1 < m
   ·have hd : decide (p1 < m) = true := by simpa using hok
    have HU : Hid (jn tp (T p1) = up m T k) := by
     show _ = _
     unfold up
     rw [if_pos (by omega), show 2 * k + 1 = p1 by omega, hp, htp]
    obtain ⟨t1, ht1⟩ : ∃ t1, T p1 = t1 := ⟨_, rfl⟩
    have z0 := KT.out p h2k'
    have z1 := KT.out p1 hok
    rw [htp] at z0
    rw [ht1] at z1 HU
    have HJ : Hid (∀ w0, Calls Tryz.prog 171 #[.string tp, .string t1] w0 fun e w' => e = .returned (.string (jn tp t1)) ∧ Below w0.heap.size w0 w') := fun w0 => join_any _ _ w0 (by omega) (by omega)
    have e0 := K6.out.2.2.2.1.cell 0
    have e1 : w6.cell? ⟨B, p, none⟩ = some (.string tp) := by rw [K6.out.1.cell p, rowC_get _ _ _ (by omega), htp]
    have e2 : w6.cell? ⟨B, p1, none⟩ = some (.string t1) := by rw [K6.out.1.cell p1, rowC_get _ _ _ (by omega), ht1]
    have hp164 : (p1 : Int) < 64 := by omega
    simp at e0
    have lB := K6.out.1.lt
    have hne1 : ¬ R = B + 2 := by omega
    have hne2 : ¬ B + 2 = R := by omega
    have lR := K6.out.2.2.2.1.lt
    generalize jn tp t1 = z at HJ HU
    clear htp ht1 z0 z1 hok
    go_wp2_with fail
    go_region_held3 (fun w' => w'.cell? ⟨R, 0, none⟩ = some (.int .i64 (p : Int)) ∧ w'.cell? ⟨B, p, none⟩ = some (.string tp) ∧ w'.cell? ⟨B, p1, none⟩ = some (.string t1)) (go_keep) ((go_at_call 171; refine Calls.mono (HJ.out _) ?_; rintro e w9 ⟨rfl, hb9'⟩; have hb9 := below_of_drew hb9'; clear hb9'; have g0 := (hb9.cell (p := ⟨R, 0, none⟩) lR).trans e0; have g1 := (hb9.cell (p := ⟨B, p, none⟩) lB).trans e1; have g2 := (hb9.cell (p := ⟨B, p1, none⟩) lB).trans e2; have g3 := (K6.out.2.2.1.below hb9 K6.out.2.2.1.lt).cell k; have g4 := (K6.out.2.2.1.below hb9 K6.out.2.2.1.lt).free k; rw [rowC_get _ _ _ hk64'] at g3))
    have HR : Hid (Row (w9.setCell ⟨B + 2, k, none⟩ (.string z)) B 225 (rowC T m) ∧ Row (w9.setCell ⟨B + 2, k, none⟩ (.string z)) (B + 1) 225 (rowC noT 0) ∧ Row (w9.setCell ⟨B + 2, k, none⟩ (.string z)) (B + 2) 225 (rowC (upTo (k + 1) m T) q) ∧ Below B w (w9.setCell ⟨B + 2, k, none⟩ (.string z))) := by
     obtain ⟨a0, a1, a2, a3, a4⟩ := K6.out
     refine ⟨(a0.below hb9 a0.lt).other _ _ (by omega), (a1.below hb9 a1.lt).other _ _ (by omega), ?_, (a4.trans (hb9.mono (Nat.le_of_lt a0.lt))).setCell (by simp) _⟩
     have := (a2.below hb9 a2.lt).set k (.string z)
     rw [rowC_set _ _ _ _ hk64', upTo_set2 k m T _ _ HU.out] at this
     exact this
    clear g0 g1 g2 g3 g4 e0 e1 e2
    go_wp2
    go_roundw
    case rel => exact ⟨k + 1, by omega, by go_num, HR.out.1, HR.out.2.1, HR.out.2.2.1, HR.out.2.2.2⟩
    case measure => simp [intOf]; omega
   ·have hd : decide (p1 < m) = false := by simpa using hok
    have HU : Hid (T p = up m T k) := by
     show _ = _
     unfold up
     rw [if_neg (by omega), if_pos (by omega), hp]
    have HR : Hid (Row w6 (B + 2) 225 (rowC (upTo (k + 1) m T) q)) := by
     have := K6.out.2.2.1
     rw [upTo_set k m T _ HU.out] at this
     exact this
    go_wp2
    go_roundw
    case rel => exact ⟨k + 1, by omega, by go_num, K6.out.1, K6.out.2.1, HR.out, K6.out.2.2.2.2⟩
    case measure => simp [intOf]; omega
  ·obtain rfl : k = q := by omega
   have HE : Hid (rowC (upTo k m T) k = rowC (up m T) k) := by
    show _ = _
    refine rowC_congr k (fun i _ => ?_)
    unfold upTo
    by_cases e : i < k
    ·rw [if_pos e]
    ·rw [if_neg e, Gt.up_pad m T i (by have := Hq.out; omega)]
   rw [HE.out] at r2
   have HF : Hid (Row (wr.setRow (B + 1) (rowC (up m T) k)) (B + 1) 225 (rowC (up m T) k) ∧ Below B w (wr.setRow (B + 1) (rowC (up m T) k))) := ⟨r1.row, belowSetRow hbel (by omega) _⟩
   go_wp2_with (first | (refine p_load (by rfl) _ (by rfl) (B + 2) (by rfl) (up m T) k r2 ?_) | (refine p_store (by rfl) _ _ (by rfl) (B + 1) (by rfl) (up m T) k (by rfl) noT 0 r1 ?_))
   refine bodyPost_ret (results_row Tryz.results179 _ _ (B + 1) (up m T) k (by rfl) HF.out.1) rfl ⟨rfl, ?_⟩
   rw [hB]
   exact HF.out.2
end Go.Proofs.YtmhcdkbgjjibeaaGreatDoor
namespace Go.Proofs.YtmhcdkbgjjibeaaGreatDoor
def padT (n : Nat) (S : Nat → ByteArray) : Nat → ByteArray := fun i => if i < n then S i else ByteArray.empty
theorem rowC_copy (S : Nat → ByteArray) (n : Nat) (hn : n ≤ 64) : ((rowC noT n).toList.take 0 ++ sL S n ++ (rowC noT n).toList.drop (0 + (sL S n).length)).toArray = rowC (padT n S) n := by
 apply Array.ext'
 apply List.ext_getElem?
 intro i
 rw [List.toList_toArray, List.take_zero, List.nil_append, sL_len, Nat.zero_add]
 have e : (rowC (padT n S) n).toList[i]? = (rowC (padT n S) n)[i]? := Array.getElem?_toList ..
 have e0 : ∀ j, (rowC noT n).toList[j]? = (rowC noT n)[j]? := fun j => Array.getElem?_toList ..
 rw [e]
 by_cases h1 : i < n
 ·rw [List.getElem?_append_left (by rw [sL_len]; exact h1), sL_get _ _ _ h1, rowC_get _ _ _ (by omega)]
  simp [padT, h1]
 ·rw [List.getElem?_append_right (by rw [sL_len]; omega), sL_len, List.getElem?_drop, show n + (i - n) = i by omega, e0]
  by_cases h2 : i < 64
  ·rw [rowC_get _ _ _ h2, rowC_get _ _ _ h2]
   simp [padT, noT, h1]
  ·by_cases h3 : i = 64
   ·subst h3; rw [rowC_last, rowC_last]
   ·rw [Array.getElem?_eq_none (by rw [rowC_size]; omega), Array.getElem?_eq_none (by rw [rowC_size]; omega)]
theorem results_row_flag {fn : Func} {p q : Tmp} (h : fn.results = #[.cell p 225, .tmp q]) (tmps : Array Value) (w : World) (g : Nat) (T : Nat → ByteArray) (m : Nat) (v : Value)
  (hp : tmps.getD p undef = .pointer (some ⟨g, 0, none⟩)) (hq : tmps.getD q undef = v) (hr : Row w g 225 (rowC T m)) : (results fn tmps).run Tryz.prog w = .ok (.tuple #[RwV T m, v]) w := by
 have hp' : tmps[p]?.getD undef = .pointer (some ⟨g, 0, none⟩) := by simpa using hp
 have hq' : tmps[q]?.getD undef = v := by simpa using hq
 simp [results, h, hp', hq', asAddr, run_loadVar_row w g 225 225 (rowC T m) (0, 0) _ hr Tryz.underlying225 rfl (by rw [Tryz.infoRw, rowC_size])]
 rfl
theorem leafRow_no (a : Option Addr) (n cap : Nat) (S : Nat → ByteArray) (w : World) (h : TxtAt w a n S) (hn : n ≤ 1048576) (hL : ∀ i, i < n → (S i).size ≤ maxLen) (hno : lvB n S = false) :
  Calls Tryz.prog 150 #[.slice a n cap] w fun e w' => e = .returned (.tuple #[RwV noT 0, .bool false]) ∧ Below w.heap.size w w' := by
 obtain ⟨w1, HW1⟩ : ∃ w1, Hid (w1 = w.alloc (.cells (rowC noT 0) 225)) := ⟨_, rfl⟩
 have K1 : Hid (Row w1 w.heap.size 225 (rowC noT 0) ∧ Below w.heap.size w w1) := by rw [HW1.out]; exact ⟨Row.new w _ _, (Below.refl _ _).alloc (Nat.le_refl _) _⟩
 have KA : Hid (Calls Tryz.prog 169 #[.slice a n cap] w1 fun e w' => e = .returned (.bool (aS n S)) ∧ w' = w1) := areSums_any a n cap S w1 (h.below K1.out.2) hn hL
 have HF : Hid (Row (w1.setRow w.heap.size (rowC noT 0)) w.heap.size 225 (rowC noT 0) ∧ Below w.heap.size w (w1.setRow w.heap.size (rowC noT 0))) := ⟨K1.out.1.row, belowSetRow K1.out.2 (Nat.le_refl _) _⟩
 by_cases h1 : n < 1
 ·have h1' : (n : Int) < 1 := by omega
  clear h hL KA
  go_enter Tryz.func150, Tryz.ntmps150
  go_wp2_with (first | (refine p_alloc (by rfl) (by rfl) ?_; rw [← HW1.out]) | (refine p_build0 (by rfl) (by rfl) ?_) | (refine p_store (by rfl) _ _ (by rfl) w.heap.size (by rfl) noT 0 (by rfl) noT 0 K1.out.1 ?_))
  refine bodyPost_ret (results_row_flag Tryz.results150 _ _ w.heap.size noT 0 _ (by rfl) (by rfl) HF.out.1) rfl ⟨rfl, HF.out.2⟩
 ·have h1' : ¬ (n : Int) < 1 := by omega
  by_cases h2 : 64 < n
  ·have h2' : (64 : Int) < (n : Int) := by omega
   clear h hL KA
   go_enter Tryz.func150, Tryz.ntmps150
   go_wp2_with (first | (refine p_alloc (by rfl) (by rfl) ?_; rw [← HW1.out]) | (refine p_build0 (by rfl) (by rfl) ?_) | (refine p_store (by rfl) _ _ (by rfl) w.heap.size (by rfl) noT 0 (by rfl) noT 0 K1.out.1 ?_))
   refine bodyPost_ret (results_row_flag Tryz.results150 _ _ w.heap.size noT 0 _ (by rfl) (by rfl) HF.out.1) rfl ⟨rfl, HF.out.2⟩
  ·have h2' : ¬ (64 : Int) < (n : Int) := by omega
   have haS : aS n S = false := by
    unfold lvB at hno
    rw [inB_true (by omega)] at hno
    simpa using hno
   rw [haS] at KA
   clear h hL hno haS
   go_enter Tryz.func150, Tryz.ntmps150
   go_wp2_with (first | (refine p_alloc (by rfl) (by rfl) ?_; rw [← HW1.out]) | (refine p_build0 (by rfl) (by rfl) ?_) | (refine p_store (by rfl) _ _ (by rfl) w.heap.size (by rfl) noT 0 (by rfl) noT 0 K1.out.1 ?_) | (go_at_call 169; refine KA.out.mono ?_; rintro e w' ⟨rfl, hw⟩; obtain rfl := hw.symm))
   refine bodyPost_ret (results_row_flag Tryz.results150 _ _ w.heap.size noT 0 _ (by rfl) (by rfl) HF.out.1) rfl ⟨rfl, HF.out.2⟩
theorem leafRow_yes (a : Option Addr) (n cap : Nat) (S : Nat → ByteArray) (w : World) (h : TxtAt w a n S) (hyes : lvB n S = true) :
  Calls Tryz.prog 150 #[.slice a n cap] w fun e w' => e = .returned (.tuple #[RwV (padT n S) n, .bool true]) ∧ Below w.heap.size w w' := by
 unfold lvB at hyes
 rw [Bool.and_eq_true] at hyes
 have hn : 1 ≤ n ∧ n ≤ 64 := by
  have := hyes.2
  unfold inB at this
  simp at this
  omega
 have hS := aS_iff.1 hyes.1
 obtain ⟨w1, HW1⟩ : ∃ w1, Hid (w1 = w.alloc (.cells (rowC noT 0) 225)) := ⟨_, rfl⟩
 have K1 : Hid (Row w1 w.heap.size 225 (rowC noT 0) ∧ Below w.heap.size w w1 ∧ w1.heap.size = w.heap.size + 1) := by rw [HW1.out]; exact ⟨Row.new w _ _, (Below.refl _ _).alloc (Nat.le_refl _) _, by simp⟩
 have KA : Hid (Calls Tryz.prog 169 #[.slice a n cap] w1 fun e w' => e = .returned (.bool true) ∧ w' = w1) := by
  have := areSums_any a n cap S w1 (h.below K1.out.2.1) (by omega) (fun i hi => by rw [hS i hi]; unfold maxLen; omega)
  rw [hyes.1] at this
  exact this
 obtain ⟨w2, HW2⟩ : ∃ w2, Hid (w2 = w1.alloc (.cells (rowC noT n) 225)) := ⟨_, rfl⟩
 have HS2 : Hid ((w1.alloc (.cells (rowC noT 0) 225)).setRow w1.heap.size (rowC noT n) = w2) := by rw [HW2.out]; exact setRow_alloc _ _ _ _
 have K2 : Hid (Row w2 w.heap.size 225 (rowC noT 0) ∧ Row w2 (w.heap.size + 1) 225 (rowC noT n) ∧ Below w.heap.size w w2) := by
  rw [HW2.out]
  refine ⟨K1.out.1.alloc _, ?_, K1.out.2.1.alloc (by have := K1.out.2.2; omega) _⟩
  have := Row.new w1 (rowC noT n) 225
  rw [K1.out.2.2] at this
  exact this
 obtain ⟨b, off, rfl, hcc⟩ := (h.below K2.out.2.2).some (by omega)
 obtain ⟨w3, HW3⟩ : ∃ w3, Hid (w3 = w2.setRow (w.heap.size + 1) (rowC (padT n S) n)) := ⟨_, rfl⟩
 have K3 : Hid (Row w3 w.heap.size 225 (rowC noT 0) ∧ Row w3 (w.heap.size + 1) 225 (rowC (padT n S) n) ∧ Below w.heap.size w w3) := by
  rw [HW3.out]
  exact ⟨K2.out.1.otherRow (by omega), K2.out.2.1.row, belowSetRow K2.out.2.2 (by omega) _⟩
 have hcp : (Builtin.copy_ #[46, 46] 3 #[.slice (some ⟨w.heap.size + 1, 0, none⟩) 64 64, .slice (some ⟨b, off, none⟩) n cap]).run Tryz.prog w2 = .ok (goInt n) w3 := by
  have := run_copy_row (P := Tryz.prog) w2 46 46 3 9 (w.heap.size + 1) 0 64 64 ⟨b, off, none⟩ n cap (rowC noT n) 225 (sL S n) Tryz.underlying46 (by
    have := Tryz.infoStr
    cases hi : Tryz.prog.info? 9 with
    | none => rw [hi] at this; simp at this
    | some i => rw [hi] at this; simp at this; simp [this.2.1]) K2.out.2.1 (by rw [sL_len]; exact (Nat.min_eq_left hn.2).symm) (fun j v hv => by
    have hj : j < n := by
     have := (List.getElem?_eq_some_iff.1 hv).1
     rwa [sL_len] at this
    rw [sL_get _ _ _ hj] at hv
    cases hv
    have ea : (⟨b, off, none⟩ : Addr).add j = ⟨b, off + j, none⟩ := by unfold Addr.add; split <;> simp_all
    rw [ea]
    exact hcc j hj) (by rw [sL_len, rowC_size]; omega) (fun v hv => by
    unfold sL at hv
    simp at hv
    obtain ⟨i, _, rfl⟩ := hv
    rfl)
  rw [rowC_copy S n hn.2, sL_len, ← HW3.out] at this
  exact this
 have h1' : ¬ (n : Int) < 1 := by omega
 have h2' : ¬ (64 : Int) < (n : Int) := by omega
 have HF : Hid (Row (w3.setRow w.heap.size (rowC (padT n S) n)) w.heap.size 225 (rowC (padT n S) n) ∧ Below w.heap.size w (w3.setRow w.heap.size (rowC (padT n S) n))) := ⟨K3.out.1.row, belowSetRow K3.out.2.2 (Nat.le_refl _) _⟩
 have hz1 := K1.out.2.2
 clear h hyes hS hcc
 go_enter Tryz.func150, Tryz.ntmps150
 go_wp2_with (first | (refine p_alloc (by rfl) (by rfl) ?_; first | rw [← HW1.out] | skip) | (refine p_build (by rfl) _ (by rfl) n (by rfl) ?_) | (refine p_store (by rfl) _ _ (by rfl) w1.heap.size (by rfl) noT n (by rfl) noT 0 (Row.new w1 _ _) ?_; rw [HS2.out]) | (refine p_load (by rfl) _ (by rfl) (w.heap.size + 1) (by rfl) (padT n S) n K3.out.2.1 ?_) | (refine p_store (by rfl) _ _ (by rfl) w.heap.size (by rfl) (padT n S) n (by rfl) noT 0 K3.out.1 ?_) | (go_at_call 169; refine KA.out.mono ?_; rintro e w' ⟨rfl, hw⟩; obtain rfl := hw.symm))
 refine bodyPost_ret (results_row_flag Tryz.results150 _ _ w.heap.size (padT n S) n _ (by rfl) (by rfl) HF.out.1) rfl ⟨rfl, HF.out.2⟩
end Go.Proofs.YtmhcdkbgjjibeaaGreatDoor
namespace Go.Proofs.YtmhcdkbgjjibeaaGreatDoor
open Go.ChangeShapes Go.WideShapes Go.ChangeAt Go.RowKit Go.Shelf
open Gt (hf up)
abbrev RSt := Bool × Nat × (Nat → ByteArray)
abbrev rEnc (s : RSt) : Array Value := #[RwV s.2.2 s.2.1]
abbrev rOk (s : RSt) : Prop := s.1 = false ∧ 1 ≤ s.2.1 ∧ s.2.1 ≤ 64 ∧ ∀ i, i < s.2.1 → (s.2.2 i).size = 16
def rNx (s : RSt) : RSt := if s.2.1 ≤ 1 then (true, s.2.1, s.2.2) else (false, hf s.2.1, up s.2.1 s.2.2)
abbrev rFin (s : RSt) : Prop := s.1 = true
theorem rows_iter (T0 : Nat → ByteArray) (n : Nat) (h1n : 1 ≤ n) (hn : n ≤ 64) (hS : ∀ i, i < n → (T0 i).size = 16) : IterM Tryz.prog 151 (RwV T0 n) rEnc rOk rNx rFin (false, n, T0) := by
 intro nn m l J W hJ hY hm h0
 subst hm
 have KY : Hid (∀ s W1, rOk s → J s W1 → W.heap.size < W1.heap.size → YieldAt Fence.wide m Tryz.prog l (rEnc s) W1 fun e W' => e = .returned (.bool true) ∧ J (rNx s) W' ∧ W.heap.size < W'.heap.size ∧ W'.heap[W.heap.size]? = W1.heap[W.heap.size]?) := hY
 clear hY
 have KJ : Hid (∀ s A B, J s A → A.grownBy B (some W.heap.size) → J s B) := hJ
 clear hJ
 have hfn := wideFn
 have hdp := wideDepth
 have KS : Hid (∀ i, i < n → (T0 i).size = 16) := hS
 clear hS
 obtain ⟨b, hb⟩ : ∃ b, W.heap.size = b := ⟨_, rfl⟩
 have KW : Hid (W.heap.size = b) := hb
 refine callsIn_of_wp Tryz.func151 rfl trivial ?_ rfl
 simp only [Tryz.ntmps151, List.size_toArray, List.length_cons, List.length_nil, Nat.reduceAdd, Nat.reduceSub, Array.replicate_succ, Array.replicate_zero, List.push_toArray, List.append_toArray, List.nil_append, List.cons_append]
 gi_wp2_with (refine i_box (by rfl) _ (by rfl) T0 n (by rfl) ?_)
 go_simp
 gi_loopg [] n (fun gk wr => ∃ (k : Nat) (T : Nat → ByteArray), k = gk ∧ 1 ≤ k ∧ k ≤ 64 ∧ Hid (∀ i, i < k → (T i).size = 16) ∧ Row wr b 225 (rowC T k) ∧ Hid (J (false, k, T) wr))
 case atStart =>
  refine ⟨n, T0, rfl, h1n, hn, KS, ?_, KJ.out _ _ _ h0 (World.grownBy_alloc _ _ _)⟩
  rw [← hb]
  exact Row.new W _ _
 case round =>
  obtain ⟨k, T, rfl, hk1, hk64, HS, hr, HJ⟩ := hrel
  clear h0 KS
  have hlb : b < wr.heap.size := hr.lt
  obtain ⟨fn, tmps, assign, body, hy, hR⟩ := KY.out (false, k, T) wr ⟨rfl, hk1, hk64, HS.out⟩ HJ.out (by rw [KW.out]; exact hlb)
  have HR : Hid (RoundIn Fence.wide m Tryz.prog l fn tmps assign body wr fun e W' => e = .returned (.bool true) ∧ J (rNx (false, k, T)) W' ∧ W.heap.size < W'.heap.size ∧ W'.heap[W.heap.size]? = wr.heap[W.heap.size]?) := hR
  clear hR
  simp only [rEnc] at hy
  have hmm : m + 1 - 1 = m := rfl
  by_cases h1 : k ≤ 1
  ·have h1' : ¬ (1 : Int) < (k : Int) := by omega
   gi_wp2_with (refine i_load (by rfl) _ (by rfl) b (by rfl) T k hr ?_)
   refine HR.out.mono ?_
   rintro e w2 ⟨rfl, hJ2, hs2, hk2⟩
   have R2 : Row w2 b 225 (rowC T k) := by
    unfold Row
    rw [← KW.out, hk2, KW.out]
    exact hr
   have e64 : w2.cell? ⟨b, 64, none⟩ = some (.int .i64 (k : Int)) := by rw [R2.cell 64, rowC_last]
   have HJ2 : Hid (J (true, k, T) w2) := by unfold rNx at hJ2; rw [if_pos h1] at hJ2; exact hJ2
   clear hJ2 hs2 hk2 hr
   gi_wp2
   go_end0
   first | exact ⟨⟨_, rfl⟩, (true, k, T), rfl, HJ2.out⟩ | exact ⟨⟨_, rfl⟩, true, ⟨k, T, HJ2.out⟩, rfl⟩ | exact ⟨⟨_, rfl⟩, true, k, T, rfl, HJ2.out⟩ | exact ⟨⟨_, rfl⟩, true, rfl, k, T, HJ2.out⟩ | exact ⟨⟨_, rfl⟩, true, ⟨k, T, rfl, HJ2.out⟩⟩
  ·have h1' : (1 : Int) < (k : Int) := by omega
   gi_wp2_with (refine i_load (by rfl) _ (by rfl) b (by rfl) T k hr ?_)
   refine HR.out.mono ?_
   rintro e w2 ⟨rfl, hJ2, hs2, hk2⟩
   have R2 : Row w2 b 225 (rowC T k) := by
    unfold Row
    rw [← KW.out, hk2, KW.out]
    exact hr
   have e64 : w2.cell? ⟨b, 64, none⟩ = some (.int .i64 (k : Int)) := by rw [R2.cell 64, rowC_last]
   have HJ2 : Hid (J (false, hf k, up k T) w2) := by unfold rNx at hJ2; rw [if_neg h1] at hJ2; exact hJ2
   have KA : Hid (Calls Tryz.prog 179 #[RwV T k] w2 fun e w' => e = .returned (RwV (up k T) (hf k)) ∧ Below w2.heap.size w2 w') := rowAbove_any T k w2 hk1 hk64 HS.out
   have HU : Hid (∀ i, i < hf k → (up k T i).size = 16) := Gt.up_size HS.out
   have hlt : 1 ≤ hf k ∧ hf k < k := by unfold hf; omega
   clear hJ2 hs2 hk2 hr
   generalize hf k = k' at *
   generalize up k T = T' at *
   gi_wp2_with (refine i_load (by rfl) _ (by rfl) b (by rfl) T k R2 ?_)
   refine (callsIn_wide.2 KA.out).mono ?_
   rintro e w3 ⟨rfl, hb3⟩
   have R3 := R2.below hb3 R2.lt
   have HJ3 : Hid (J (false, k', T') (w3.setRow b (rowC T' k'))) := by
    have hg := grown_below (some b) hb3
    have hg2 : w3.grownBy (w3.setRow b (rowC T' k')) (some b) := ⟨rfl, rfl, rfl, by simp, fun j _ hj => setRow_other _ _ _ _ (fun e => hj (by rw [e]))⟩
    rw [← KW.out] at hg hg2 ⊢
    exact KJ.out _ _ _ (KJ.out _ _ _ HJ2.out hg) hg2
   have R4 := R3.row (ds := rowC T' k')
   gi_wp2_with (refine i_store (by rfl) _ _ (by rfl) b (by rfl) T' k' (by rfl) T k R3 ?_)
   gi_roundg k'
   case measure => exact hlt.2
   case rel => exact ⟨k', T', rfl, hlt.1, by omega, HU, R4, HJ3⟩
end Go.Proofs.YtmhcdkbgjjibeaaGreatDoor
