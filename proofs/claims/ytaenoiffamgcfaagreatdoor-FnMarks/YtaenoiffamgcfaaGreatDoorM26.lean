import Derived.Test.YtaenoiffamgcfaaGreatDoorM21
import Derived.Test.YtaenoiffamgcfaaGreatDoorM8
import Derived.Test.YtaenoiffamgcfaaGreatDoorM6
import Derived.Maps.AppendAt
import Derived.Deep.CutBlock
set_option maxHeartbeats 8000000
set_option maxRecDepth 2000
open Go.ChangeShapes Go.WideShapes Go.ChangeAt Go.RowKit
namespace Go.Proofs.YtaenoiffamgcfaaGreatDoor
structure Ma where
 nd : Int
 gd : Int
 bd : Int
 ro : Int
def maD (d : Ma) : Nat → Dt
 | 0 => .val (.int .i64 d.nd)
 | 1 => .val (.int .i64 d.gd)
 | 2 => .val (.int .i64 d.bd)
 | _ => .val (.int .i64 d.ro)
def masD (n : Nat) (M : Nat → Ma) : Dt := .lst 29 4 n fun i => maD (M i)
theorem mark_at {w : World} {m : Nat} {M : Nat → Ma} {a : Option Addr} {cap : Nat} (h : Rd w (masD m M) (.slice a m cap)) {c : Nat} (hc : c < m) :
  ∃ (b off : Nat), a = some ⟨b, off, none⟩ ∧ (w.cell? ⟨b, off + c * 4, none⟩ = some (.int .i64 (M c).nd) ∧ w.cell? ⟨b, off + c * 4 + 1, none⟩ = some (.int .i64 (M c).gd) ∧ w.cell? ⟨b, off + c * 4 + 2, none⟩ = some (.int .i64 (M c).bd) ∧ w.cell? ⟨b, off + c * 4 + 3, none⟩ = some (.int .i64 (M c).ro)) ∧ w.rangeAt b (off + c * 4) [.int .i64 (M c).nd, .int .i64 (M c).gd, .int .i64 (M c).bd, .int .i64 (M c).ro] := by
 obtain ⟨b, off, y, ea, hy, hr⟩ := h.row hc
 have g0 := hr 0 (by omega)
 have g1 := hr 1 (by omega)
 have g2 := hr 2 (by omega)
 have g3 := hr 3 (by omega)
 simp only [Rd, maD] at g0 g1 g2 g3
 have c0 := hy 0 (by omega)
 have c1 := hy 1 (by omega)
 have c2 := hy 2 (by omega)
 have c3 := hy 3 (by omega)
 rw [g0, ← Nat.add_assoc] at c0
 rw [g1, ← Nat.add_assoc] at c1
 rw [g2, ← Nat.add_assoc] at c2
 rw [g3, ← Nat.add_assoc] at c3
 refine ⟨b, off, ea, ⟨c0, c1, c2, c3⟩, fun j v hv => ?_⟩
 have hj : j < 4 := (List.getElem?_eq_some_iff.1 hv).1
 match j, hj with
 | 0, _ => rw [← hv]; exact c0
 | 1, _ => rw [← hv]; exact c1
 | 2, _ => rw [← hv]; exact c2
 | 3, _ => rw [← hv]; exact c3
theorem Tryz.infoMa : (Tryz.prog.info? 29).map (·.size) = some 4 := by kernel_rfl
def cntI (zs : List Int) (x : Int) : Nat := zs.countP (· < x)
def putI (zs : List Int) (x : Int) : List Int := if x = -1 ∨ x ∈ zs then zs else zs.take (cntI zs x) ++ x :: zs.drop (cntI zs x)
theorem cntI_le (zs : List Int) (x : Int) : cntI zs x ≤ zs.length := List.countP_le_length
theorem putI_len (zs : List Int) (x : Int) : (putI zs x).length ≤ zs.length + 1 := by
 unfold putI
 have := cntI_le zs x
 split
 ·omega
 ·simp [List.length_take, List.length_drop]
  omega
def maC (d : Ma) : List Value := [.int .i64 d.nd, .int .i64 d.gd, .int .i64 d.bd, .int .i64 d.ro]
def maL (n : Nat) (M : Nat → Ma) : List Value := cL 4 (fun i q => (maC (M i)).getD q undef) n
theorem maL_len (n : Nat) (M : Nat → Ma) : (maL n M).length = 4 * n := by unfold maL; rw [cL_len]; omega
theorem maL_at (n : Nat) (M : Nat → Ma) (j : Nat) : (maL n M)[j]? = if j < 4 * n then some ((maC (M (j / 4))).getD (j % 4) undef) else none := by
 unfold maL cL
 rw [List.getElem?_map]
 by_cases h : j < 4 * n
 ·rw [if_pos h, List.getElem?_range (by omega)]; rfl
 ·rw [if_neg h, List.getElem?_eq_none (by simp; omega)]; rfl
def mkF (x : Int) (M : Nat → Ma) : Nat → Nat → Nat
 | 0, k => k
 | f + 1, k => if (M k).nd < x then mkF x M f (k + 1) else k
theorem mkF_is {x : Int} {M : Nat → Ma} : ∀ {f k : Nat}, k ≤ mkF x M f k ∧ mkF x M f k ≤ k + f ∧ (∀ i, k ≤ i → i < mkF x M f k → (M i).nd < x) ∧ (mkF x M f k < k + f → ¬ (M (mkF x M f k)).nd < x)
 | 0, k => ⟨Nat.le_refl _, Nat.le_refl _, fun i h1 h2 => by have : mkF x M 0 k = k := rfl; omega, fun h => by have : mkF x M 0 k = k := rfl; omega⟩
 | f + 1, k => by
  by_cases e : (M k).nd < x
  ·have e1 : mkF x M (f + 1) k = mkF x M f (k + 1) := if_pos e
   obtain ⟨h1, h2, h3, h4⟩ := mkF_is (x := x) (M := M) (f := f) (k := k + 1)
   rw [e1]
   refine ⟨by omega, by omega, fun i hi hx => ?_, fun h => h4 (by omega)⟩
   by_cases ei : i = k
   ·rw [ei]; exact e
   ·exact h3 i (by omega) hx
  ·have e1 : mkF x M (f + 1) k = k := if_neg e
   rw [e1]
   exact ⟨Nat.le_refl _, by omega, fun i h1 h2 => by omega, fun _ => e⟩
def mkP (x : Int) (M : Nat → Ma) (n : Nat) : Nat := mkF x M n 0
theorem mkP_is (x : Int) (M : Nat → Ma) (n : Nat) : mkP x M n ≤ n ∧ (∀ i, i < mkP x M n → (M i).nd < x) ∧ (mkP x M n < n → ¬ (M (mkP x M n)).nd < x) := by
 obtain ⟨_, h2, h3, h4⟩ := mkF_is (x := x) (M := M) (f := n) (k := 0)
 exact ⟨by show mkF x M n 0 ≤ n; omega, fun i hi => h3 i (Nat.zero_le _) hi, fun h => h4 (by have h' : mkF x M n 0 < n := h; omega)⟩
def mkH (x : Int) (M : Nat → Ma) (n : Nat) : Bool := decide (mkP x M n < n ∧ (M (mkP x M n)).nd = x)
def mkU (good : Bool) (d : Ma) : Ma := if good then ⟨d.nd, d.gd + 1, d.bd, 0⟩ else ⟨d.nd, d.gd, d.bd + 1, d.ro + 1⟩
def mkV (x : Int) (M : Nat → Ma) (n : Nat) (good : Bool) : Ma := mkU good (if mkH x M n then M (mkP x M n) else ⟨x, 0, 0, 0⟩)
def mkN (x : Int) (M : Nat → Ma) (n : Nat) : Nat := if mkH x M n then n else n + 1
def mkM (x : Int) (M : Nat → Ma) (n : Nat) (good : Bool) (i : Nat) : Ma := if i < mkP x M n then M i else if i = mkP x M n then mkV x M n good else M (if mkH x M n then i else i - 1)
theorem mk_list {x : Int} {M : Nat → Ma} {n : Nat} {good : Bool} : (maL n M).take (4 * mkP x M n) ++ maC (mkV x M n good) ++ (maL n M).drop (4 * (mkP x M n + if mkH x M n then 1 else 0)) = maL (mkN x M n) (mkM x M n good) := by
 have hp := (mkP_is x M n).1
 have hpH : mkH x M n = true → mkP x M n < n := fun h => (of_decide_eq_true h).1
 obtain ⟨p, Hp⟩ : ∃ q, mkP x M n = q := ⟨_, rfl⟩
 obtain ⟨b, Hb⟩ : ∃ q, mkH x M n = q := ⟨_, rfl⟩
 have e1 : ∀ i, mkM x M n good i = if i < p then M i else if i = p then mkV x M n good else M (if b then i else i - 1) := fun i => by unfold mkM; rw [Hp, Hb]
 have e2 : mkN x M n = if b then n else n + 1 := by unfold mkN; rw [Hb]
 rw [Hp] at hp hpH ⊢
 rw [Hb] at hpH ⊢
 rw [e2]
 have hl : (maC (mkV x M n good)).length = 4 := rfl
 have ht : ((maL n M).take (4 * p)).length = 4 * p := by rw [List.length_take, maL_len]; omega
 apply List.ext_getElem?
 intro j
 rw [maL_at]
 by_cases h1 : j < 4 * p
 ·rw [List.append_assoc, List.getElem?_append_left (by omega), List.getElem?_take_of_lt h1, maL_at, if_pos (by omega), if_pos (by cases b <;> simp <;> omega), e1, if_pos (by omega)]
 ·by_cases h2 : j < 4 * p + 4
  ·rw [List.append_assoc, List.getElem?_append_right (by omega), List.getElem?_append_left (by omega), ht, if_pos (by cases b; simp; omega; have := hpH rfl; simp; omega), e1, if_neg (by omega), if_pos (by omega)]
   have : j % 4 = j - 4 * p := by omega
   rw [this]
   obtain ⟨q, hq⟩ : ∃ q, j - 4 * p = q := ⟨_, rfl⟩
   rw [hq]
   have hq4 : q < 4 := by omega
   match q, hq4 with
   | 0, _ | 1, _ | 2, _ | 3, _ => rfl
  ·rw [List.getElem?_append_right (by rw [List.length_append]; omega), List.length_append, ht, hl, List.getElem?_drop, maL_at]
   cases b with
   | true =>
    have := hpH rfl
    simp only [if_true]
    by_cases h3 : j < 4 * n
    ·rw [if_pos (by omega), if_pos h3, e1, if_neg (by omega), if_neg (by omega)]
     simp only [if_true]
     rw [show (4 * (p + 1) + (j - (4 * p + 4))) = j by omega]
    ·rw [if_neg (by omega), if_neg h3]
   | false =>
    simp only [Bool.false_eq_true, if_false, Nat.add_zero]
    by_cases h3 : j < 4 * (n + 1)
    ·rw [if_pos (by omega), if_pos h3, e1, if_neg (by omega), if_neg (by omega)]
     simp only [Bool.false_eq_true, if_false]
     rw [show (4 * p + (j - (4 * p + 4))) / 4 = j / 4 - 1 by omega, show (4 * p + (j - (4 * p + 4))) % 4 = j % 4 by omega]
    ·rw [if_neg (by omega), if_neg h3]
structure MaA (n : Nat) (M : Nat → Ma) (k : Int) : Prop where
 a : ∀ i j, i < j → j < n → (M i).nd < (M j).nd
 g : ∀ i, i < n → 0 ≤ (M i).gd ∧ (M i).gd ≤ k ∧ 0 ≤ (M i).bd ∧ (M i).bd ≤ k ∧ 0 ≤ (M i).ro ∧ (M i).ro ≤ k
theorem MaA.mk1 {n : Nat} {M : Nat → Ma} {k : Int} (h : MaA n M k) (hk : 0 ≤ k) (x : Int) (good : Bool) : MaA (mkN x M n) (mkM x M n good) (k + 1) := by
 obtain ⟨hp, hlo, hhi⟩ := mkP_is x M n
 obtain ⟨p, Hp⟩ : ∃ q, mkP x M n = q := ⟨_, rfl⟩
 obtain ⟨b, Hb⟩ : ∃ q, mkH x M n = q := ⟨_, rfl⟩
 have e1 : ∀ i, mkM x M n good i = if i < p then M i else if i = p then mkV x M n good else M (if b then i else i - 1) := fun i => by unfold mkM; rw [Hp, Hb]
 have e2 : mkN x M n = if b then n else n + 1 := by unfold mkN; rw [Hb]
 have ev : mkV x M n good = mkU good (if b then M p else ⟨x, 0, 0, 0⟩) := by unfold mkV; rw [Hp, Hb]
 have hb1 : b = true → p < n ∧ (M p).nd = x := fun e => by rw [← Hb] at e; have := of_decide_eq_true e; rw [Hp] at this; exact this
 have hb2 : b = false → p < n → x < (M p).nd := fun e hpn => by
  rw [← Hb] at e
  have h1 := of_decide_eq_false e
  rw [Hp] at h1 hhi
  have h2 := hhi hpn
  rcases Int.lt_trichotomy x (M p).nd with h3 | h3 | h3
  ·exact h3
  ·exact absurd ⟨hpn, h3.symm⟩ h1
  ·exact absurd h3 h2
 rw [Hp] at hp hlo hhi
 have nv : (mkV x M n good).nd = x := by
  rw [ev]
  cases b with
  | true => have := (hb1 rfl).2; cases good <;> simp [mkU, this]
  | false => cases good <;> simp [mkU]
 rw [e2]
 refine ⟨fun i j hij hj => ?_, fun i hi => ?_⟩
 ·rw [e1, e1]
  by_cases i1 : i < p
  ·rw [if_pos i1]
   by_cases j1 : j < p
   ·rw [if_pos j1]; exact h.a i j hij (by omega)
   ·rw [if_neg j1]
    by_cases j2 : j = p
    ·rw [if_pos j2, nv]; exact hlo i i1
    ·rw [if_neg j2]
     cases b with
     | true => simp only [if_true] at hj ⊢; exact h.a i j hij hj
     | false => simp only [Bool.false_eq_true, if_false] at hj ⊢; exact h.a i (j - 1) (by omega) (by omega)
  ·rw [if_neg i1]
   by_cases i2 : i = p
   ·rw [if_pos i2, if_neg (show ¬ j < p by omega), if_neg (show ¬ j = p by omega), nv]
    cases b with
    | true =>
     simp only [if_true] at hj ⊢
     have h1 := hb1 rfl
     have h2 := h.a p j (by omega) hj
     omega
    | false =>
     simp only [Bool.false_eq_true, if_false] at hj ⊢
     have h1 := hb2 rfl (by omega)
     by_cases e : j - 1 = p
     ·rw [e]; exact h1
     ·have h2 := h.a p (j - 1) (by omega) (by omega); omega
   ·rw [if_neg i2, if_neg (show ¬ j < p by omega), if_neg (show ¬ j = p by omega)]
    cases b with
    | true => simp only [if_true] at hj ⊢; exact h.a i j hij hj
    | false => simp only [Bool.false_eq_true, if_false] at hj ⊢; exact h.a (i - 1) (j - 1) (by omega) (by omega)
 ·rw [e1]
  by_cases i1 : i < p
  ·rw [if_pos i1]
   have := h.g i (by omega)
   omega
  ·rw [if_neg i1]
   by_cases i2 : i = p
   ·rw [if_pos i2, ev]
    cases b with
    | true =>
     have := h.g p (hb1 rfl).1
     cases good <;> simp [mkU] <;> omega
    | false => cases good <;> simp [mkU] <;> omega
   ·rw [if_neg i2]
    cases b with
    | true => simp only [if_true] at hi ⊢; have := h.g i hi; omega
    | false => simp only [Bool.false_eq_true, if_false] at hi ⊢; have := h.g (i - 1) (by omega); omega
def maS (M : Nat → Ma) : Nat → Int
 | 0 => 0
 | n + 1 => maS M n + (M n).gd + (M n).bd
theorem maS_congr {M M' : Nat → Ma} : ∀ {n : Nat}, (∀ i, i < n → M i = M' i) → maS M n = maS M' n
 | 0, _ => rfl
 | n + 1, h => by show maS M n + _ + _ = maS M' n + _ + _; rw [maS_congr (fun i hi => h i (by omega)), h n (by omega)]
theorem maS_more {x : Int} {M : Nat → Ma} {n : Nat} {good : Bool} : maS (mkM x M n good) (mkN x M n) = maS M n + 1 := by
 have hp := (mkP_is x M n).1
 have hpH : mkH x M n = true → mkP x M n < n := fun h => (of_decide_eq_true h).1
 obtain ⟨p, Hp⟩ : ∃ q, mkP x M n = q := ⟨_, rfl⟩
 obtain ⟨b, Hb⟩ : ∃ q, mkH x M n = q := ⟨_, rfl⟩
 have e1 : ∀ i, mkM x M n good i = if i < p then M i else if i = p then mkV x M n good else M (if b then i else i - 1) := fun i => by unfold mkM; rw [Hp, Hb]
 have e2 : mkN x M n = if b then n else n + 1 := by unfold mkN; rw [Hb]
 have ev : mkV x M n good = mkU good (if b then M p else ⟨x, 0, 0, 0⟩) := by unfold mkV; rw [Hp, Hb]
 rw [Hp] at hp hpH
 rw [Hb] at hpH
 rw [e2]
 have a1 : maS (mkM x M n good) p = maS M p := maS_congr (fun i hi => by rw [e1, if_pos hi])
 have a2 : maS (mkM x M n good) (p + 1) = maS M p + (mkV x M n good).gd + (mkV x M n good).bd := by
  show maS (mkM x M n good) p + _ + _ = _
  rw [a1, e1, if_neg (by omega), if_pos rfl]
 cases b with
 | true =>
  have a3 : (mkV x M n good).gd + (mkV x M n good).bd = (M p).gd + (M p).bd + 1 := by rw [ev]; cases good <;> simp [mkU] <;> omega
  have a4 : ∀ q, p + 1 + q ≤ n → maS (mkM x M n good) (p + 1 + q) = maS M (p + 1 + q) + 1 := fun q => by
   induction q with
   | zero =>
    intro _
    rw [Nat.add_zero, a2]
    show _ = maS M p + (M p).gd + (M p).bd + 1
    omega
   | succ q ih =>
    intro hq
    show maS (mkM x M n good) (p + 1 + q) + (mkM x M n good (p + 1 + q)).gd + (mkM x M n good (p + 1 + q)).bd = maS M (p + 1 + q) + (M (p + 1 + q)).gd + (M (p + 1 + q)).bd + 1
    rw [ih (by omega), e1, if_neg (by omega), if_neg (by omega)]
    simp only [if_true]
    omega
  have := hpH rfl
  have h9 := a4 (n - (p + 1)) (by omega)
  rw [show p + 1 + (n - (p + 1)) = n by omega] at h9
  exact h9
 | false =>
  have a3 : (mkV x M n good).gd + (mkV x M n good).bd = 1 := by rw [ev]; cases good <;> simp [mkU]
  have a4 : ∀ q, p + q ≤ n → maS (mkM x M n good) (p + q + 1) = maS M (p + q) + 1 := fun q => by
   induction q with
   | zero =>
    intro _
    show maS (mkM x M n good) (p + 1) = maS M p + 1
    rw [a2]
    omega
   | succ q ih =>
    intro hq
    show maS (mkM x M n good) (p + q + 1) + (mkM x M n good (p + (q + 1))).gd + (mkM x M n good (p + (q + 1))).bd = maS M (p + q) + (M (p + q)).gd + (M (p + q)).bd + 1
    rw [ih (by omega), e1, if_neg (by omega), if_neg (by omega)]
    simp only [Bool.false_eq_true, if_false]
    rw [show p + (q + 1) - 1 = p + q by omega]
    omega
  have h9 := a4 (n - p) (by omega)
  rw [show p + (n - p) = n by omega] at h9
  exact h9
theorem mk_row {n : Nat} {M : Nat → Ma} {k : Int} (h : MaA n M k) (hk : 0 ≤ k) {x : Int} {good : Bool} {i : Nat} (hi : i < mkN x M n) (hx : (mkM x M n good i).nd = x) : good = decide ((mkM x M n good i).ro = 0) := by
 have hA := h.mk1 hk x good
 have hpn : mkP x M n < mkN x M n := by
  have h1 := (mkP_is x M n).1
  unfold mkN
  cases e : mkH x M n with
  | true => simpa using (of_decide_eq_true e).1
  | false => simp; omega
 have ep : mkM x M n good (mkP x M n) = mkV x M n good := by unfold mkM; rw [if_neg (by omega), if_pos rfl]
 have nv : (mkV x M n good).nd = x := by
  unfold mkV
  cases e : mkH x M n with
  | true => have := (of_decide_eq_true e).2; cases good <;> simp [mkU, this]
  | false => cases good <;> simp [mkU]
 have ei : i = mkP x M n := by
  rcases Nat.lt_trichotomy i (mkP x M n) with q | q | q
  ·have := hA.a i _ q hpn; rw [ep, nv, hx] at this; omega
  ·exact q
  ·have := hA.a _ i q hi; rw [ep, nv, hx] at this; omega
 rw [ei, ep]
 unfold mkV
 cases good with
 | true => simp [mkU]
 | false =>
  cases e : mkH x M n with
  | true =>
   have h1 := of_decide_eq_true e
   have h2 := h.g _ h1.1
   simp [mkU]
   omega
  | false => simp [mkU]
def zcM : List Value := [.int .i64 0, .int .i64 0, .int .i64 0, .int .i64 0]
theorem Tryz.infoMaZ : (Tryz.prog.info? 29).map (fun i => (i.zero, i.size, i.bytes)) = some (some (.agg zcM.toArray), 4, 32) := by kernel_rfl
theorem wpList_appM {ops : Array Oper} {rest : List Oper} {o : Oper} {a : Act} {w : World} {Q : Exit → Act → World → Prop} (hgd : o.guard = none) (s x : Nat)
  (ho : o.op = .call { callee := .builtin .append, args := #[.tmp s, .tmp x], argTypes := #[24, 24] })
  (base g0 n cap0 : Nat) (xs : List Value) (hs : a.eval (.tmp s) = .slice (some ⟨g0, 0, none⟩) n cap0) (hown : w.ownsRow base 29 4 (.slice (some ⟨g0, 0, none⟩) n cap0) n xs)
  (ad : Addr) (m c : Nat) (news : List Value) (hx : a.eval (.tmp x) = .slice (some ad) m c) (hl : news.length = m * 4) (hnews : ∀ j u, news[j]? = some u → w.cell? (ad.add j) = some u) (h1 : ∀ u ∈ news, u.oneCell' = true)
  (hnm : n + m ≤ 1000000) (hbase : base ≤ w.heap.size)
  (h : ∀ g cap w', w'.ownsRow base 29 4 (.slice (some ⟨g, 0, none⟩) (n + m) cap) (n + m) (xs ++ news) → w.grownBy w' (some g0) → (g = g0 ∨ g = w.heap.size) → wpList Tryz.prog ops Q rest (a.put o.dst (.slice (some ⟨g, 0, none⟩) (n + m) cap)) w') : wpList Tryz.prog ops Q (o :: rest) a w :=
 wpList_plain hgd fun _ hK => by
  obtain ⟨iY, hiY, hzY0, hzY1, hzY2⟩ := info_parts Tryz.infoMaZ
  obtain ⟨v', w', hr, h2, h3, h4, h5⟩ := run_append_own_at (P := Tryz.prog) w base 24 o.type 29 iY _ 4 32 Tryz.underlying24 hiY hzY0 hzY1 hzY2 (by rfl) (by omega) _ n xs hown ad m c news hl hnews h1 (by unfold maxLen; omega) (by omega) hbase
  have hne : v' ≠ .slice none 0 0 := fun e => by have := h4.1 e; cases this.1
  rcases h2.2 with ⟨e, _⟩ | ⟨g, cap, cur, e, _⟩
  ·exact absurd e hne
  ·subst e
   unfold Oper.wp execOp
   simp only [ho, resolve, invoke, builtin, Sem.run_bind, Sem.run_pure, Result.andThen_ok, List.map_toArray, List.map_cons, List.map_nil, hs, hx, hr]
   refine hK _ _ (h g cap w' h2 h3 ?_)
   rcases h5 with h5 | h5
   ·exact .inl (by injection h5)
   ·exact .inr (by injection h5)
theorem wpList_fromM {ops : Array Oper} {rest : List Oper} {o : Oper} {a : Act} {w : World} {Q : Exit → Act → World → Prop} (hgd : o.guard = none) (x : Nat) (lo : Nat) (ho : o.op = .slice 24 (.tmp x) (some (.tmp lo)) none none)
  (g o9 n cap k : Nat) (hx : a.eval (.tmp x) = .slice (some ⟨g, o9, none⟩) n cap) (hlo : a.eval (.tmp lo) = .int .i64 (k : Int)) (hk : k ≤ n) (hn : n ≤ cap)
  (h : ∀ off, (n = k ∨ off = o9 + k * 4) → wpList Tryz.prog ops Q rest (a.put o.dst (.slice (some ⟨g, off, none⟩) (n - k) (cap - k))) w) : wpList Tryz.prog ops Q (o :: rest) a w :=
 wpList_plain hgd fun K hK => by
  obtain ⟨dst, op, ty, pos, aft, gd⟩ := o
  simp only at ho
  subst ho
  have hx' : a.tmps[x]?.getD undef = .slice (some ⟨g, o9, none⟩) n cap := by simpa [Act.eval] using hx
  have hlo' : a.tmps[lo]?.getD undef = .int .i64 (k : Int) := by simpa [Act.eval] using hlo
  have hki : (k : Int) ≤ (n : Int) := by omega
  clear hx hlo
  by_cases hc : cap = k
  ·have hk1 := h o9 (.inl (by omega))
   rw [show cap - k = 0 by omega, show n - k = 0 by omega] at hk1
   have hk2 := hK _ _ hk1
   have hnk : n = k := by omega
   clear h
   subst hc
   subst hnk
   go_simp
   exact hk2
  ·have hk2 := hK _ _ (h (o9 + k * 4) (.inr rfl))
   clear h
   go_simp
   exact hk2
theorem wpList_from1M {ops : Array Oper} {rest : List Oper} {o : Oper} {a : Act} {w : World} {Q : Exit → Act → World → Prop} (hgd : o.guard = none) (x : Nat) (ho : o.op = .slice 24 (.tmp x) (some (.const (.int .i64 1))) none none)
  (g o9 n cap : Nat) (hx : a.eval (.tmp x) = .slice (some ⟨g, o9, none⟩) n cap) (hk : 1 ≤ n) (hn : n ≤ cap)
  (h : ∀ off, (n = 1 ∨ off = o9 + 4) → wpList Tryz.prog ops Q rest (a.put o.dst (.slice (some ⟨g, off, none⟩) (n - 1) (cap - 1))) w) : wpList Tryz.prog ops Q (o :: rest) a w :=
 wpList_plain hgd fun K hK => by
  obtain ⟨dst, op, ty, pos, aft, gd⟩ := o
  simp only at ho
  subst ho
  have hx' : a.tmps[x]?.getD undef = .slice (some ⟨g, o9, none⟩) n cap := by simpa [Act.eval] using hx
  have hki : (1 : Int) ≤ (n : Int) := by omega
  clear hx
  by_cases hc : cap = 1
  ·have hk1 := h o9 (.inl (by omega))
   rw [show cap - 1 = 0 by omega, show n - 1 = 0 by omega] at hk1
   have hk2 := hK _ _ hk1
   have hnk : n = 1 := by omega
   clear h
   subst hc
   subst hnk
   go_simp
   exact hk2
  ·have hk2 := hK _ _ (h (o9 + 4) (.inr rfl))
   clear h
   go_simp
   exact hk2
theorem one_cells {n : Nat} {M : Nat → Ma} {u : Value} (h : u ∈ maL n M) : u.oneCell' = true := by
 obtain ⟨j, hj⟩ := List.getElem?_of_mem h
 rw [maL_at] at hj
 by_cases e : j < 4 * n
 ·rw [if_pos e] at hj
  have h4 : j % 4 < 4 := Nat.mod_lt _ (by omega)
  obtain ⟨q, hq⟩ : ∃ q, j % 4 = q := ⟨_, rfl⟩
  rw [hq] at hj h4
  match q, h4 with
  | 0, _ | 1, _ | 2, _ | 3, _ => rw [← Option.some.inj hj]; rfl
 ·rw [if_neg e] at hj; cases hj
theorem mark_cells {w : World} {b n : Nat} {M : Nat → Ma} (h : ∀ j u, (maL n M)[j]? = some u → w.cell? ⟨b, j, none⟩ = some u) {i : Nat} (hi : i < n) : w.rangeAt b (i * 4) (maC (M i)) := fun j v hv => by
 have hj : j < 4 := (List.getElem?_eq_some_iff.1 hv).1
 refine h _ _ ?_
 rw [maL_at, if_pos (by omega), show (i * 4 + j) / 4 = i by omega, show (i * 4 + j) % 4 = j by omega, List.getD_eq_getElem?_getD, hv]
 rfl
def suI (row : Int) (M : Nat → Ma) : Nat → List Int
 | 0 => []
 | c + 1 => if row ≤ (M c).ro then suI row M c ++ [(M c).nd] else suI row M c
theorem suI_len (row : Int) (M : Nat → Ma) (n : Nat) : (suI row M n).length ≤ n := by
 induction n with
 | zero => exact Nat.le_refl _
 | succ n ih =>
  unfold suI
  split
  ·simp; exact ih
  ·omega
theorem suI_yes {row : Int} {M : Nat → Ma} {c : Nat} {z : Ma} (hz : M c = z) (h : row ≤ z.ro) : suI row M (c + 1) = suI row M c ++ [z.nd] := by
 show (if row ≤ (M c).ro then _ else _) = _
 rw [hz, if_pos h]
theorem suI_no {row : Int} {M : Nat → Ma} {c : Nat} {z : Ma} (hz : M c = z) (h : ¬ row ≤ z.ro) : suI row M (c + 1) = suI row M c := by
 show (if row ≤ (M c).ro then _ else _) = _
 rw [hz, if_neg h]
theorem sSus_any (a : Option Addr) (n cap : Nat) (M : Nat → Ma) (row : Int) (w : World) (h : Rd w (masD n M) (.slice a n cap)) (hn : n ≤ 1048576) :
  Calls Tryz.prog 17 #[.slice a n cap, .int .i64 row] w fun e w' => ∃ v, e = .returned v ∧ OwnI w' w.heap.size v (suI row M n) ∧ Below w.heap.size w w' := by
 obtain ⟨i0, hi, hz0, hz1, hz2⟩ : ∃ i0, Tryz.prog.info? 3 = some i0 ∧ i0.zero = some (.int .i64 0) ∧ i0.size = 1 ∧ i0.bytes = 8 := ⟨_, rfl, rfl, rfl, rfl⟩
 have KH : Hid (Rd w (masD n M) (.slice a n cap)) := h
 have HO : Hid ((w.alloc (.cells #[] 3)).ownsRow w.heap.size 3 1 (.slice (some ⟨w.heap.size, 0, none⟩) 0 0) 0 []) := by
  have := World.ownsRow_lit (e := 3) (size := 1) (base := w.heap.size) w #[] 0 (by simp) (by unfold maxLen; omega) (by simp)
  exact this
 have HB0 : Hid (Below w.heap.size w (w.alloc (.cells #[] 3))) := (Below.refl _ _).alloc (Nat.le_refl _) _
 clear h
 go_enter Tryz.func17, Tryz.ntmps17
 go_wp2
 go_loopw [5, 6] (fun v i wr => ∃ (c g l cc : Nat) (zs : List Int), c ≤ n ∧ l ≤ c ∧ Hid (zs = suI row M c ∧ zs.length = l) ∧ v = .slice (some ⟨g, 0, none⟩) l cc ∧ i = .int .i64 (c : Int) ∧ Hid (wr.ownsRow w.heap.size 3 1 (.slice (some ⟨g, 0, none⟩) l cc) l (zs.map (Value.int .i64)) ∧ Below w.heap.size w wr)) (fun _ i _ => n - (intOf i).toNat)
 case atStart => exact ⟨0, _, 0, 0, [], Nat.zero_le _, Nat.le_refl _, ⟨rfl, rfl⟩, rfl, rfl, HO.out, HB0.out⟩
 case round =>
  obtain ⟨c, g, l, cc, zs, hc, hl, HZ, rfl, rfl, KO⟩ := hrel
  clear HO HB0
  by_cases hlt : c < n
  ·have hlti : (c : Int) < (n : Int) := by omega
   obtain ⟨b1, f1, rfl, ⟨x0, x1, x2, x3⟩, _⟩ := mark_at (KH.out.below KO.out.2) hlt
   obtain ⟨⟨z0, z1, z2, z3⟩, HM⟩ : ∃ z, Hid (M c = z) := ⟨_, rfl⟩
   simp only [HM.out] at x0 x1 x2 x3
   clear x1 x2
   by_cases hr : row ≤ z3
   ·have hge : z3 ≥ row := hr
    have HS : Hid (suI row M (c + 1) = suI row M c ++ [z0]) := suI_yes HM.out hr
    have HNE : Hid (∀ j u, ([.int .i64 z0] : List Value)[j]? = some u → (wr.alloc (.cells #[.int .i64 z0] 3)).cell? ((⟨wr.heap.size, 0, none⟩ : Addr).add j) = some u) := World.news_of_block (cs := #[.int .i64 z0]) (t := 3) (fr := (0, 0)) (heap_alloc_new wr _)
    have HOA : Hid ((wr.alloc (.cells #[.int .i64 z0] 3)).ownsRow w.heap.size 3 1 (.slice (some ⟨g, 0, none⟩) l cc) l (zs.map (Value.int .i64))) := World.ownsRow.alloc KO.out.1 _
    have hsz := KO.out.2.size
    have lg := World.ownsRow.lt KO.out.1 g rfl
    have HBA : Hid (Below w.heap.size w (wr.alloc (.cells #[.int .i64 z0] 3))) := KO.out.2.alloc hsz _
    go_wp2_with (at_builtin; refine wpList_append_all _ (by rfl) _ _ 45 (by rfl) w.heap.size 3 i0 (.int .i64 0) 1 8 Tryz.underlying45 hi hz0 hz1 hz2 rfl (by decide) g l cc (zs.map (Value.int .i64)) (by rfl) ?_ ⟨wr.heap.size, 0, none⟩ 1 1 [.int .i64 z0] (by rfl) (by rfl) ?_ (by simp [Value.oneCell']) (by unfold maxLen; omega) (by omega) (by simp; omega) ?_; exact HOA.out; exact HNE.out; intro g3 cap3 w3 hown3 hgrow3)
    have HB3 : Hid (w3.ownsRow w.heap.size 3 1 (.slice (some ⟨g3, 0, none⟩) (l + 1) cap3) (l + 1) ((zs ++ [z0]).map (Value.int .i64)) ∧ Below w.heap.size w w3) := ⟨by rw [List.map_append]; exact hown3, HBA.out.grown hgrow3 (by simp; omega) (fun x hx => by cases hx; exact lg.1)⟩
    have HZ3 : Hid (zs ++ [z0] = suI row M (c + 1) ∧ (zs ++ [z0]).length = l + 1) := ⟨by rw [HS.out, HZ.out.1], by simp [HZ.out.2]⟩
    clear hown3 hgrow3 HBA HOA HNE x0 x3 KO
    go_wp2
    go_roundw
    case rel => exact ⟨c + 1, g3, l + 1, cap3, zs ++ [z0], by omega, by omega, HZ3, rfl, by go_num, HB3⟩
    case measure => simp [intOf]; omega
   ·have hge : ¬ (z3 ≥ row) := hr
    have HS : Hid (zs = suI row M (c + 1) ∧ zs.length = l) := ⟨by rw [suI_no HM.out hr]; exact HZ.out.1, HZ.out.2⟩
    go_wp2
    go_roundw
    case rel => exact ⟨c + 1, g, l, cc, zs, by omega, by omega, HS, rfl, by go_num, KO⟩
    case measure => simp [intOf]; omega
  ·obtain rfl : c = n := by omega
   have HF : Hid (OwnI wr w.heap.size (.slice (some ⟨g, 0, none⟩) l cc) (suI row M c)) := by
    show OwnI _ _ _ _
    have := KO.out.1
    unfold OwnI
    rw [← HZ.out.1, HZ.out.2]
    exact this
   have HB : Hid (Below w.heap.size w wr) := KO.out.2
   clear KO
   go_wp2
   go_ret
   exact ⟨_, rfl, HF.out, HB.out⟩
theorem sus_any (a : Option Addr) (n cap : Nat) (M : Nat → Ma) (row : Int) (w : World) (h : Rd w (masD n M) (.slice a n cap)) (hn : n ≤ 1048576) :
  Calls Tryz.prog 16 #[.slice a n cap, .int .i64 row] w fun e w' => ∃ v, e = .returned v ∧ OwnI w' w.heap.size v (suI row M n) ∧ Below w.heap.size w w' := by
 obtain ⟨i0, hi, hz0, hz1, hz2⟩ : ∃ i0, Tryz.prog.info? 3 = some i0 ∧ i0.zero = some (.int .i64 0) ∧ i0.size = 1 ∧ i0.bytes = 8 := ⟨_, rfl, rfl, rfl, rfl⟩
 have KH : Hid (Rd w (masD n M) (.slice a n cap)) := h
 have HO : Hid ((w.alloc (.cells #[] 3)).ownsRow w.heap.size 3 1 (.slice (some ⟨w.heap.size, 0, none⟩) 0 0) 0 []) := by
  have := World.ownsRow_lit (e := 3) (size := 1) (base := w.heap.size) w #[] 0 (by simp) (by unfold maxLen; omega) (by simp)
  exact this
 have HB0 : Hid (Below w.heap.size w (w.alloc (.cells #[] 3))) := (Below.refl _ _).alloc (Nat.le_refl _) _
 clear h
 go_enter Tryz.func16, Tryz.ntmps16
 go_wp2
 go_loopw [5, 11] (fun v i wr => ∃ (c g l cc : Nat) (zs : List Int), c ≤ n ∧ l ≤ c ∧ Hid (zs = suI row M c ∧ zs.length = l) ∧ v = .slice (some ⟨g, 0, none⟩) l cc ∧ i = .int .i64 (c : Int) ∧ Hid (wr.ownsRow w.heap.size 3 1 (.slice (some ⟨g, 0, none⟩) l cc) l (zs.map (Value.int .i64)) ∧ Below w.heap.size w wr)) (fun _ i _ => n - (intOf i).toNat)
 case atStart => exact ⟨0, _, 0, 0, [], Nat.zero_le _, Nat.le_refl _, ⟨rfl, rfl⟩, rfl, rfl, HO.out, HB0.out⟩
 case round =>
  obtain ⟨c, g, l, cc, zs, hc, hl, HZ, rfl, rfl, KO⟩ := hrel
  clear HO HB0
  by_cases hlt : c < n
  ·have hlti : (c : Int) < (n : Int) := by omega
   obtain ⟨b1, f1, rfl, ⟨x0, x1, x2, x3⟩, _⟩ := mark_at (KH.out.below KO.out.2) hlt
   obtain ⟨⟨z0, z1, z2, z3⟩, HM⟩ : ∃ z, Hid (M c = z) := ⟨_, rfl⟩
   simp only [HM.out] at x0 x1 x2 x3
   obtain ⟨W0, HW0⟩ : ∃ x, Hid (x = wr.alloc (.cells #[.int .i64 z0, .int .i64 z1, .int .i64 z2, .int .i64 z3] 29)) := ⟨_, rfl⟩
   have hsz := KO.out.2.size
   have lg := World.ownsRow.lt KO.out.1 g rfl
   have KO0 : Hid (W0.ownsRow w.heap.size 3 1 (.slice (some ⟨g, 0, none⟩) l cc) l (zs.map (Value.int .i64)) ∧ Below w.heap.size w W0) := by show _ ∧ _; rw [HW0.out]; exact ⟨World.ownsRow.alloc KO.out.1 _, KO.out.2.alloc hsz _⟩
   have hs0 : W0.heap.size = wr.heap.size + 1 := by rw [HW0.out]; simp
   by_cases hr : row ≤ z3
   ·have hge : z3 ≥ row := hr
    have HS : Hid (suI row M (c + 1) = suI row M c ++ [z0]) := suI_yes HM.out hr
    have HNE : Hid (∀ j u, ([.int .i64 z0] : List Value)[j]? = some u → (W0.alloc (.cells #[.int .i64 z0] 3)).cell? ((⟨W0.heap.size, 0, none⟩ : Addr).add j) = some u) := World.news_of_block (cs := #[.int .i64 z0]) (t := 3) (fr := (0, 0)) (heap_alloc_new W0 _)
    have HOA : Hid ((W0.alloc (.cells #[.int .i64 z0] 3)).ownsRow w.heap.size 3 1 (.slice (some ⟨g, 0, none⟩) l cc) l (zs.map (Value.int .i64))) := World.ownsRow.alloc KO0.out.1 _
    have HBA : Hid (Below w.heap.size w (W0.alloc (.cells #[.int .i64 z0] 3))) := KO0.out.2.alloc (by omega) _
    have HSZ : Hid (W0.heap.size = wr.heap.size + 1) := hs0
    clear hs0
    rw [HSZ.out] at HNE
    rw [HW0.out] at HNE HOA HBA
    go_wp2_with (at_builtin; refine wpList_append_all _ (by rfl) _ _ 45 (by rfl) w.heap.size 3 i0 (.int .i64 0) 1 8 Tryz.underlying45 hi hz0 hz1 hz2 rfl (by decide) g l cc (zs.map (Value.int .i64)) (by rfl) ?_ ⟨wr.heap.size + 1, 0, none⟩ 1 1 [.int .i64 z0] (by rfl) (by rfl) ?_ (by simp [Value.oneCell']) (by unfold maxLen; omega) (by omega) (by simp; omega) ?_; exact HOA.out; exact HNE.out; intro g3 cap3 w3 hown3 hgrow3)
    have HB3 : Hid (w3.ownsRow w.heap.size 3 1 (.slice (some ⟨g3, 0, none⟩) (l + 1) cap3) (l + 1) ((zs ++ [z0]).map (Value.int .i64)) ∧ Below w.heap.size w w3) := ⟨by rw [List.map_append]; exact hown3, HBA.out.grown hgrow3 (by simp; omega) (fun x hx => by cases hx; exact lg.1)⟩
    have HZ3 : Hid (zs ++ [z0] = suI row M (c + 1) ∧ (zs ++ [z0]).length = l + 1) := ⟨by rw [HS.out, HZ.out.1], by simp [HZ.out.2]⟩
    clear hown3 hgrow3 HBA HOA HNE x0 x1 x2 x3 KO KO0
    go_wp2
    go_roundw
    case rel => exact ⟨c + 1, g3, l + 1, cap3, zs ++ [z0], by omega, by omega, HZ3, rfl, by go_num, HB3⟩
    case measure => simp [intOf]; omega
   ·have hge : ¬ (z3 ≥ row) := hr
    have HS : Hid (zs = suI row M (c + 1) ∧ zs.length = l) := ⟨by rw [suI_no HM.out hr]; exact HZ.out.1, HZ.out.2⟩
    clear hs0
    go_wp2
    rw [← HW0.out]
    go_roundw
    case rel => exact ⟨c + 1, g, l, cc, zs, by omega, by omega, HS, rfl, by go_num, KO0⟩
    case measure => simp [intOf]; omega
  ·obtain rfl : c = n := by omega
   have HF : Hid (OwnI wr w.heap.size (.slice (some ⟨g, 0, none⟩) l cc) (suI row M c)) := by
    show OwnI _ _ _ _
    have := KO.out.1
    unfold OwnI
    rw [← HZ.out.1, HZ.out.2]
    exact this
   have HB : Hid (Below w.heap.size w wr) := KO.out.2
   clear KO
   go_wp2
   go_ret
   exact ⟨_, rfl, HF.out, HB.out⟩
structure MsW (w W : World) (g1 c1 p X : Nat) (xs : List Value) (d : Ma) : Prop where
 b : Below w.heap.size w W
 o : W.ownsRow w.heap.size 29 4 (.slice (some ⟨g1, 0, none⟩) p c1) p xs
 r : Row W X 29 (maC d).toArray
 n : X ≠ g1 ∧ w.heap.size ≤ X
theorem MsW.put {w W : World} {g1 c1 p X : Nat} {xs : List Value} {d d' : Ma} (h : MsW w W g1 c1 p X xs d) (j : Nat) (v : Value) (hr : Row (W.setCell ⟨X, j, none⟩ v) X 29 (maC d').toArray) : MsW w (W.setCell ⟨X, j, none⟩ v) g1 c1 p X xs d' :=
 ⟨h.b.setCell h.n.2 v, own_blkF h.o (fun x e _ _ => by cases e; exact heap_setCell_other W ⟨X, j, none⟩ g1 v (fun e => h.n.1 e.symm)), hr, h.n⟩
theorem MsW.row {w W : World} {g1 c1 p X : Nat} {xs : List Value} {d d' : Ma} (h : MsW w W g1 c1 p X xs d) : MsW w (W.setRow X (maC d').toArray) g1 c1 p X xs d' :=
 ⟨belowSetRow h.b h.n.2 _, own_blkF h.o (fun x e _ _ => by cases e; exact setRow_other W X g1 _ (fun e => h.n.1 e.symm)), h.r.row, h.n⟩
set_option maxRecDepth 4000 in
theorem sMarkAdd_any (b n cap : Nat) (M : Nat → Ma) (x : Int) (good : Bool) (k : Int) (w : World) (hr : ∀ j u, (maL n M)[j]? = some u → w.cell? ⟨b, j, none⟩ = some u) (hbl : b < w.heap.size) (hn : n ≤ 1000) (hcap : n ≤ cap) (hA : MaA n M k) (hk : 0 ≤ k ∧ k ≤ 1000) :
  Calls Tryz.prog 7 #[.slice (some ⟨b, 0, none⟩) n cap, .int .i64 x, .bool good] w fun e w' => ∃ g c, e = .returned (.slice (some ⟨g, 0, none⟩) (mkN x M n) c) ∧ w'.ownsRow w.heap.size 29 4 (.slice (some ⟨g, 0, none⟩) (mkN x M n) c) (mkN x M n) (maL (mkN x M n) (mkM x M n good)) ∧ Below w.heap.size w w' := by
 have KM : Hid (∀ i, i < n → w.rangeAt b (i * 4) (maC (M i))) := fun i hi => mark_cells hr hi
 have KC : Hid (∀ j u, (maL n M)[j]? = some u → w.cell? ⟨b, j, none⟩ = some u) := hr
 have HA : Hid (MaA n M k) := hA
 have HBL : Hid (b < w.heap.size) := hbl
 obtain ⟨p, Hp⟩ : ∃ q, Hid (mkP x M n = q) := ⟨_, rfl⟩
 obtain ⟨hb, Hb⟩ : ∃ q, Hid (mkH x M n = q) := ⟨_, rfl⟩
 have hpn : p ≤ n := by rw [← Hp.out]; exact (mkP_is x M n).1
 have HH1 : Hid (hb = true → p < n ∧ (M p).nd = x) := fun e => by have h9 := Hb.out; rw [e] at h9; have := of_decide_eq_true h9; rw [Hp.out] at this; exact this
 have HH2 : Hid (hb = false → ¬ (p < n ∧ (M p).nd = x)) := fun e => by have h9 := Hb.out; rw [e] at h9; have := of_decide_eq_false h9; rw [Hp.out] at this; exact this
 clear hr hA hbl
 go_enter Tryz.func7, Tryz.ntmps7
 go_upto_block 0 with fail
 go_cut [7] from 11 to 25 (fun v wx => v = .int .i64 (p : Int) ∧ wx = w)
 case first =>
  go_wp2_with fail
  go_loopw [7] (fun vi wr => ∃ i : Nat, i ≤ n ∧ vi = .int .i64 (i : Int) ∧ Hid (mkF x M (n - i) i = p) ∧ wr = w) (fun vi _ => n - (intOf vi).toNat)
  case atStart => exact ⟨0, Nat.zero_le _, rfl, Hp.out, rfl⟩
  case round =>
   obtain ⟨i, hi, rfl, HF, rfl⟩ := hrel
   by_cases hlt : i < n
   ·have hlti : (i : Int) < (n : Int) := by omega
    have t0 := KM.out i hlt 0 _ rfl
    rw [Nat.add_zero] at t0
    have e2 : n - i = (n - (i + 1)) + 1 := by omega
    have HF' := HF.out
    rw [e2] at HF'
    unfold mkF at HF'
    obtain ⟨z, HZ⟩ : ∃ q, Hid ((M i).nd = q) := ⟨_, rfl⟩
    rw [HZ.out] at t0 HF'
    by_cases hz : z < x
    ·rw [if_pos hz] at HF'
     have HF2 : Hid (mkF x M (n - (i + 1)) (i + 1) = p) := HF'
     clear HF' HF e2
     go_wp2
     go_roundw
     case rel => exact ⟨i + 1, by omega, by go_num, HF2, by trivial⟩
     case measure => simp [intOf]; omega
    ·rw [if_neg hz] at HF'
     have hz' : ¬ z < x := hz
     have HF2 : Hid (i = p) := HF'
     clear HF' HF e2
     go_wp2_with fail
     go_meet
     exact ⟨by rw [HF2.out], rfl⟩
   ·obtain rfl : i = n := by omega
    have HF2 : Hid (i = p) := by have := HF.out; rw [Nat.sub_self] at this; exact this
    clear HF
    go_wp2_with fail
    go_meet
    exact ⟨by rw [HF2.out], rfl⟩
 obtain ⟨rfl, hwc⟩ := hcut
 obtain rfl := hwc.symm
 clear hwc
 obtain ⟨w1, HW1⟩ : ∃ q, Hid (q = w.alloc (.cells #[] 29)) := ⟨_, rfl⟩
 obtain ⟨g0, HG0⟩ : ∃ q, Hid (q = w.heap.size) := ⟨_, rfl⟩
 have hb1 : Below w.heap.size w w1 := by rw [HW1.out]; exact (Below.refl _ _).alloc (Nat.le_refl _) _
 have hs1 : w.heap.size ≤ w1.heap.size := hb1.size
 have KO0 : Hid (w1.ownsRow w.heap.size 29 4 (.slice (some ⟨g0, 0, none⟩) 0 0) 0 []) := by
  show World.ownsRow _ _ _ _ _ _ _
  rw [HW1.out, HG0.out]
  exact World.ownsRow_lit w #[] 0 (Nat.le_refl _) (by unfold maxLen; omega) rfl
 have KC1 : Hid (∀ j u, ((maL n M).take (4 * p))[j]? = some u → w1.cell? ((⟨b, 0, none⟩ : Addr).add j) = some u) := fun j u hu => by
  rw [Addr.add_mid, Nat.zero_add, hb1.cell (p := ⟨b, j, none⟩) HBL.out]
  rw [List.getElem?_take] at hu
  split at hu
  ·exact KC.out j u hu
  ·cases hu
 have hl1 : ((maL n M).take (4 * p)).length = p * 4 := by rw [List.length_take, maL_len]; omega
 have HOC : Hid (∀ u ∈ maL n M, u.oneCell' = true) := fun u hu => one_cells hu
 have KB1 : Hid (Below w.heap.size w w1) := hb1
 clear hb1
 go_wp2_with (at_builtin; rw [← HW1.out, ← HG0.out]; refine (show True → _ from ?_) trivial)
 intro _
 refine wpList_appM (by rfl) _ _ (by rfl) w.heap.size g0 0 0 [] (by rfl) KO0.out ⟨b, 0, none⟩ p cap ((maL n M).take (4 * p)) (by rfl) hl1 KC1.out (fun u hu => HOC.out u (List.mem_of_mem_take hu)) (by omega) hs1 ?_
 intro g1 c1 w2 own2 hg2 hat2
 rw [Nat.zero_add, List.nil_append] at own2
 rw [Nat.zero_add]
 obtain ⟨xs, HXS⟩ : ∃ q, Hid ((maL n M).take (4 * p) = q) := ⟨_, rfl⟩
 rw [HXS.out] at own2
 have hg1l := (World.ownsRow.lt own2 g1 rfl)
 obtain ⟨X, HX⟩ : ∃ q, Hid (q = w2.heap.size) := ⟨_, rfl⟩
 obtain ⟨w3, HW3⟩ : ∃ q, Hid (q = w2.alloc (.cells #[.int .i64 x, .int .i64 0, .int .i64 0, .int .i64 0] 29)) := ⟨_, rfl⟩
 have hb2 : Below w.heap.size w w2 := KB1.out.grown hg2 hs1 (fun q e => by cases e; rw [HG0.out]; exact Nat.le_refl _)
 have hb3 : Below w2.heap.size w2 w3 := by rw [HW3.out]; exact (Below.refl _ _).alloc (Nat.le_refl _) _
 have K3 : Hid (MsW w w3 g1 c1 p X xs ⟨x, 0, 0, 0⟩) := ⟨below2 hb2 hb3, ownsRow_below own2 hb3, by rw [HW3.out, HX.out]; exact Row.new w2 _ _, by rw [HX.out]; exact ⟨by omega, hb2.size⟩⟩
 clear own2 hg2 hat2 hg1l hb2 hb3 KO0 KC1 HW1 HG0 hl1
 go_wp2_with (rw [← HW3.out, ← HX.out]; refine wpList_fromM (by rfl) _ _ (by rfl) b 0 n cap p (by rfl) (by rfl) hpn hcap ?_)
 intro off hoff
 have HOff : Hid (n = p ∨ off = p * 4) := by have h := hoff; show _ ∨ _; omega
 clear hoff HW3 HX
 obtain ⟨nr, HNr⟩ : ∃ q, Hid (n - p = q) := ⟨_, rfl⟩
 obtain ⟨cr, HCr⟩ : ∃ q, Hid (cap - p = q) := ⟨_, rfl⟩
 rw [HNr.out, HCr.out]
 have KCw : Hid (∀ W, Below w.heap.size w W → ∀ i, i < n → W.rangeAt b (i * 4) (maC (M i))) := fun W hW i hi j v hv => (hW.cell (p := ⟨b, i * 4 + j, none⟩) HBL.out).trans (KM.out i hi j v hv)
 have hnr : nr ≤ cr := by have := HNr.out; have := HCr.out; omega
 go_upto_region 7 with fail
 go_cut [46] from 36 to 46 (fun v wx => v = .bool hb ∧ wx = w3)
 case first =>
  by_cases hpl : p < n
  ·have h0 : (0 : Int) < (nr : Int) := by have := HNr.out; omega
   have ho : off = p * 4 := by rcases HOff.out with h | h; omega; exact h
   have t0 := KCw.out w3 K3.out.b p hpl 0 _ rfl
   rw [Nat.add_zero, ← ho] at t0
   obtain ⟨z, HZ⟩ : ∃ q, Hid ((M p).nd = q) := ⟨_, rfl⟩
   rw [HZ.out] at t0
   by_cases hz : z = x
   ·have e : hb = true := by
     cases h9 : hb with
     | true => rfl
     | false => exact absurd ⟨hpl, HZ.out.trans hz⟩ (HH2.out h9)
    subst e
    have hzz : (z == x) = true := by simpa using hz
    clear ho hz
    go_wp2_with fail
    go_meet
    exact ⟨rfl, rfl⟩
   ·have e : hb = false := by
     cases h9 : hb with
     | false => rfl
     | true => exact absurd ((HZ.out.symm).trans (HH1.out h9).2) hz
    subst e
    have hzz : (z == x) = false := by simpa using hz
    clear ho hz
    go_wp2_with fail
    go_meet
    exact ⟨rfl, rfl⟩
  ·have e : hb = false := by
    cases h9 : hb with
    | false => rfl
    | true => exact absurd (HH1.out h9).1 hpl
   subst e
   have h0 : ¬ (0 : Int) < (nr : Int) := by have := HNr.out; omega
   go_wp2_with fail
   go_meet
   exact ⟨rfl, rfl⟩
 obtain ⟨rfl, hwc⟩ := hcut
 obtain rfl := hwc.symm
 clear hwc
 obtain ⟨h1, HH⟩ : ∃ q : Nat, Hid ((if hb then 1 else 0) = q) := ⟨_, rfl⟩
 obtain ⟨d0, HD0⟩ : ∃ q, Hid ((if hb then M p else ⟨x, 0, 0, 0⟩) = q) := ⟨_, rfl⟩
 have hph : p + h1 ≤ n := by
  have h9 := HH.out
  cases e : hb with
  | true => rw [e] at h9; have := (HH1.out e).1; simp at h9; omega
  | false => rw [e] at h9; simp at h9; omega
 have HB0 : Hid ((0 ≤ d0.gd ∧ d0.gd ≤ 1000) ∧ (0 ≤ d0.bd ∧ d0.bd ≤ 1000) ∧ (0 ≤ d0.ro ∧ d0.ro ≤ 1000)) := by
  have h9 := HD0.out
  cases e : hb with
  | true => rw [e] at h9; simp at h9; rw [← h9]; have := HA.out.g p (HH1.out e).1; exact ⟨by omega, by omega, by omega⟩
  | false => rw [e] at h9; simp at h9; rw [← h9]; exact ⟨by show (0 : Int) ≤ 0 ∧ (0 : Int) ≤ 1000; omega, by show (0 : Int) ≤ 0 ∧ (0 : Int) ≤ 1000; omega, by show (0 : Int) ≤ 0 ∧ (0 : Int) ≤ 1000; omega⟩
 go_upto_if 46 with fail
 go_cut [10, 46] from 47 to 51 (fun v v46 wx => Hid (∃ off', v = .slice (some ⟨b, off', none⟩) (n - p - h1) (cap - p - h1) ∧ (n = p + h1 ∨ off' = (p + h1) * 4) ∧ MsW w wx g1 c1 p X xs d0))
 case first =>
  cases hb with
  | false =>
   have e0 : h1 = 0 := by have := HH.out; simp at this; omega
   subst e0
   have e1 : d0 = ⟨x, 0, 0, 0⟩ := HD0.out.symm
   have HE1 : Hid (d0 = ⟨x, 0, 0, 0⟩) := e1
   clear e1
   go_wp2_with fail
   go_meet
   exact ⟨off, by rw [← HNr.out, ← HCr.out]; rfl, HOff.out, by rw [HE1.out]; exact K3.out⟩
  | true =>
   have e0 : h1 = 1 := by have := HH.out; simp at this; omega
   subst e0
   have hpl := (HH1.out rfl).1
   have h0 : (0 : Int) < (nr : Int) := by have := HNr.out; omega
   have ho : off = p * 4 := by rcases HOff.out with h | h; omega; exact h
   have HR4 := KCw.out w3 K3.out.b p hpl
   have e1 : d0 = M p := HD0.out.symm
   rw [← e1, ← ho] at HR4
   obtain ⟨z0, z1, z2, z3⟩ := d0
   have RR : Hid (w3.rangeAt b off [.int .i64 z0, .int .i64 z1, .int .i64 z2, .int .i64 z3]) := HR4
   have RX : Hid (Row w3 X 29 #[.int .i64 x, .int .i64 0, .int .i64 0, .int .i64 0]) := K3.out.r
   obtain ⟨w4, HW4⟩ : ∃ q, Hid (q = w3.setRow X #[.int .i64 z0, .int .i64 z1, .int .i64 z2, .int .i64 z3]) := ⟨_, rfl⟩
   have K4 : Hid (MsW w w4 g1 c1 p X xs ⟨z0, z1, z2, z3⟩) := by show MsW _ _ _ _ _ _ _ _; rw [HW4.out]; exact K3.out.row (d' := ⟨z0, z1, z2, z3⟩)
   have HO4 : Hid (off = p * 4) := ho
   have hnr1 : 1 ≤ nr := by omega
   clear ho e1 HR4
   go_wp2_with (first | (refine wpList_load_mid (by rfl) 29 _ (by rfl) b off (by rfl) [.int .i64 z0, .int .i64 z1, .int .i64 z2, .int .i64 z3] _ ?_ Tryz.underlying29 (by rfl) Tryz.infoMa ?_; exact RR.out) | (refine wpList_store_row (by rfl) 29 _ _ (by rfl) X #[.int .i64 z0, .int .i64 z1, .int .i64 z2, .int .i64 z3] (by rfl) (by rfl) 29 #[.int .i64 x, .int .i64 0, .int .i64 0, .int .i64 0] ?_ Tryz.infoMa rfl (by simp [Value.oneCell']) ?_; exact RX.out; rw [← HW4.out]) | (refine wpList_from1M (by rfl) _ (by rfl) b off nr cr (by rfl) hnr1 hnr ?_))
   intro off2 hoff2
   have HO5 : Hid (n = p + 1 ∨ off2 = (p + 1) * 4) := by have := HNr.out; have := HO4.out; show _ ∨ _; omega
   clear hoff2
   go_wp2_with fail
   go_meet
   exact ⟨off2, by rw [HNr.out, HCr.out], HO5.out, K4.out⟩
 obtain ⟨off', rfl, hof, hMs⟩ := hcut.out
 obtain ⟨w5, hw5⟩ : ∃ q, q = wc := ⟨_, rfl⟩
 subst hw5
 have K5 : Hid (MsW w w5 g1 c1 p X xs d0) := hMs
 have HOf : Hid (n = p + h1 ∨ off' = (p + h1) * 4) := hof
 obtain ⟨dv, HDV⟩ : ∃ q, Hid (mkV x M n good = q) := ⟨_, rfl⟩
 have HU : Hid (mkU good d0 = dv) := by
  have h9 := HDV.out
  unfold mkV at h9
  rw [Hp.out, Hb.out, HD0.out] at h9
  exact h9
 clear hcut hof hMs K3
 go_upto_if 52 with fail
 go_cut [52] from 53 to 65 (fun v52 wx => Hid (MsW w wx g1 c1 p X xs dv))
 case first =>
  obtain ⟨z0, z1, z2, z3⟩ := d0
  have b1 := HB0.out
  have b1' : (0 ≤ z1 ∧ z1 ≤ 1000) ∧ (0 ≤ z2 ∧ z2 ≤ 1000) ∧ (0 ≤ z3 ∧ z3 ≤ 1000) := b1
  have hw1 : IntKind.i64.wrap (z1 + 1) = z1 + 1 := by rw [IntKind.wrap_i64]; omega
  have hw2 : IntKind.i64.wrap (z2 + 1) = z2 + 1 := by rw [IntKind.wrap_i64]; omega
  have hw3 : IntKind.i64.wrap (z3 + 1) = z3 + 1 := by rw [IntKind.wrap_i64]; omega
  have t1 : w5.cell? ⟨X, 1, none⟩ = some (.int .i64 z1) := K5.out.r.cell 1
  have t2 : w5.cell? ⟨X, 2, none⟩ = some (.int .i64 z2) := K5.out.r.cell 2
  have t3 : w5.cell? ⟨X, 3, none⟩ = some (.int .i64 z3) := K5.out.r.cell 3
  have y1 := K5.out.r.free 1
  have y2 := K5.out.r.free 2
  have y3 := K5.out.r.free 3
  cases good with
  | true =>
   have K6 : Hid (MsW w ((w5.setCell ⟨X, 1, none⟩ (.int .i64 (z1 + 1))).setCell ⟨X, 3, none⟩ (.int .i64 0)) g1 c1 p X xs ⟨z0, z1 + 1, z2, 0⟩) := (K5.out.put (d' := ⟨z0, z1 + 1, z2, z3⟩) 1 _ (K5.out.r.set 1 _)).put 3 _ ((K5.out.r.set 1 _).set 3 _)
   have e9 : dv = ⟨z0, z1 + 1, z2, 0⟩ := HU.out.symm
   have HE9 : Hid (dv = ⟨z0, z1 + 1, z2, 0⟩) := e9
   clear b1 b1' e9
   go_wp2_with fail
   go_meet
   show MsW _ _ _ _ _ _ _ _
   rw [HE9.out]
   exact K6.out
  | false =>
   have K6 : Hid (MsW w ((w5.setCell ⟨X, 2, none⟩ (.int .i64 (z2 + 1))).setCell ⟨X, 3, none⟩ (.int .i64 (z3 + 1))) g1 c1 p X xs ⟨z0, z1, z2 + 1, z3 + 1⟩) := (K5.out.put (d' := ⟨z0, z1, z2 + 1, z3⟩) 2 _ (K5.out.r.set 2 _)).put 3 _ ((K5.out.r.set 2 _).set 3 _)
   have HE9 : Hid (dv = ⟨z0, z1, z2 + 1, z3 + 1⟩) := HU.out.symm
   clear b1 b1'
   go_wp2_with fail
   go_meet
   show MsW _ _ _ _ _ _ _ _
   rw [HE9.out]
   exact K6.out
 have K6 : Hid (MsW w wc g1 c1 p X xs dv) := hcut.out
 obtain ⟨w6, hw6⟩ : ∃ q, q = wc := ⟨_, rfl⟩
 subst hw6
 obtain ⟨v0, v1, v2, v3⟩ := dv
 have RX6 : Hid (Row w6 X 29 #[.int .i64 v0, .int .i64 v1, .int .i64 v2, .int .i64 v3]) := K6.out.r
 obtain ⟨nb, HNB⟩ : ∃ q, Hid (q = w6.heap.size) := ⟨_, rfl⟩
 obtain ⟨w7, HW7⟩ : ∃ q, Hid (q = w6.alloc (.cells #[.int .i64 v0, .int .i64 v1, .int .i64 v2, .int .i64 v3] 29)) := ⟨_, rfl⟩
 have hb7 : Below w6.heap.size w6 w7 := by rw [HW7.out]; exact (Below.refl _ _).alloc (Nat.le_refl _) _
 have KO7 : Hid (w7.ownsRow w.heap.size 29 4 (.slice (some ⟨g1, 0, none⟩) p c1) p xs) := ownsRow_below K6.out.o hb7
 have KN7 : Hid (∀ j u, [Value.int .i64 v0, .int .i64 v1, .int .i64 v2, .int .i64 v3][j]? = some u → w7.cell? ((⟨nb, 0, none⟩ : Addr).add j) = some u) := by
  rw [HW7.out, HNB.out]
  exact World.news_of_block (cs := #[.int .i64 v0, .int .i64 v1, .int .i64 v2, .int .i64 v3]) (t := 29) (fr := (0, 0)) (heap_alloc_new w6 _)
 have KB7 : Hid (Below w.heap.size w w7) := below2 K6.out.b hb7
 have hs7 : w.heap.size ≤ w7.heap.size := KB7.out.size
 clear hcut K5 hb7
 go_wp2_with (first | (refine wpList_load_row (by rfl) 29 _ (by rfl) X (by rfl) 29 #[.int .i64 v0, .int .i64 v1, .int .i64 v2, .int .i64 v3] (0, 0) _ ?_ Tryz.underlying29 (by rfl) Tryz.infoMa ?_; exact RX6.out) | (at_builtin; rw [← HW7.out, ← HNB.out]; refine (show True → _ from ?_) trivial))
 intro _
 refine wpList_appM (by rfl) _ _ (by rfl) w.heap.size g1 p c1 xs (by rfl) KO7.out ⟨nb, 0, none⟩ 1 1 [.int .i64 v0, .int .i64 v1, .int .i64 v2, .int .i64 v3] (by rfl) (by rfl) KN7.out (by simp [Value.oneCell']) (by omega) hs7 ?_
 intro g2 c2 w8 own8 hg8 hat8
 have HG1 : Hid (w.heap.size ≤ g1) := (World.ownsRow.lt KO7.out g1 rfl).1
 have KO8 : Hid (w8.ownsRow w.heap.size 29 4 (.slice (some ⟨g2, 0, none⟩) (p + 1) c2) (p + 1) (xs ++ [.int .i64 v0, .int .i64 v1, .int .i64 v2, .int .i64 v3])) := own8
 have KB8 : Hid (Below w.heap.size w w8) := KB7.out.grown hg8 hs7 (fun q e => by cases e; exact HG1.out)
 have hs8 : w.heap.size ≤ w8.heap.size := KB8.out.size
 have KC8 : Hid (∀ j u, ((maL n M).drop (4 * (p + h1)))[j]? = some u → w8.cell? ((⟨b, off', none⟩ : Addr).add j) = some u) := fun j u hu => by
  rw [List.getElem?_drop] at hu
  have hj : 4 * (p + h1) + j < 4 * n := by have := (List.getElem?_eq_some_iff.1 hu).1; rw [maL_len] at this; exact this
  have ho : off' = (p + h1) * 4 := by rcases HOf.out with h | h; omega; exact h
  rw [Addr.add_mid, KB8.out.cell (p := ⟨b, off' + j, none⟩) HBL.out, ho, Nat.mul_comm]
  exact KC.out _ u hu
 have hl8 : ((maL n M).drop (4 * (p + h1))).length = (n - p - h1) * 4 := by rw [List.length_drop, maL_len]; omega
 have hle8 : p + 1 + (n - p - h1) ≤ 1000000 := by omega
 clear own8 hg8 hat8 KO7 KN7 HW7 HNB
 go_wp2_with (at_builtin; refine (show True → _ from ?_) trivial)
 intro _
 refine wpList_appM (by rfl) _ _ (by rfl) w.heap.size g2 (p + 1) c2 (xs ++ [.int .i64 v0, .int .i64 v1, .int .i64 v2, .int .i64 v3]) (by rfl) KO8.out ⟨b, off', none⟩ (n - p - h1) (cap - p - h1) ((maL n M).drop (4 * (p + h1))) (by rfl) hl8 KC8.out (fun u hu => HOC.out u (List.mem_of_mem_drop hu)) hle8 hs8 ?_
 intro g3 c3 w9 own9 hg9 hat9
 have HG2 : Hid (w.heap.size ≤ g2) := (World.ownsRow.lt KO8.out g2 rfl).1
 have KB9 : Hid (Below w.heap.size w w9) := KB8.out.grown hg9 hs8 (fun q e => by cases e; exact HG2.out)
 have eN : p + 1 + (n - p - h1) = mkN x M n := by
  unfold mkN
  rw [Hb.out]
  have h9 := HH.out
  cases e : hb with
  | true => rw [e] at h9; simp at h9; simp; omega
  | false => rw [e] at h9; simp at h9; simp; omega
 have eL : (xs ++ [Value.int .i64 v0, .int .i64 v1, .int .i64 v2, .int .i64 v3]) ++ (maL n M).drop (4 * (p + h1)) = maL (mkN x M n) (mkM x M n good) := by
  rw [← mk_list, Hp.out, Hb.out, HH.out, HXS.out, HDV.out]
  rfl
 rw [eN, eL] at own9
 rw [eN]
 have KO9 : Hid _ := own9
 clear own9 hg9 hat9 eN eL
 go_wp2
 go_ret
 exact ⟨g3, c3, rfl, KO9.out, KB9.out⟩
end Go.Proofs.YtaenoiffamgcfaaGreatDoor
