/- The plain mathematics of polynomials over the field of 256 numbers: products, values, division, the polynomial through places. A polynomial is the row of its numbers, a function from places to numbers. Nothing of Go's text is used; conditions stand at each theorem. -/
import Derived.Test.YtcnigfejpfcfaaaQGf
import Derived.Test.YtcnigfejpfcfaaaJ1
import Derived.Deep.RegionHeld3
import Derived.Deep.AppendLies
import Derived.Test.YtcnigfejpfcfaaaQDraw
namespace Go.Proofs.Ytcnigfejpfcfaaa.Gp

/-- The product, at every two numbers. -/
def m (a b : Nat) : Nat := Gf.mul (a % 256) (b % 256)
theorem m_lt (a b : Nat) : m a b < 256 := Gf.mul_lt (by omega) (by omega)
theorem m_mod (a b : Nat) : m a b % 256 = m a b := Nat.mod_eq_of_lt (m_lt a b)
theorem m_comm (a b : Nat) : m a b = m b a := Gf.mul_comm (by omega) (by omega)
theorem m_assoc (a b c : Nat) : m (m a b) c = m a (m b c) := by
  show Gf.mul (m a b % 256) _ = Gf.mul _ (m b c % 256)
  rw [m_mod, m_mod]
  exact Gf.mul_assoc (by omega) (by omega) (by omega)
theorem m_left (a b c : Nat) : m a (m b c) = m b (m a c) := by rw [← m_assoc, m_comm a b, m_assoc]
theorem xor_mod (b c : Nat) : (b ^^^ c) % 256 = (b % 256) ^^^ (c % 256) := Nat.xor_mod_two_pow (n := 8)
theorem m_xor (a b c : Nat) : m a (b ^^^ c) = m a b ^^^ m a c := by
  unfold m
  rw [xor_mod, Gf.mul_xor]
theorem xor_m (a b c : Nat) : m (b ^^^ c) a = m b a ^^^ m c a := by rw [m_comm, m_xor, m_comm a b, m_comm a c]
theorem m_zero (a : Nat) : m a 0 = 0 := Gf.mul_zero (by omega)
theorem zero_m (a : Nat) : m 0 a = 0 := Gf.zero_mul (by omega)
theorem m_one {a : Nat} (h : a < 256) : m a 1 = a := by
  unfold m
  rw [Nat.mod_eq_of_lt h]
  exact Gf.mul_one h
theorem one_m {a : Nat} (h : a < 256) : m 1 a = a := by rw [m_comm, m_one h]
theorem m_nat {a b : Nat} (ha : a < 256) (hb : b < 256) : Gf.mul a b = m a b := by unfold m; rw [Nat.mod_eq_of_lt ha, Nat.mod_eq_of_lt hb]
theorem m_inv {a : Nat} (ha : a < 256) (a0 : a ≠ 0) : m a (Gf.inv a) = 1 := by rw [← m_nat ha (Gf.inv_lt a), Gf.mul_inv ha a0]
theorem m_ne {a b : Nat} (ha : a < 256) (hb : b < 256) (a0 : a ≠ 0) (b0 : b ≠ 0) : m a b ≠ 0 := by rw [← m_nat ha hb]; exact Gf.mul_ne ha hb a0 b0
theorem xor_self (a : Nat) : a ^^^ a = 0 := Nat.xor_self a
theorem xor_left (a b c : Nat) : a ^^^ (b ^^^ c) = b ^^^ (a ^^^ c) := by rw [← Nat.xor_assoc, Nat.xor_comm a b, Nat.xor_assoc]
theorem xor_can (a b : Nat) : a ^^^ (a ^^^ b) = b := by rw [← Nat.xor_assoc, Nat.xor_self, Nat.zero_xor]
theorem xor_eq {a b : Nat} (h : a ^^^ b = 0) : a = b := by
  have h2 : a ^^^ (a ^^^ b) = a ^^^ 0 := by rw [h]
  rw [xor_can, Nat.xor_zero] at h2
  exact h2.symm
theorem xor_lt {a b : Nat} (ha : a < 256) (hb : b < 256) : a ^^^ b < 256 := Gf.xor_lt ha hb

/-- All its numbers are byte numbers, and none but 0 stands from 'n' on. -/
def Pol (f : Nat → Nat) (n : Nat) : Prop := (∀ i, f i < 256) ∧ ∀ i, n ≤ i → f i = 0
theorem Pol.more {f : Nat → Nat} {n k : Nat} (h : Pol f n) (hk : n ≤ k) : Pol f k := ⟨h.1, fun i hi => h.2 i (Nat.le_trans hk hi)⟩

/-- The length without the noughts at the end. -/
def tl (f : Nat → Nat) : Nat → Nat
  | 0 => 0
  | n + 1 => if f n = 0 then tl f n else n + 1
theorem tl_le (f : Nat → Nat) (n : Nat) : tl f n ≤ n := by
  induction n with
  | zero => exact Nat.le_refl _
  | succ n ih => unfold tl; split <;> omega
theorem tl_zero (f : Nat → Nat) (n : Nat) : ∀ i, tl f n ≤ i → i < n → f i = 0 := by
  induction n with
  | zero => intro i _ h; omega
  | succ n ih =>
    intro i h1 h2
    unfold tl at h1
    split at h1
    · by_cases e : i = n
      · subst e; assumption
      · exact ih i h1 (by omega)
    · omega
theorem tl_last (f : Nat → Nat) (n : Nat) (h : 0 < tl f n) : f (tl f n - 1) ≠ 0 := by
  induction n with
  | zero => simp [tl] at h
  | succ n ih =>
    unfold tl at h ⊢
    split
    · rename_i h0
      rw [if_pos h0] at h
      exact ih h
    · simpa
/-- What the trimmed length is. -/
theorem tl_is (f : Nat → Nat) (n t : Nat) (ht : t ≤ n) (hz : ∀ i, t ≤ i → i < n → f i = 0) (hl : t = 0 ∨ f (t - 1) ≠ 0) : tl f n = t := by
  have h1 := tl_le f n
  have h2 := tl_zero f n
  have h3 := tl_last f n
  rcases Nat.lt_trichotomy (tl f n) t with h | h | h
  · rcases hl with hl | hl
    · omega
    · exact absurd (h2 (t - 1) (by omega) (by omega)) hl
  · exact h
  · exact absurd (hz (tl f n - 1) (by omega) (by omega)) (h3 (by omega))
theorem tl_more {f : Nat → Nat} {n : Nat} (hz : ∀ i, n ≤ i → f i = 0) (k : Nat) (hk : n ≤ k) : tl f k = tl f n := by
  refine tl_is f k (tl f n) (Nat.le_trans (tl_le f n) hk) ?_ ?_
  · intro i h1 h2
    by_cases e : i < n
    · exact tl_zero f n i h1 e
    · exact hz i (by omega)
  · by_cases e : tl f n = 0
    · exact .inl e
    · exact .inr (tl_last f n (by omega))
theorem Pol.tl {f : Nat → Nat} {n : Nat} (h : Pol f n) : Pol f (tl f n) :=
  ⟨h.1, fun i hi => by
    by_cases e : i < n
    · exact tl_zero f n i hi e
    · exact h.2 i (by omega)⟩
theorem tl_idem (f : Nat → Nat) (n : Nat) : Gp.tl f (Gp.tl f n) = Gp.tl f n :=
  tl_is f _ _ (Nat.le_refl _) (fun i h1 h2 => by omega) (by
    by_cases e : Gp.tl f n = 0
    · exact .inl e
    · exact .inr (tl_last f n (by omega)))
theorem tl_congr {f g : Nat → Nat} (n : Nat) (h : ∀ i, i < n → f i = g i) : Gp.tl f n = Gp.tl g n := by
  induction n with
  | zero => rfl
  | succ n ih => unfold Gp.tl; rw [h n (by omega), ih (fun i hi => h i (by omega))]

/-! ### Sums and products -/
def ad (f g : Nat → Nat) (i : Nat) : Nat := f i ^^^ g i
def sh (k : Nat) (b : Nat → Nat) (i : Nat) : Nat := if k ≤ i then b (i - k) else 0
/-- The first 'k' rows of the product. -/
def cv (a b : Nat → Nat) : Nat → Nat → Nat
  | 0, _ => 0
  | k + 1, i => cv a b k i ^^^ m (sh k b i) (a k)
theorem cv_s (a b : Nat → Nat) (k i : Nat) : cv a b (k + 1) i = cv a b k i ^^^ m (sh k b i) (a k) := rfl
theorem ad_pol {f g : Nat → Nat} {n k : Nat} (hf : Pol f n) (hg : Pol g k) : Pol (ad f g) (max n k) :=
  ⟨fun i => xor_lt (hf.1 i) (hg.1 i), fun i hi => by unfold ad; rw [hf.2 i (by omega), hg.2 i (by omega)]; rfl⟩
theorem cv_lt (a b : Nat → Nat) (k i : Nat) : cv a b k i < 256 := by
  induction k with
  | zero => unfold cv; omega
  | succ k ih => unfold cv; exact xor_lt ih (m_lt _ _)
/-- Above its length a product has nothing. -/
theorem cv_high (a b : Nat → Nat) (nb : Nat) (hb : ∀ i, nb ≤ i → b i = 0) (k i : Nat) (hi : k + nb ≤ i + 1) : cv a b k i = 0 := by
  induction k with
  | zero => rfl
  | succ k ih =>
    unfold cv
    rw [ih (by omega), show sh k b i = 0 by unfold sh; rw [if_pos (by omega), hb _ (by omega)], zero_m]
    rfl
theorem cv_pol {a b : Nat → Nat} {na nb : Nat} (hb : Pol b nb) : Pol (cv a b na) (na + nb) :=
  ⟨fun i => cv_lt a b na i, fun i hi => cv_high a b nb hb.2 na i (by omega)⟩
theorem cv_zero_rows (a b : Nat → Nat) (na k i : Nat) (ha : ∀ j, na ≤ j → a j = 0) (hk : na ≤ k) : cv a b k i = cv a b na i := by
  induction k with
  | zero => rw [show na = 0 by omega]
  | succ k ih =>
    by_cases e : na = k + 1
    · rw [e]
    · rw [cv_s, ha k (by omega), m_zero, Nat.xor_zero, ih (by omega)]
/-- The product's last number. -/
theorem cv_top (a b : Nat → Nat) (na nb : Nat) (hb : ∀ i, nb ≤ i → b i = 0) (h1 : 0 < na) (h2 : 0 < nb) : cv a b na (na + nb - 2) = m (b (nb - 1)) (a (na - 1)) := by
  obtain ⟨k, rfl⟩ : ∃ k, na = k + 1 := ⟨na - 1, by omega⟩
  show cv a b k _ ^^^ _ = _
  rw [cv_high a b nb hb k _ (by omega), Nat.zero_xor]
  congr 1
  unfold sh
  rw [if_pos (by omega)]
  congr 1
  omega
/-- A product by nothing but 1. -/
def one (i : Nat) : Nat := if i = 0 then 1 else 0
theorem one_pol : Pol one 1 := ⟨fun i => by unfold one; split <;> omega, fun i hi => by unfold one; rw [if_neg (by omega)]⟩
theorem cv_one {b : Nat → Nat} (hb : ∀ i, b i < 256) (i : Nat) : cv one b 1 i = b i := by
  show 0 ^^^ m (sh 0 b i) 1 = _
  rw [Nat.zero_xor]
  unfold sh
  simp [m_one (hb i)]

/-! ### Values -/
/-- The value of the numbers from place 'k' on, 'r' of them. -/
def hn (p : Nat → Nat) (x : Nat) : Nat → Nat → Nat
  | 0, _ => 0
  | r + 1, k => m (hn p x r (k + 1)) x ^^^ p k
def ev (p : Nat → Nat) (x n : Nat) : Nat := hn p x n 0
theorem hn_lt {p : Nat → Nat} (hp : ∀ i, p i < 256) (x r k : Nat) : hn p x r k < 256 := by
  cases r with
  | zero => unfold hn; omega
  | succ r => unfold hn; exact xor_lt (m_lt _ _) (hp k)
def pw (x : Nat) : Nat → Nat
  | 0 => 1
  | n + 1 => m (pw x n) x
def ps (p : Nat → Nat) (x : Nat) : Nat → Nat
  | 0 => 0
  | n + 1 => ps p x n ^^^ m (p n) (pw x n)
theorem hn_s (p : Nat → Nat) (x r k : Nat) : hn p x (r + 1) k = m (hn p x r (k + 1)) x ^^^ p k := rfl
theorem pw_s (x n : Nat) : pw x (n + 1) = m (pw x n) x := rfl
theorem ps_0 (p : Nat → Nat) (x : Nat) : ps p x 0 = 0 := rfl
theorem ps_s (p : Nat → Nat) (x n : Nat) : ps p x (n + 1) = ps p x n ^^^ m (p n) (pw x n) := rfl
theorem hn_ps (p : Nat → Nat) (x r k : Nat) : ps p x k ^^^ m (hn p x r k) (pw x k) = ps p x (k + r) := by
  induction r generalizing k with
  | zero => unfold hn; rw [zero_m, Nat.xor_zero]; rfl
  | succ r ih =>
    have h := ih (k + 1)
    rw [show k + (r + 1) = k + 1 + r by omega, ← h, hn_s, ps_s, pw_s, xor_m, m_assoc, m_comm x (pw x k), Nat.xor_assoc, Nat.xor_comm (m (p k) (pw x k))]
theorem ev_ps {p : Nat → Nat} (hp : ∀ i, p i < 256) (x n : Nat) : ev p x n = ps p x n := by
  have h := hn_ps p x n 0
  rw [Nat.zero_add] at h
  rw [← h]
  show _ = 0 ^^^ m _ 1
  rw [Nat.zero_xor, m_one (hn_lt hp _ _ _)]
  rfl
theorem ps_ad (f g : Nat → Nat) (x n : Nat) : ps (ad f g) x n = ps f x n ^^^ ps g x n := by
  induction n with
  | zero => rw [ps_0, ps_0, ps_0, xor_self]
  | succ n ih =>
    rw [ps_s, ps_s, ps_s, ih, show ad f g n = f n ^^^ g n from rfl, xor_m]
    simp only [Nat.xor_assoc, xor_left]
theorem ps_scale (f : Nat → Nat) (c x n : Nat) : ps (fun i => m (f i) c) x n = m (ps f x n) c := by
  induction n with
  | zero => rw [ps_0, ps_0, zero_m]
  | succ n ih => rw [ps_s, ps_s, ih, xor_m, m_assoc, m_assoc, m_comm c]
theorem ps_more {f : Nat → Nat} {n : Nat} (hf : ∀ i, n ≤ i → f i = 0) (x k : Nat) (hk : n ≤ k) : ps f x k = ps f x n := by
  induction k with
  | zero => rw [show n = 0 by omega]
  | succ k ih =>
    by_cases e : n = k + 1
    · rw [e]
    · rw [ps_s, hf k (by omega), zero_m, Nat.xor_zero, ih (by omega)]
theorem pw_lt (x n : Nat) : pw x n < 256 := by
  cases n with
  | zero => unfold pw; omega
  | succ n => unfold pw; exact m_lt _ _
theorem pw_add (x k n : Nat) : pw x (k + n) = m (pw x n) (pw x k) := by
  induction n with
  | zero => show _ = m 1 _; rw [one_m (pw_lt _ _)]; rfl
  | succ n ih =>
    show m (pw x (k + n)) x = m (m (pw x n) x) (pw x k)
    rw [ih, m_assoc, m_assoc, m_comm x]
theorem ps_sh0 (b : Nat → Nat) (k x : Nat) : ps (sh k b) x k = 0 := by
  have h : ∀ n, n ≤ k → ps (sh k b) x n = 0 := by
    intro n
    induction n with
    | zero => intro _; rfl
    | succ n ih =>
      intro hn
      rw [ps_s, ih (by omega), show sh k b n = 0 by unfold sh; rw [if_neg (by omega)], zero_m, xor_self]
  exact h k (Nat.le_refl _)
theorem ps_sh (b : Nat → Nat) (k x n : Nat) : ps (sh k b) x (k + n) = m (ps b x n) (pw x k) := by
  induction n with
  | zero => rw [Nat.add_zero, ps_sh0, ps_0, zero_m]
  | succ n ih =>
    rw [← Nat.add_assoc, ps_s, ps_s, ih, xor_m, show sh k b (k + n) = b n by unfold sh; rw [if_pos (by omega)]; congr 1; omega, pw_add, m_assoc]
theorem ps_cv (a b : Nat → Nat) (nb x N k : Nat) (hb : ∀ i, nb ≤ i → b i = 0) (hN : k + nb ≤ N) : ps (cv a b k) x N = m (ps b x nb) (ps a x k) := by
  induction k with
  | zero =>
    have h : ∀ n, ps (cv a b 0) x n = 0 := by
      intro n
      induction n with
      | zero => rfl
      | succ n ih => rw [ps_s, ih, show cv a b 0 n = 0 from rfl, zero_m, xor_self]
    rw [h, ps_0, m_zero]
  | succ k ih =>
    have e : cv a b (k + 1) = ad (cv a b k) (fun i => m (sh k b i) (a k)) := rfl
    rw [e, ps_ad, ih (by omega), ps_scale, ps_s a, m_xor, ps_more (f := sh k b) (n := k + nb) (fun i hi => by unfold sh; rw [if_pos (by omega), hb _ (by omega)]) x N (by omega), ps_sh, m_assoc, m_comm (pw x k)]

/-! ### Division -/
section
variable (a b : Nat → Nat) (lead nb T : Nat)
/-- The rest behind 's' rounds. -/
def dr : Nat → Nat → Nat
  | 0, i => a i
  | s + 1, i => dr s i ^^^ m (sh (T - 1 - s) b i) (m (dr s (T - 1 - s + nb - 1)) lead)
/-- The quotient's number that round 's' finds. -/
def dc (s : Nat) : Nat := m (dr a b lead nb T s (T - 1 - s + nb - 1)) lead
/-- The quotient behind 's' rounds. -/
def dq (s i : Nat) : Nat := if T - s ≤ i ∧ i < T then dc a b lead nb T (T - 1 - i) else 0
theorem dr_succ (s i : Nat) : dr a b lead nb T (s + 1) i = dr a b lead nb T s i ^^^ m (sh (T - 1 - s) b i) (dc a b lead nb T s) := rfl
theorem dr_lt (ha : ∀ i, a i < 256) (s i : Nat) : dr a b lead nb T s i < 256 := by
  induction s with
  | zero => exact ha i
  | succ s ih => rw [dr_succ]; exact xor_lt ih (m_lt _ _)
theorem dc_lt (s : Nat) : dc a b lead nb T s < 256 := m_lt _ _
theorem dq_pol (s : Nat) : Pol (dq a b lead nb T s) T :=
  ⟨fun i => by unfold dq; split; exact dc_lt _ _ _ _ _ _; omega, fun i hi => by unfold dq; rw [if_neg (by omega)]⟩
theorem dq_set (s : Nat) (hs : s < T) (i : Nat) : dq a b lead nb T (s + 1) i = if i = T - 1 - s then dc a b lead nb T s else dq a b lead nb T s i := by
  unfold dq
  by_cases e : i = T - 1 - s
  · subst e
    rw [if_pos (by omega), if_pos rfl]
    congr 1
    omega
  · rw [if_neg e]
    by_cases h : T - s ≤ i ∧ i < T
    · rw [if_pos h, if_pos (by omega)]
    · rw [if_neg h, if_neg (by omega)]
/-- What is divided is the quotient times what it is divided by, and the rest. -/
theorem dr_sum (s : Nat) (hs : s ≤ T) (i : Nat) : cv (dq a b lead nb T T) b T i = cv (dq a b lead nb T T) b (T - s) i ^^^ (a i ^^^ dr a b lead nb T s i) := by
  induction s with
  | zero => show _ = _ ^^^ (a i ^^^ a i); rw [xor_self, Nat.xor_zero]; rfl
  | succ s ih =>
    rw [ih (by omega), dr_succ, show T - s = T - 1 - s + 1 by omega, show T - (s + 1) = T - 1 - s by omega]
    show (cv _ b (T - 1 - s) i ^^^ m (sh (T - 1 - s) b i) (dq a b lead nb T T (T - 1 - s))) ^^^ _ = _
    rw [show dq a b lead nb T T (T - 1 - s) = dc a b lead nb T s by
      unfold dq
      rw [if_pos (by omega)]
      congr 1
      omega]
    rw [Nat.xor_assoc]
    congr 1
    rw [xor_left, Nat.xor_comm (m _ _) (dr a b lead nb T s i)]
theorem dr_all (i : Nat) : cv (dq a b lead nb T T) b T i ^^^ dr a b lead nb T T i = a i := by
  rw [dr_sum a b lead nb T T (Nat.le_refl _) i, Nat.sub_self]
  show (0 ^^^ _) ^^^ _ = _
  rw [Nat.zero_xor, Nat.xor_assoc, xor_self, Nat.xor_zero]
/-- The rest is shorter than what it was divided by. -/
theorem dr_short (hnb : 0 < nb) (ha : Pol a (T + nb - 1)) (hb : ∀ i, nb ≤ i → b i = 0) (hl : m (b (nb - 1)) lead = 1) (s : Nat) (hs : s ≤ T) (i : Nat) (hi : T - s + nb - 1 ≤ i) : dr a b lead nb T s i = 0 := by
  induction s generalizing i with
  | zero => exact ha.2 i (by omega)
  | succ s ih =>
    rw [dr_succ]
    by_cases e : i = T - 1 - s + nb - 1
    · rw [show sh (T - 1 - s) b i = b (nb - 1) by unfold sh; rw [if_pos (by omega)]; congr 1; omega]
      unfold dc
      rw [← e, m_left, hl, m_one (dr_lt a b lead nb T ha.1 s i), xor_self]
    · rw [ih (by omega) i (by omega), show sh (T - 1 - s) b i = 0 by unfold sh; rw [if_pos (by omega), hb _ (by omega)], zero_m]
      rfl
/-- A product that is divided by one of its two gives the other. -/
theorem dr_exact (p : Nat → Nat) (hp : ∀ i, p i < 256) (hnb : 0 < nb) (hb : ∀ i, nb ≤ i → b i = 0) (hl : m (b (nb - 1)) lead = 1) (ha : ∀ i, a i = cv p b T i) (s : Nat) (hs : s ≤ T) (i : Nat) : dr a b lead nb T s i = cv p b (T - s) i := by
  induction s generalizing i with
  | zero => exact ha i
  | succ s ih =>
    have hT : T - s = T - 1 - s + 1 := by omega
    have hc : dc a b lead nb T s = p (T - 1 - s) := by
      unfold dc
      rw [ih (by omega), hT]
      show m (cv p b (T - 1 - s) _ ^^^ m (sh (T - 1 - s) b _) (p (T - 1 - s))) lead = _
      rw [cv_high p b nb hb _ _ (by omega), Nat.zero_xor, show sh (T - 1 - s) b (T - 1 - s + nb - 1) = b (nb - 1) by unfold sh; rw [if_pos (by omega)]; congr 1; omega, m_assoc, m_left, hl, m_one (hp _)]
    rw [dr_succ, hc, ih (by omega), hT, show T - (s + 1) = T - 1 - s by omega]
    show (cv p b (T - 1 - s) i ^^^ m (sh (T - 1 - s) b i) (p (T - 1 - s))) ^^^ _ = _
    rw [Nat.xor_assoc, xor_self, Nat.xor_zero]
theorem dq_exact (p : Nat → Nat) (hp : Pol p T) (hnb : 0 < nb) (hb : ∀ i, nb ≤ i → b i = 0) (hl : m (b (nb - 1)) lead = 1) (ha : ∀ i, a i = cv p b T i) (i : Nat) : dq a b lead nb T T i = p i := by
  unfold dq
  by_cases h : T - T ≤ i ∧ i < T
  · rw [if_pos h]
    unfold dc
    rw [dr_exact a b lead nb T p hp.1 hnb hb hl ha _ (by omega), show T - (T - 1 - i) = i + 1 by omega, show T - 1 - (T - 1 - i) = i by omega]
    show m (cv p b i _ ^^^ m (sh i b _) (p i)) lead = _
    rw [cv_high p b nb hb _ _ (by omega), Nat.zero_xor, show sh i b (i + nb - 1) = b (nb - 1) by unfold sh; rw [if_pos (by omega)]; congr 1; omega, m_assoc, m_left, hl, m_one (hp.1 _)]
  · rw [if_neg h, hp.2 i (by omega)]
end

/-! ### The polynomial through places -/
/-- The polynomial of two numbers that is 0 at 'x'. -/
def l2 (x : Nat) (i : Nat) : Nat := if i = 0 then x else if i = 1 then 1 else 0
theorem l2_pol {x : Nat} (h : x < 256) : Pol (l2 x) 2 := ⟨fun i => by unfold l2; split; exact h; split <;> omega, fun i hi => by unfold l2; rw [if_neg (by omega), if_neg (by omega)]⟩
def lin (x : Nat) (p : Nat → Nat) : Nat → Nat
  | 0 => m (p 0) x
  | i + 1 => m (p (i + 1)) x ^^^ p i
theorem lin_pol {x : Nat} {p : Nat → Nat} {n : Nat} (hp : Pol p n) : Pol (lin x p) (n + 1) :=
  ⟨fun i => by cases i with
    | zero => exact m_lt _ _
    | succ i => exact xor_lt (m_lt _ _) (hp.1 i),
  fun i hi => by cases i with
    | zero => omega
    | succ i => show m _ _ ^^^ _ = 0; rw [hp.2 (i + 1) (by omega), hp.2 i (by omega), zero_m]; rfl⟩
theorem cv_l2 (x : Nat) (p : Nat → Nat) (hp : ∀ i, p i < 256) (k i : Nat) : cv p (l2 x) k i = (if i < k then m (p i) x else 0) ^^^ (if 0 < i ∧ i < k + 1 then p (i - 1) else 0) := by
  induction k with
  | zero => show 0 = _; rw [if_neg (by omega), if_neg (by omega)]; rfl
  | succ k ih =>
    unfold cv
    rw [ih]
    by_cases h1 : i = k
    · subst h1
      rw [if_neg (by omega), if_pos (show i < i + 1 by omega), show sh i (l2 x) i = x by unfold sh; simp [l2], m_comm x, Nat.zero_xor, Nat.xor_comm]
      congr 1
      by_cases h2 : 0 < i
      · rw [if_pos (by omega), if_pos (by omega)]
      · rw [if_neg (by omega), if_neg (by omega)]
    · by_cases h2 : i = k + 1
      · subst h2
        rw [if_neg (by omega), if_neg (by omega), if_neg (by omega), if_pos (by omega), show sh k (l2 x) (k + 1) = 1 by unfold sh; rw [if_pos (by omega), show k + 1 - k = 1 by omega]; rfl, one_m (hp k)]
        rfl
      · have h3 : sh k (l2 x) i = 0 := by
          unfold sh
          by_cases h4 : k ≤ i
          · rw [if_pos h4]
            unfold l2
            rw [if_neg (by omega), if_neg (by omega)]
          · rw [if_neg h4]
        rw [h3, zero_m, Nat.xor_zero]
        by_cases h4 : i < k
        · rw [if_pos h4, if_pos (show i < k + 1 by omega)]
          by_cases h5 : 0 < i
          · rw [if_pos (by omega), if_pos (by omega)]
          · rw [if_neg (by omega), if_neg (by omega)]
        · rw [if_neg h4, if_neg (by omega), if_neg (by omega), if_neg (by omega)]
theorem cv_lin {x : Nat} {p : Nat → Nat} {n : Nat} (hp : Pol p n) (i : Nat) : cv p (l2 x) n i = lin x p i := by
  rw [cv_l2 x p hp.1]
  cases i with
  | zero =>
    rw [if_neg (show ¬ (0 < 0 ∧ _) by omega), Nat.xor_zero]
    by_cases h : 0 < n
    · rw [if_pos h]; rfl
    · rw [if_neg h]; show 0 = m _ _; rw [hp.2 0 (by omega), zero_m]
  | succ i =>
    show _ = m (p (i + 1)) x ^^^ p i
    have e1 : (if i + 1 < n then m (p (i + 1)) x else 0) = m (p (i + 1)) x := by
      by_cases h : i + 1 < n
      · rw [if_pos h]
      · rw [if_neg h, hp.2 (i + 1) (by omega), zero_m]
    have e2 : (if 0 < i + 1 ∧ i + 1 < n + 1 then p (i + 1 - 1) else 0) = p i := by
      by_cases h : i + 1 < n + 1
      · rw [if_pos ⟨by omega, h⟩]; rfl
      · rw [if_neg (by omega), hp.2 i (by omega)]
    rw [e1, e2]
theorem lin_comm (x y : Nat) (p : Nat → Nat) : lin x (lin y p) = lin y (lin x p) := by
  funext i
  match i with
  | 0 => show m (m _ _) _ = m (m _ _) _; rw [m_assoc, m_assoc, m_comm y]
  | 1 =>
    show m (m (p 1) y ^^^ p 0) x ^^^ m (p 0) y = m (m (p 1) x ^^^ p 0) y ^^^ m (p 0) x
    rw [xor_m, xor_m, m_assoc, m_assoc, m_comm y x, Nat.xor_assoc, Nat.xor_assoc, Nat.xor_comm (m (p 0) x)]
  | i + 2 =>
    show m (m (p (i + 2)) y ^^^ p (i + 1)) x ^^^ (m (p (i + 1)) y ^^^ p i) = m (m (p (i + 2)) x ^^^ p (i + 1)) y ^^^ (m (p (i + 1)) x ^^^ p i)
    rw [xor_m, xor_m, m_assoc, m_assoc, m_comm y x, Nat.xor_assoc, Nat.xor_assoc, xor_left (m (p (i + 1)) x)]
/-- The value of a product by the polynomial that is 0 at 'x'. -/
theorem ps_lin (x y : Nat) (p : Nat → Nat) (n : Nat) : ps (lin x p) y (n + 1) = m (ps p y (n + 1)) x ^^^ m (ps p y n) y := by
  induction n with
  | zero =>
    show (0 ^^^ m (m (p 0) x) 1) = m (0 ^^^ m (p 0) 1) x ^^^ m 0 y
    rw [zero_m, Nat.zero_xor, Nat.zero_xor, Nat.xor_zero, m_assoc, m_assoc, m_comm x 1]
  | succ n ih =>
    show ps (lin x p) y (n + 1) ^^^ m (m (p (n + 1)) x ^^^ p n) (pw y (n + 1)) = m (ps p y (n + 1) ^^^ m (p (n + 1)) (pw y (n + 1))) x ^^^ m (ps p y n ^^^ m (p n) (pw y n)) y
    rw [ih, xor_m, xor_m, xor_m]
    have e1 : m (m (p (n + 1)) (pw y (n + 1))) x = m (m (p (n + 1)) x) (pw y (n + 1)) := by rw [m_assoc, m_assoc, m_comm x]
    have e2 : m (m (p n) (pw y n)) y = m (p n) (pw y (n + 1)) := by rw [m_assoc]; rfl
    rw [e1, e2]
    simp only [Nat.xor_assoc, xor_left]
theorem ps_lin' {x y : Nat} {p : Nat → Nat} {n : Nat} (hp : Pol p n) : ps (lin x p) y (n + 1) = m (ps p y n) (y ^^^ x) := by
  rw [ps_lin, ps_more hp.2 y (n + 1) (by omega), m_xor, Nat.xor_comm]
/-- The product over the first 'k' places, and over them without place 'i'. -/
def pr (xs : Nat → Nat) : Nat → Nat → Nat
  | 0 => one
  | k + 1 => lin (xs k) (pr xs k)
def po (xs : Nat → Nat) (i : Nat) : Nat → Nat → Nat
  | 0 => one
  | k + 1 => if k = i then po xs i k else lin (xs k) (po xs i k)
/-- The length of the second. -/
def pl (i k : Nat) : Nat := if i < k then k else k + 1
theorem pr_pol (xs : Nat → Nat) (k : Nat) : Pol (pr xs k) (k + 1) := by
  induction k with
  | zero => exact one_pol
  | succ k ih => exact lin_pol ih
theorem pr_top (xs : Nat → Nat) (k : Nat) : pr xs k k = 1 := by
  induction k with
  | zero => rfl
  | succ k ih =>
    show m (pr xs k (k + 1)) _ ^^^ pr xs k k = 1
    rw [(pr_pol xs k).2 (k + 1) (by omega), zero_m, ih]
    rfl
theorem po_out (xs : Nat → Nat) (i k : Nat) (h : k ≤ i) : po xs i k = pr xs k := by
  induction k with
  | zero => rfl
  | succ k ih =>
    show (if k = i then _ else _) = _
    rw [if_neg (by omega), ih (by omega)]
    rfl
theorem po_in (xs : Nat → Nat) (i k : Nat) (h : i < k) : pr xs k = lin (xs i) (po xs i k) := by
  induction k with
  | zero => omega
  | succ k ih =>
    show lin (xs k) (pr xs k) = lin (xs i) (if k = i then _ else _)
    by_cases e : k = i
    · subst e
      rw [if_pos rfl, po_out xs k k (Nat.le_refl _)]
    · rw [if_neg e, ih (by omega), lin_comm]
theorem po_pol (xs : Nat → Nat) (i k : Nat) : Pol (po xs i k) (pl i k) := by
  induction k with
  | zero => unfold pl; rw [if_neg (by omega)]; exact one_pol
  | succ k ih =>
    show Pol (if k = i then _ else _) _
    by_cases e : k = i
    · subst e
      rw [if_pos rfl]
      unfold pl at ih ⊢
      rw [if_neg (by omega)] at ih
      rw [if_pos (by omega)]
      exact ih
    · rw [if_neg e]
      have h := lin_pol (x := xs k) ih
      unfold pl at h ⊢
      by_cases h1 : i < k
      · rw [if_pos h1] at h; rw [if_pos (by omega)]; exact h
      · rw [if_neg h1] at h; rw [if_neg (by omega)]; exact h
/-- What the second is worth at its own place: the product of the places' sums. -/
def un (xs : Nat → Nat) (i : Nat) : Nat → Nat
  | 0 => 1
  | k + 1 => if k = i then un xs i k else m (un xs i k) (xs i ^^^ xs k)
theorem ps_one (x n : Nat) (h : 0 < n) : ps one x n = 1 := by
  rw [ps_more (f := one) (n := 1) (fun i hi => by unfold one; rw [if_neg (by omega)]) x n (by omega)]
  show 0 ^^^ m 1 1 = 1
  rw [m_one (by omega)]
  rfl
theorem ps_po (xs : Nat → Nat) (i k : Nat) : ps (po xs i k) (xs i) (pl i k) = un xs i k := by
  induction k with
  | zero => exact ps_one _ _ (by unfold pl; rw [if_neg (by omega)]; omega)
  | succ k ih =>
    show ps (if k = i then _ else _) _ _ = (if k = i then _ else _)
    by_cases e : k = i
    · subst e
      rw [if_pos rfl, if_pos rfl, ← ih, show pl k (k + 1) = pl k k by unfold pl; rw [if_pos (by omega), if_neg (by omega)]]
    · rw [if_neg e, if_neg e, ← ih, ← ps_lin' (po_pol xs i k)]
      congr 1
      unfold pl
      by_cases h1 : i < k
      · rw [if_pos h1, if_pos (by omega)]
      · rw [if_neg h1, if_neg (by omega)]
theorem un_lt (xs : Nat → Nat) (i k : Nat) : un xs i k < 256 := by
  induction k with
  | zero => unfold un; omega
  | succ k ih => unfold un; split; exact ih; exact m_lt _ _
theorem un_ne {xs : Nat → Nat} (hx : ∀ i, xs i < 256) {i k : Nat} (hd : ∀ j, j < k → j ≠ i → xs j ≠ xs i) : un xs i k ≠ 0 := by
  induction k with
  | zero => unfold un; omega
  | succ k ih =>
    unfold un
    split
    · exact ih (fun j hj => hd j (by omega))
    · rename_i e
      refine m_ne (un_lt _ _ _) (xor_lt (hx i) (hx k)) (ih (fun j hj => hd j (by omega))) (fun h => hd k (by omega) e (xor_eq h).symm)
theorem un_zero {xs : Nat → Nat} {i k j : Nat} (hj : j < k) (hji : j ≠ i) (he : xs j = xs i) : un xs i k = 0 := by
  induction k with
  | zero => omega
  | succ k ih =>
    unfold un
    by_cases e : j = k
    · subst e
      rw [if_neg hji, he, xor_self, m_zero]
    · rw [ih (by omega)]
      split
      · rfl
      · exact zero_m _
/-- At another place the second is 0. -/
theorem ps_po_zero (xs : Nat → Nat) (i k j : Nat) (hj : j < k) (hji : j ≠ i) : ps (po xs i k) (xs j) (pl i k) = 0 := by
  induction k with
  | zero => omega
  | succ k ih =>
    show ps (if k = i then _ else _) _ _ = 0
    by_cases e : k = i
    · subst e
      rw [if_pos rfl]
      have h := ih (by omega)
      unfold pl at h ⊢
      rw [if_neg (by omega)] at h
      rw [if_pos (by omega)]
      exact h
    · rw [if_neg e]
      have h : ps (lin (xs k) (po xs i k)) (xs j) (pl i (k + 1)) = m (ps (po xs i k) (xs j) (pl i k)) (xs j ^^^ xs k) := by
        rw [← ps_lin' (po_pol xs i k)]
        congr 1
        unfold pl
        by_cases h1 : i < k
        · rw [if_pos h1, if_pos (by omega)]
        · rw [if_neg h1, if_neg (by omega)]
      rw [h]
      by_cases e2 : j = k
      · subst e2; rw [xor_self, m_zero]
      · rw [ih (by omega), zero_m]
/-- The sum of the first 'k' of them, each scaled to the value wanted at its place; 'n' places in all. -/
def th (xs ys : Nat → Nat) (n : Nat) : Nat → Nat → Nat
  | 0, _ => 0
  | k + 1, i => th xs ys n k i ^^^ m (po xs k n i) (m (ys k) (Gf.inv (un xs k n)))
theorem th_pol (xs ys : Nat → Nat) (n k : Nat) (hk : k ≤ n) : Pol (th xs ys n k) n := by
  induction k with
  | zero => exact ⟨fun i => by unfold th; omega, fun i _ => rfl⟩
  | succ k ih =>
    have h := ih (by omega)
    have hp := po_pol xs k n
    unfold pl at hp
    rw [if_pos (by omega)] at hp
    exact ⟨fun i => xor_lt (h.1 i) (m_lt _ _), fun i hi => by show _ ^^^ m _ _ = 0; rw [h.2 i hi, hp.2 i hi, zero_m]; rfl⟩
theorem ps_zero (f : Nat → Nat) (hf : ∀ i, f i = 0) (x n : Nat) : ps f x n = 0 := by
  rw [ps_more (f := f) (n := 0) (fun i _ => hf i) x n (by omega)]
  rfl
theorem ps_th {xs ys : Nat → Nat} {n : Nat} (hx : ∀ i, xs i < 256) (hy : ∀ i, ys i < 256) (hd : ∀ i j, i < n → j < n → i ≠ j → xs i ≠ xs j) (k j : Nat) (hk : k ≤ n) (hj : j < n) :
    ps (th xs ys n k) (xs j) n = if j < k then ys j else 0 := by
  induction k with
  | zero => rw [if_neg (by omega)]; exact ps_zero _ (fun _ => rfl) _ _
  | succ k ih =>
    have e : th xs ys n (k + 1) = ad (th xs ys n k) (fun i => m (po xs k n i) (m (ys k) (Gf.inv (un xs k n)))) := rfl
    have hpl : pl k n = n := by unfold pl; rw [if_pos (by omega)]
    rw [e, ps_ad, ih (by omega), ps_scale]
    by_cases h1 : j = k
    · subst h1
      have h2 := ps_po xs j n
      rw [hpl] at h2
      rw [if_neg (by omega), if_pos (by omega), h2, m_left, m_inv (un_lt _ _ _) (un_ne hx (fun i hi hij => hd i j hi hj hij)), m_one (hy j), Nat.zero_xor]
    · have h2 := ps_po_zero xs k n j hj h1
      rw [hpl] at h2
      rw [h2, zero_m, Nat.xor_zero]
      by_cases h3 : j < k
      · rw [if_pos h3, if_pos (by omega)]
      · rw [if_neg h3, if_neg (by omega)]
/-- A polynomial of at most 'n' numbers that is 0 at 'n' places, no two alike, is 0. -/
theorem roots (n : Nat) : ∀ (d xs : Nat → Nat), Pol d n → (∀ i, xs i < 256) → (∀ i j, i < n → j < n → i ≠ j → xs i ≠ xs j) → (∀ i, i < n → ps d (xs i) n = 0) → ∀ i, d i = 0 := by
  induction n with
  | zero => intro d xs hp _ _ _ i; exact hp.2 i (by omega)
  | succ n ih =>
    intro d xs hp hx hd hr
    have hdef : d = lin (xs n) (fun k => hn d (xs n) (n - k) (k + 1)) := by
      funext i
      cases i with
      | zero =>
        have h := hr n (by omega)
        rw [← ev_ps hp.1] at h
        have h2 : m (hn d (xs n) n 1) (xs n) ^^^ d 0 = 0 := h
        exact (xor_eq h2).symm
      | succ i =>
        show d (i + 1) = m (hn d (xs n) (n - (i + 1)) (i + 2)) (xs n) ^^^ hn d (xs n) (n - i) (i + 1)
        by_cases h : i < n
        · rw [show n - i = (n - (i + 1)) + 1 by omega]
          show _ = _ ^^^ (m (hn d (xs n) (n - (i + 1)) (i + 2)) (xs n) ^^^ d (i + 1))
          rw [xor_can]
        · rw [show n - i = 0 by omega, show n - (i + 1) = 0 by omega]
          show d (i + 1) = m 0 _ ^^^ 0
          rw [zero_m, hp.2 (i + 1) (by omega)]
          rfl
    have hq : Pol (fun k => hn d (xs n) (n - k) (k + 1)) n := ⟨fun i => hn_lt hp.1 _ _ _, fun i hi => by show hn d (xs n) (n - i) (i + 1) = 0; rw [show n - i = 0 by omega]; rfl⟩
    generalize (fun k => hn d (xs n) (n - k) (k + 1)) = q at hdef hq
    subst hdef
    have hz := ih q xs hq hx (fun i j hi hj => hd i j (by omega) (by omega)) (fun i hi => by
      have h := hr i (by omega)
      rw [ps_lin' hq] at h
      by_cases h0 : ps q (xs i) n = 0
      · exact h0
      · refine absurd h (m_ne ?_ (xor_lt (hx i) (hx n)) h0 (fun h => hd i n (by omega) (by omega) (by omega) (xor_eq h)))
        rw [← ev_ps hq.1]
        exact hn_lt hq.1 _ _ _)
    intro i
    cases i with
    | zero => show m (q 0) _ = 0; rw [hz, zero_m]
    | succ i => show m (q (i + 1)) _ ^^^ q i = 0; rw [hz, hz, zero_m]; rfl
end Go.Proofs.Ytcnigfejpfcfaaa.Gp

/- Rows of byte numbers in memory, as the program's polynomials lie there; and the program's small functions over them: reading, trimming, numbers, putting one scaled on top of another, values. Conditions: lists of at most 2^20 numbers. -/
namespace Go.Proofs.Ytcnigfejpfcfaaa
set_option maxRecDepth 2000
open Go.ChangeShapes Go.WideShapes Go.ChangeAt Go.RowKit

theorem Try.infoElem : (Try.prog.info? 128).map (fun i => (i.zero, i.size, i.bytes)) = some (some (.int .u8 0), 1, 1) := by kernel_rfl

/-- The first 'n' numbers of 'f'. -/
def eI (f : Nat → Nat) (n : Nat) : List Int := (List.range n).map fun i => ((f i : Nat) : Int)
theorem eI_len (f : Nat → Nat) (n : Nat) : (eI f n).length = n := by simp [eI]
theorem eI_get (f : Nat → Nat) (n i : Nat) (h : i < n) : (eI f n)[i]? = some ((f i : Nat) : Int) := by simp [eI, h]
theorem eI_getD (f : Nat → Nat) (n i : Nat) (h : i < n) : (eI f n).getD i 0 = ((f i : Nat) : Int) := by simp [List.getD, eI_get f n i h]
theorem eI_congr {f g : Nat → Nat} {n : Nat} (h : ∀ i, i < n → f i = g i) : eI f n = eI g n := by
  unfold eI
  apply List.map_congr_left
  intro i hi
  rw [h i (List.mem_range.1 hi)]
theorem eI_ext {zs : List Int} {f : Nat → Nat} {n : Nat} (hl : zs.length = n) (h : ∀ i, i < n → zs.getD i 0 = ((f i : Nat) : Int)) : zs = eI f n := by
  apply List.ext_getElem?
  intro i
  by_cases hi : i < n
  · have h1 := h i hi
    rw [eI_get f n i hi]
    have h2 : i < zs.length := by omega
    rw [List.getElem?_eq_getElem h2]
    simp [List.getD, List.getElem?_eq_getElem h2] at h1
    rw [h1]
  · rw [List.getElem?_eq_none (by omega), List.getElem?_eq_none (by rw [eI_len]; omega)]
theorem eI_take (f : Nat → Nat) (n k : Nat) (h : k ≤ n) : (eI f n).take k = eI f k := by
  apply eI_ext
  · rw [List.length_take, eI_len]; omega
  · intro i hi
    rw [← eI_getD f n i (by omega)]
    simp [List.getD, hi]
theorem eI_set (f : Nat → Nat) (n k v : Nat) (d : IntKind) (h : k < n) : ((eI f n).map (Value.int d)).set k (.int d (v : Int)) = (eI (fun i => if i = k then v else f i) n).map (Value.int d) := by
  apply List.ext_getElem?
  intro i
  rw [List.getElem?_set]
  by_cases hi : i < n
  · by_cases e : k = i
    · subst e
      simp [eI, h]
    · simp [eI, hi, e, Ne.symm e]
  · by_cases e : k = i
    · omega
    · rw [if_neg e, List.getElem?_eq_none (by simp [eI_len]; omega), List.getElem?_eq_none (by simp [eI_len]; omega)]
theorem eI_const {f : Nat → Nat} (n v : Nat) (h : ∀ i, i < n → f i = v) : eI f n = List.replicate n (v : Int) := by
  symm
  apply eI_ext
  · simp
  · intro i hi
    rw [h i hi]
    simp [List.getD, hi]
/-- A list's numbers, as a polynomial's. -/
def coP (zs : List Int) (i : Nat) : Nat := (zs.getD i 0).toNat

/-- A slice of byte numbers that holds 'f'. -/
def Els (w : World) (a : Option Addr) (n cap : Nat) (f : Nat → Nat) : Prop :=
  n ≤ cap ∧ ((a = none ∧ n = 0 ∧ cap = 0) ∨ ∃ b, a = some ⟨b, 0, none⟩ ∧ b < w.heap.size ∧ ∀ i, i < n → w.cell? ⟨b, i, none⟩ = some (.int .u8 ((f i : Nat) : Int)))
theorem Els.below {w w' : World} {a : Option Addr} {n cap : Nat} {f : Nat → Nat} (h : Els w a n cap f) (hb : Below w.heap.size w w') : Els w' a n cap f := by
  refine ⟨h.1, ?_⟩
  rcases h.2 with h' | ⟨b, e, hl, hc⟩
  · exact .inl h'
  · exact .inr ⟨b, e, Nat.lt_of_lt_of_le hl hb.size, fun i hi => (hb.cell (p := ⟨b, i, none⟩) (block_lt_of_cell (hc i hi))).trans (hc i hi)⟩
theorem Els.grown {w w' : World} {a : Option Addr} {n cap g : Nat} {f : Nat → Nat} (h : Els w a n cap f) (hg : w.grownBy w' (some g)) (hn : ∀ b, a = some ⟨b, 0, none⟩ → b ≠ g) : Els w' a n cap f := by
  refine ⟨h.1, ?_⟩
  rcases h.2 with h' | ⟨b, e, hl, hc⟩
  · exact .inl h'
  · exact .inr ⟨b, e, Nat.lt_of_lt_of_le hl hg.size, fun i hi => hg.cell (hc i hi) (by simpa using hn b e)⟩
theorem Els.at {w : World} {a : Option Addr} {n cap i : Nat} {f : Nat → Nat} (h : Els w a n cap f) (hi : i < n) : ∃ b, a = some ⟨b, 0, none⟩ ∧ w.cell? ⟨b, i, none⟩ = some (.int .u8 ((f i : Nat) : Int)) := by
  rcases h.2 with h' | ⟨b, e, _, hc⟩
  · omega
  · exact ⟨b, e, hc i hi⟩
theorem Els.lt {w : World} {a : Option Addr} {n cap : Nat} {f : Nat → Nat} (h : Els w a n cap f) : ∀ b, a = some ⟨b, 0, none⟩ → b < w.heap.size := by
  intro b e
  rcases h.2 with ⟨h', _⟩ | ⟨b', e', hl, _⟩
  · rw [h'] at e; cases e
  · rw [e'] at e; cases e; exact hl
theorem Els.off {w : World} {a : Option Addr} {n cap g : Nat} {f : Nat → Nat} (h : Els w a n cap f) (hg : w.heap.size ≤ g) : ∀ b, a = some ⟨b, 0, none⟩ → b ≠ g := fun b e => by
  have := h.lt b e
  omega
theorem Els.less {w : World} {a : Option Addr} {n cap k : Nat} {f : Nat → Nat} (h : Els w a n cap f) (hk : k ≤ n) : Els w a k cap f := by
  refine ⟨Nat.le_trans hk h.1, ?_⟩
  rcases h.2 with ⟨h1, h2, h3⟩ | ⟨b, e, hl, hc⟩
  · exact .inl ⟨h1, by omega, h3⟩
  · exact .inr ⟨b, e, hl, fun i hi => hc i (by omega)⟩
theorem Els.nil (w : World) (f : Nat → Nat) : Els w none 0 0 f := ⟨Nat.le_refl _, .inl ⟨rfl, rfl, rfl⟩⟩
theorem Els.congr {w : World} {a : Option Addr} {n cap : Nat} {f g : Nat → Nat} (h : Els w a n cap f) (e : ∀ i, i < n → f i = g i) : Els w a n cap g := by
  refine ⟨h.1, ?_⟩
  rcases h.2 with h' | ⟨b, ea, hl, hc⟩
  · exact .inl h'
  · exact .inr ⟨b, ea, hl, fun i hi => by rw [hc i hi, e i hi]⟩
/-- A row of ours. -/
def OwnU (w : World) (B g n cap : Nat) (f : Nat → Nat) : Prop := w.ownsRow B 128 1 (.slice (some ⟨g, 0, none⟩) n cap) n ((eI f n).map (Value.int .u8))
theorem OwnU.els {w : World} {B g n cap : Nat} {f : Nat → Nat} (h : OwnU w B g n cap f) : Els w (some ⟨g, 0, none⟩) n cap f := by
  have hc : n ≤ cap := by
    rcases h.2 with h' | ⟨g', cap', cur, e, _, _, hn, _⟩
    · cases h'.1
    · cases e; exact hn
  refine ⟨hc, .inr ⟨g, rfl, (World.ownsRow.lt h g rfl).2, fun i hi => ?_⟩⟩
  rw [World.ownsRow.cellAt h i (by omega)]
  simp [eI, hi]
theorem OwnU.lt {w : World} {B g n cap : Nat} {f : Nat → Nat} (h : OwnU w B g n cap f) : B ≤ g ∧ g < w.heap.size := World.ownsRow.lt h g rfl
theorem OwnU.below {w w' : World} {B g n cap : Nat} {f : Nat → Nat} (h : OwnU w B g n cap f) (hb : Below w.heap.size w w') : OwnU w' B g n cap f := ownsRow_below h hb
theorem OwnU.other {w w' : World} {B g n cap r : Nat} {f : Nat → Nat} (h : OwnU w B g n cap f) (hg : w.grownBy w' (some r)) (hr : g ≠ r) : OwnU w' B g n cap f :=
  World.ownsRow.kept h hg (.inr (by simp [Value.ownBlock]; exact hr))
theorem OwnU.congr {w : World} {B g n cap : Nat} {f h : Nat → Nat} (ho : OwnU w B g n cap f) (e : ∀ i, i < n → f i = h i) : OwnU w B g n cap h := by
  unfold OwnU at *
  rw [← eI_congr e]
  exact ho
theorem OwnU.set {w : World} {B g n cap k v : Nat} {f : Nat → Nat} (h : OwnU w B g n cap f) (hk : k < n) :
    OwnU (w.setCell ⟨g, k, none⟩ (.int .u8 (v : Int))) B g n cap (fun i => if i = k then v else f i) ∧ w.grownBy (w.setCell ⟨g, k, none⟩ (.int .u8 (v : Int))) (some g) := by
  have hs := World.ownsRow.stored h k (.int .u8 (v : Int))
  rw [eI_set f n k v .u8 hk] at hs
  exact ⟨hs.1, ⟨rfl, rfl, rfl, by simp, fun j _ hj => heap_setCell_other w ⟨g, k, none⟩ j _ (fun e => hj (by simp [e]))⟩⟩
/-- A row of ours, of whole numbers. -/
def OwnI (w : World) (B : Nat) (v : Value) (zs : List Int) : Prop := w.ownsRow B 3 1 v zs.length (zs.map (Value.int .i64))
theorem OwnI.view {w : World} {B : Nat} {v : Value} {zs : List Int} (h : OwnI w B v zs) : ∃ a cap, v = .slice a zs.length cap ∧ IntsAt w a zs.length zs ∧ ∀ x, a = some x → B ≤ x.block ∧ x.block < w.heap.size := by
  rcases h.2 with ⟨e, hn⟩ | ⟨g, cap, cur, e, hB, hg, rest⟩
  · exact ⟨none, 0, by rw [e, hn], ⟨rfl, fun i hi => by omega⟩, fun x hx => by cases hx⟩
  · refine ⟨some ⟨g, 0, none⟩, cap, e, ?_, fun x hx => ?_⟩
    · subst e; exact ownsRow.ints h
    · cases hx; exact ⟨hB, (Array.getElem?_eq_some_iff.1 hg).1⟩
theorem OwnI.below {w w' : World} {B : Nat} {v : Value} {zs : List Int} (h : OwnI w B v zs) (hb : Below w.heap.size w w') : OwnI w' B v zs := ownsRow_below h hb
theorem OwnI.nil (w : World) (B : Nat) : OwnI w B (.slice none 0 0) [] := World.ownsRow_nil w B _ _

/-! ### Reading -/
end Go.Proofs.Ytcnigfejpfcfaaa

/- The program's small functions over polynomials: reading, trimming, numbers, putting one scaled on top of another, values. Conditions: lists of at most 2^20 numbers, byte numbers. -/
namespace Go.Proofs.Ytcnigfejpfcfaaa
set_option maxRecDepth 2000
open Go.ChangeShapes Go.WideShapes Go.ChangeAt Go.RowKit

/-- A polynomial in a list. -/
def okB (zs : List Int) : Bool := decide (zs.length ≤ 40) && (decide (zs.length = 0) || decide (zs.getD (zs.length - 1) 0 ≠ 0)) && zs.all isB
theorem okB_parts {zs : List Int} (h : okB zs = true) : zs.length ≤ 40 ∧ (zs.length = 0 ∨ coP zs (zs.length - 1) ≠ 0) ∧ Gp.Pol (coP zs) zs.length ∧ zs = eI (coP zs) zs.length ∧ ∀ i, i < zs.length → isB (zs.getD i 0) = true := by
  simp only [okB, Bool.and_eq_true, decide_eq_true_eq, Bool.or_eq_true, List.all_eq_true] at h
  obtain ⟨⟨h1, h2⟩, h3⟩ := h
  have h4 : ∀ i, i < zs.length → isB (zs.getD i 0) = true := fun i hi => h3 _ (by simp [List.getD, hi])
  have h5 : ∀ i, i < zs.length → zs.getD i 0 = ((coP zs i : Nat) : Int) := fun i hi => by
    obtain ⟨X, hX, hx⟩ := isB_nat (h4 i hi)
    unfold coP
    rw [hx]
    simp
  refine ⟨h1, ?_, ⟨fun i => ?_, fun i hi => ?_⟩, eI_ext rfl h5, h4⟩
  · rcases h2 with h2 | h2
    · exact .inl h2
    · by_cases e : zs.length = 0
      · exact .inl e
      · right
        intro h
        have h6 := h5 (zs.length - 1) (by omega)
        rw [h] at h6
        exact h2 h6
  · by_cases hi : i < zs.length
    · obtain ⟨X, hX, hx⟩ := isB_nat (h4 i hi)
      unfold coP
      rw [hx]
      simpa using hX
    · unfold coP
      simp [List.getD, List.getElem?_eq_none (show zs.length ≤ i by omega)]
  · unfold coP
    simp [List.getD, List.getElem?_eq_none hi]
theorem okB_no {zs : List Int} (h : okB zs = false) : 40 < zs.length ∨ (zs.length ≤ 40 ∧ 0 < zs.length ∧ zs.getD (zs.length - 1) 0 = 0) ∨ (zs.length ≤ 40 ∧ (zs.length = 0 ∨ zs.getD (zs.length - 1) 0 ≠ 0) ∧ ∃ i, i < zs.length ∧ isB (zs.getD i 0) = false) := by
  by_cases h1 : zs.length ≤ 40
  · by_cases h2 : zs.length = 0 ∨ zs.getD (zs.length - 1) 0 ≠ 0
    · right; right
      refine ⟨h1, h2, ?_⟩
      have h3 : zs.all isB = false := by
        unfold okB at h
        rw [decide_eq_true h1, Bool.true_and] at h
        have e : (decide (zs.length = 0) || decide (zs.getD (zs.length - 1) 0 ≠ 0)) = true := by simpa using h2
        rw [e, Bool.true_and] at h
        exact h
      rw [List.all_eq_false] at h3
      obtain ⟨x, hx, hb⟩ := h3
      obtain ⟨i, hi, rfl⟩ := List.mem_iff_getElem.1 hx
      exact ⟨i, hi, by simpa [List.getD, hi] using hb⟩
    · right; left
      refine ⟨h1, by omega, ?_⟩
      by_cases e : zs.getD (zs.length - 1) 0 = 0
      · exact e
      · exact absurd (.inr e) h2
  · left; omega

end Go.Proofs.Ytcnigfejpfcfaaa

/- The program's functions over polynomials that write or call in an open order: numbers, putting one scaled on top of another, values. Conditions: lists of at most 2^20 numbers, byte numbers. -/
namespace Go.Proofs.Ytcnigfejpfcfaaa
set_option maxRecDepth 2000
open Go.ChangeShapes Go.WideShapes Go.ChangeAt Go.RowKit

theorem ownI_of {w : World} {B g n : Nat} {f : Nat → Nat} (h : w.ownsRow B 3 1 (.slice (some ⟨g, 0, none⟩) n n) n ((eI f n).map (Value.int .i64))) : OwnI w B (.slice (some ⟨g, 0, none⟩) n n) (eI f n) := by
  unfold OwnI
  rw [eI_len]
  exact h

/-- Behind 'k' numbers: 'o' scaled stands on top of 'f' from 'shift' on. -/
def onTop (f o : Nat → Nat) (scale shift k i : Nat) : Nat := if shift ≤ i ∧ i < shift + k then f i ^^^ Gp.m (o (i - shift)) scale else f i

theorem onTop_step {f o : Nat → Nat} {scale shift k j : Nat} (ho : o k < 256) (hs : scale < 256) (hj : shift + k = j) (i : Nat) : (if i = j then f j ^^^ Gf.mul (o k) scale else onTop f o scale shift k i) = onTop f o scale shift (k + 1) i := by
  subst hj
  unfold onTop
  by_cases e : i = shift + k
  · subst e
    rw [if_pos rfl, if_pos (by omega), Gp.m_nat ho hs, show shift + k - shift = k by omega]
  · rw [if_neg e]
    by_cases h : shift ≤ i ∧ i < shift + k
    · rw [if_pos h, if_pos (by omega)]
    · rw [if_neg h, if_neg (by omega)]
theorem onTop_sh {f o : Nat → Nat} {scale shift n : Nat} (ho : ∀ i, n ≤ i → o i = 0) (i : Nat) : onTop f o scale shift n i = f i ^^^ Gp.m (Gp.sh shift o i) scale := by
  unfold onTop Gp.sh
  by_cases h : shift ≤ i
  · by_cases h2 : i < shift + n
    · rw [if_pos ⟨h, h2⟩, if_pos h]
    · rw [if_neg (by omega), if_pos h, ho _ (by omega), Gp.zero_m, Nat.xor_zero]
  · rw [if_neg (by omega), if_neg h, Gp.zero_m, Nat.xor_zero]
theorem grown_step {w w1 w2 : World} {g : Nat} {v : Value} {k : Nat} (h0 : w.grownBy w1 (some g)) (hb : Below w1.heap.size w1 w2) (h2 : w2.grownBy (w2.setCell ⟨g, k, none⟩ v) (some g)) : w.grownBy (w2.setCell ⟨g, k, none⟩ v) (some g) :=
  ⟨h2.os.trans (hb.os.trans h0.os), h2.tape.trans (hb.tape.trans h0.tape), h2.output.trans (hb.output.trans h0.output), Nat.le_trans h0.size (Nat.le_trans hb.size h2.size), fun j hj hn => ((h2.block j (Nat.lt_of_lt_of_le hj (Nat.le_trans h0.size hb.size)) hn).trans (hb.block j (Nat.lt_of_lt_of_le hj h0.size))).trans (h0.block j hj hn)⟩

end Go.Proofs.Ytcnigfejpfcfaaa

/- What the laws' walks carry of the rows of whole numbers in play: which numbers they hold and between which blocks they lie; and the laws' own helpers that mark a row and look at the marks. Condition: rows of at most 2^20 numbers. -/
namespace Go.Proofs.Ytcnigfejpfcfaaa
set_option maxRecDepth 2000
open Go.ChangeShapes Go.WideShapes Go.ChangeAt Go.RowKit

/-- A row of ours that lies from block 'B' on, ahead of block 'E'. -/
def RowI (w : World) (B E : Nat) (a : Option Addr) (n cap : Nat) (zs : List Int) : Prop := OwnI w B (.slice a n cap) zs ∧ n = zs.length ∧ n ≤ cap ∧ ∀ k, (Value.slice a n cap).ownBlock = some k → B ≤ k ∧ k < E
theorem OwnI.row {w : World} {B E : Nat} {v : Value} {zs : List Int} (h : OwnI w B v zs) (hE : ∀ k, v.ownBlock = some k → k < E) : ∃ a cap, v = .slice a zs.length cap ∧ RowI w B E a zs.length cap zs := by
  rcases h.2 with ⟨e, hn⟩ | ⟨g, cap, cur, e, hB, hg, hcap, _⟩
  · refine ⟨none, 0, by rw [e, hn], ?_, rfl, by omega, fun k hk => by cases hk⟩
    rw [hn, ← e]
    exact h
  · subst e
    exact ⟨_, _, rfl, h, rfl, hcap, fun k hk => ⟨(World.ownsRow.lt h k hk).1, hE k hk⟩⟩
theorem OwnI.row' {w : World} {B : Nat} {v : Value} {zs : List Int} (h : OwnI w B v zs) : ∃ a cap, v = .slice a zs.length cap ∧ RowI w B w.heap.size a zs.length cap zs :=
  h.row (fun k hk => (World.ownsRow.lt h k hk).2)
theorem RowI.ints {w : World} {B E : Nat} {a : Option Addr} {n cap : Nat} {zs : List Int} (h : RowI w B E a n cap zs) : IntsAt w a n zs := by
  obtain ⟨ho, rfl, _, _⟩ := h
  obtain ⟨a', cap', e, hi, _⟩ := ho.view
  cases e
  exact hi
theorem RowI.below {w w' : World} {B E : Nat} {a : Option Addr} {n cap : Nat} {zs : List Int} (h : RowI w B E a n cap zs) (hb : Below w.heap.size w w') : RowI w' B E a n cap zs := ⟨h.1.below hb, h.2⟩
/-- At most one block has turned, one that lies from 'B' on, ahead of 'E'. -/
def Turned (w w' : World) (B E : Nat) : Prop := ∃ r, w.grownBy w' r ∧ ∀ g, r = some g → B ≤ g ∧ g < E
theorem RowI.turned {w w' : World} {B E B' E' : Nat} {a : Option Addr} {n cap : Nat} {zs : List Int} (h : RowI w B E a n cap zs) (ht : Turned w w' B' E') (hd : E ≤ B' ∨ E' ≤ B) : RowI w' B E a n cap zs := by
  obtain ⟨r, hg, hr⟩ := ht
  refine ⟨World.ownsRow.kept h.1 hg ?_, h.2⟩
  cases hv : (Value.slice a n cap).ownBlock with
  | none => exact .inl rfl
  | some k =>
    right
    intro e
    have h1 := h.2.2.2 k hv
    have h2 := hr k e.symm
    omega
theorem Turned.below {w w' : World} {B E s : Nat} (h : Turned w w' B E) (hs : s ≤ B) (hw : s ≤ w.heap.size) : Below s w w' := by
  obtain ⟨r, hg, hr⟩ := h
  exact ⟨hg.os, hg.tape, hg.output, hg.size, fun j hj => hg.block j (by omega) (fun e => by have := hr j e.symm; omega)⟩
theorem Turned.size {w w' : World} {B E : Nat} (h : Turned w w' B E) : w.heap.size ≤ w'.heap.size := by
  obtain ⟨r, hg, _⟩ := h
  exact hg.size
/-- A list that was handed in: it lies ahead of block 's'. -/
def Arg (w : World) (s : Nat) (a : Option Addr) (n : Nat) (zs : List Int) : Prop := IntsAt w a n zs ∧ (0 < n → ∀ b off, a = some ⟨b, off, none⟩ → b < s)
theorem IntsAt.arg {w : World} {a : Option Addr} {n : Nat} {zs : List Int} (h : IntsAt w a n zs) : Arg w w.heap.size a n zs := by
  refine ⟨h, fun hn b off e => ?_⟩
  obtain ⟨b', off', e', hc⟩ := h.2 0 hn
  rw [e] at e'
  cases e'
  exact block_lt_of_cell hc
theorem Arg.below {w w' : World} {s : Nat} {a : Option Addr} {n : Nat} {zs : List Int} (h : Arg w s a n zs) (hb : Below w.heap.size w w') : Arg w' s a n zs := ⟨h.1.below hb, h.2⟩
theorem Arg.turned {w w' : World} {s B E : Nat} {a : Option Addr} {n : Nat} {zs : List Int} (h : Arg w s a n zs) (ht : Turned w w' B E) (hs : s ≤ B) : Arg w' s a n zs := by
  obtain ⟨r, hg, hr⟩ := ht
  refine ⟨⟨h.1.1, fun i hi => ?_⟩, h.2⟩
  obtain ⟨b, off, e, hc⟩ := h.1.2 i hi
  refine ⟨b, off, e, hg.cell hc (fun e' => ?_)⟩
  have h1 := h.2 (by omega) b off e
  have h2 := hr b e'.symm
  omega
/-- The copies that the laws make. -/
theorem row_toIntS {w : World} {g n : Nat} {zs : List Int} (hl : zs.length = n) (h : w.ownsRow g 3 1 (.slice (some ⟨g, 0, none⟩) n n) n (zs.map (Value.int .i64))) : RowI w g (g + 1) (some ⟨g, 0, none⟩) n n zs := by
  refine ⟨?_, hl.symm, Nat.le_refl _, fun k hk => ?_⟩
  · unfold OwnI
    rw [hl]
    exact h
  · cases hk
    exact ⟨Nat.le_refl _, Nat.lt_succ_self _⟩

/-- The marks from 'k' on. -/
def marks (k n : Nat) : List Int := eI (fun i => k + i) n

theorem marks_step (k n c : Nat) (zs : List Int) (hl : zs.length = n) (hc : c < n) : ((marks k c ++ zs.drop c).map (Value.int .i64)).set c (.int .i64 ((k + c : Nat) : Int)) = (marks k (c + 1) ++ zs.drop (c + 1)).map (Value.int .i64) := by
  have hm : (marks k c).length = c := eI_len _ _
  have e1 : zs.drop c = (zs.drop c).headD 0 :: zs.drop (c + 1) := by
    cases hd : zs.drop c with
    | nil =>
      have := congrArg List.length hd
      simp at this
      omega
    | cons x xs =>
      have : zs.drop (c + 1) = xs := by rw [← List.tail_drop, hd]; rfl
      rw [this]
      rfl
  have e2 : marks k (c + 1) = marks k c ++ [((k + c : Nat) : Int)] := by
    unfold marks eI
    rw [List.range_succ, List.map_append]
    rfl
  rw [e2, e1]
  simp only [List.map_append, List.map_cons, List.map_nil]
  rw [List.set_append_right _ _ (by simp [hm])]
  simp [hm]

set_option maxHeartbeats 1000000 in
theorem mark_any (B E : Nat) (a : Option Addr) (n cap k : Nat) (zs : List Int) (w : World) (h : RowI w B E a n cap zs) (hn : n ≤ 1048576) (hk : k ≤ 10000000) :
    Calls Try.prog 44 #[.slice a n cap, .int .i64 (k : Int)] w fun e w' => e = .returned (.int .i64 ((k + n : Nat) : Int)) ∧ RowI w' B E a n cap (marks k n) ∧ Turned w w' B E := by
  obtain ⟨ho, hl, hcap, hb⟩ := h
  rcases ho.2 with ⟨e, hz⟩ | ⟨g, cap', cur, e, hB, hg, _⟩
  · cases e
    rw [hl] at *
    clear hl
    have HM : Hid (RowI w B E none 0 0 (marks k 0)) := ⟨World.ownsRow_nil w _ _ _, rfl, Nat.le_refl _, fun k hk => by cases hk⟩
    have HT : Hid (Turned w w B E) := ⟨none, World.grownBy.refl _ _, fun g hg => by cases hg⟩
    rw [hz]
    clear ho hb hz hn hcap
    go_enter Try.func44, Try.ntmps44
    go_wp2
    go_loopw [1, 5] (fun p i wr => p = .int .i64 (k : Int) ∧ i = .int .i64 0 ∧ wr = w) (fun _ _ _ => 0)
    case atStart => exact ⟨rfl, rfl, rfl⟩
    case round =>
      obtain ⟨rfl, rfl, rfl⟩ := hrel
      go_wp2
      go_ret
      exact ⟨rfl, HM.out, HT.out⟩
  · have hca : cap = cap' ∧ a = some ⟨g, 0, none⟩ := by cases e; exact ⟨rfl, rfl⟩
    obtain ⟨rfl, rfl⟩ := hca
    have hgE := hb g rfl
    have HL : Hid (zs.length = n) := hl.symm
    have ho' : w.ownsRow B 3 1 (.slice (some ⟨g, 0, none⟩) n cap) n ((marks k 0 ++ zs.drop 0).map (Value.int .i64)) := by
      have h2 := ho
      unfold OwnI at h2
      rw [← hl] at h2
      exact h2
    have H0 : Hid _ := ho'
    clear ho ho' hg e hl hb
    go_enter Try.func44, Try.ntmps44
    go_wp2
    go_loopw [1, 5] (fun p i wr => ∃ c : Nat, c ≤ n ∧ p = .int .i64 ((k + c : Nat) : Int) ∧ i = .int .i64 c ∧ wr.ownsRow B 3 1 (.slice (some ⟨g, 0, none⟩) n cap) n ((marks k c ++ zs.drop c).map (Value.int .i64)) ∧ w.grownBy wr (some g)) (fun _ i _ => n - (intOf i).toNat)
    case atStart => exact ⟨0, Nat.zero_le _, rfl, rfl, H0.out, World.grownBy.refl _ _⟩
    case round =>
      obtain ⟨c, hc, rfl, rfl, hown, hgr⟩ := hrel
      clear H0
      by_cases hlt : c < n
      · have hltI : (c : Int) < (n : Int) := by omega
        obtain ⟨old, hold⟩ : ∃ v, wr.cell? ⟨g, c, none⟩ = some v := by
          rw [hown.cellAt c (by omega)]
          exact ⟨_, List.getElem?_eq_getElem (by rw [hown.1]; omega)⟩
        have hfr := hown.frozenAt c
        have hst := hown.stored c (.int .i64 ((k + c : Nat) : Int))
        rw [marks_step k n c zs HL.out hlt] at hst
        have hg2 : wr.grownBy (wr.setCell ⟨g, c, none⟩ (.int .i64 ((k + c : Nat) : Int))) (some g) := ⟨rfl, rfl, rfl, by simp, fun j _ hj => heap_setCell_other wr ⟨g, c, none⟩ j _ (fun e => hj (by simp [e]))⟩
        have HO : Hid _ := And.intro hst.1 (grownBy_trans hgr hg2)
        clear hst hg2 hown hgr
        obtain ⟨kc, hkc⟩ : ∃ kc, k + c = kc := ⟨_, rfl⟩
        rw [hkc] at HO
        rw [hkc]
        go_wp2
        go_roundw
        case rel => exact ⟨c + 1, by omega, by rw [show k + (c + 1) = kc + 1 by omega]; go_num, by go_num, HO.out.1, HO.out.2⟩
        case measure => simp [intOf] <;> omega
      · obtain rfl : c = n := by omega
        have HR : Hid (RowI wr B E (some ⟨g, 0, none⟩) c cap (marks k c)) := by
          have e : marks k c ++ zs.drop c = marks k c := by rw [List.drop_eq_nil_of_le (by rw [HL.out]; omega), List.append_nil]
          rw [e] at hown
          have hm : (marks k c).length = c := eI_len _ _
          refine ⟨?_, hm.symm, hcap, fun j hj => by cases hj; exact ⟨hB, hgE.2⟩⟩
          unfold OwnI
          rw [hm]
          exact hown
        have HT : Hid (Turned w wr B E) := ⟨some g, hgr, fun j hj => by cases hj; exact ⟨hB, hgE.2⟩⟩
        clear hown hgr
        go_wp2
        go_ret
        exact ⟨rfl, HR.out, HT.out⟩

set_option maxHeartbeats 1000000 in
theorem held_any (a : Option Addr) (n cap k : Nat) (w : World) (h : IntsAt w a n (marks k n)) (hn : n ≤ 1048576) (hk : k ≤ 10000000) :
    Calls Try.prog 46 #[.slice a n cap, .int .i64 (k : Int)] w fun e w' => e = .returned (.int .i64 ((k + n : Nat) : Int)) ∧ w' = w := by
  go_enter Try.func46, Try.ntmps46
  go_wp2
  go_loop [1, 5] (fun p i => ∃ c : Nat, c ≤ n ∧ p = .int .i64 ((k + c : Nat) : Int) ∧ i = .int .i64 c) (fun _ i => n - (intOf i).toNat)
  case atStart => exact ⟨0, Nat.zero_le _, rfl, rfl⟩
  case round =>
    obtain ⟨c, hc, rfl, rfl⟩ := hrel
    by_cases hlt : c < n
    · obtain ⟨b, off, rfl, hcell⟩ := h.2 c hlt
      rw [show (marks k n).getD c 0 = ((k + c : Nat) : Int) from eI_getD _ _ _ hlt] at hcell
      have hltI : (c : Int) < (n : Int) := by omega
      clear h
      obtain ⟨kc, hkc⟩ : ∃ kc, k + c = kc := ⟨_, rfl⟩
      rw [hkc] at hcell
      rw [hkc]
      go_wp2
      go_round
      case rel => exact ⟨c + 1, by omega, by rw [show k + (c + 1) = kc + 1 by omega]; go_num, by go_num⟩
      case measure => simp [intOf] <;> omega
    · obtain rfl : c = n := by omega
      clear h
      go_wp2
      go_ret
      exact ⟨rfl, rfl⟩
end Go.Proofs.Ytcnigfejpfcfaaa

/- A list without the noughts at its end, in the program and in its model; byte numbers and polynomials in the model. Conditions: lists of at most 2^20 numbers. -/
namespace Go.Proofs.Ytcnigfejpfcfaaa
set_option maxRecDepth 2000
open Go.ChangeShapes Go.WideShapes Go.ChangeAt Go.RowKit

def nz (zs : List Int) (i : Nat) : Nat := if zs.getD i 0 = 0 then 0 else 1
def trimI (zs : List Int) : List Int := zs.take (Gp.tl (nz zs) zs.length)
theorem tl_iff {f g : Nat → Nat} (n : Nat) (h : ∀ i, i < n → (f i = 0 ↔ g i = 0)) : Gp.tl f n = Gp.tl g n := by
  induction n with
  | zero => rfl
  | succ n ih =>
    unfold Gp.tl
    rw [ih (fun i hi => h i (by omega))]
    by_cases e : f n = 0
    · rw [if_pos e, if_pos ((h n (by omega)).1 e)]
    · rw [if_neg e, if_neg (fun e' => e ((h n (by omega)).2 e'))]
theorem trimI_len (zs : List Int) : (trimI zs).length = Gp.tl (nz zs) zs.length := by
  have := Gp.tl_le (nz zs) zs.length
  unfold trimI
  rw [List.length_take]
  omega
theorem trimI_eI (f : Nat → Nat) (n : Nat) : trimI (eI f n) = eI f (Gp.tl f n) := by
  have h : Gp.tl (nz (eI f n)) n = Gp.tl f n := tl_iff n (fun i hi => by
    unfold nz
    rw [eI_getD f n i hi]
    by_cases e : f i = 0
    · simp [e]
    · rw [if_neg (by omega)]
      simp [e])
  unfold trimI
  rw [eI_len, h, eI_take f n _ (Gp.tl_le f n)]
theorem owns_takes {w : World} {B : Nat} {v : Value} {zs : List Int} {t : Nat} (ht : t ≤ zs.length) (h : w.ownsRow B 3 1 v (0 + t) ([] ++ (zs.take t).map (Value.int .i64))) : OwnI w B v (zs.take t) := by
  rw [Nat.zero_add, List.nil_append] at h
  unfold OwnI
  rw [show (zs.take t).length = t by rw [List.length_take]; omega]
  exact h

theorem one_cellI {xs : List Int} : ∀ u ∈ xs.map (Value.int .i64), u.oneCell' = true := by
  intro u hu
  obtain ⟨x, _, rfl⟩ := List.mem_map.1 hu
  rfl
end Go.Proofs.Ytcnigfejpfcfaaa

/- The program's division of polynomials: what the quotient and the rest are, and where they lie. Conditions: byte numbers, the divisor's last number not 0, lists of at most 2^20 numbers. -/
namespace Go.Proofs.Ytcnigfejpfcfaaa
set_option maxRecDepth 2000
open Go.ChangeShapes Go.WideShapes Go.ChangeAt Go.RowKit

theorem add_none (b j : Nat) : (⟨b, 0, none⟩ : Addr).add j = ⟨b, j, none⟩ := by unfold Addr.add; split <;> simp_all
theorem Els.news {w : World} {b n cap : Nat} {f : Nat → Nat} (h : Els w (some ⟨b, 0, none⟩) n cap f) : ∀ j u, ((eI f n).map (Value.int .u8))[j]? = some u → w.cell? ((⟨b, 0, none⟩ : Addr).add j) = some u := by
  intro j u hu
  rw [add_none]
  by_cases hj : j < n
  · obtain ⟨b', e, hc⟩ := h.at (i := j) hj
    cases e
    rw [hc]
    simpa [eI, hj] using hu
  · rw [List.getElem?_eq_none (by simp [eI_len]; omega)] at hu
    cases hu
theorem one_cell {d : IntKind} {xs : List Int} : ∀ u ∈ xs.map (Value.int d), u.oneCell' = true := by
  intro u hu
  obtain ⟨x, _, rfl⟩ := List.mem_map.1 hu
  rfl
theorem els_of_owns {w : World} {B n : Nat} {v : Value} {f : Nat → Nat} (h : w.ownsRow B 128 1 v n ((eI f n).map (Value.int .u8))) : ∃ ar cr, v = .slice ar n cr ∧ Els w ar n cr f := by
  rcases h.2 with ⟨e, hn⟩ | ⟨g, cap, cur, e, _⟩
  · subst hn; exact ⟨none, 0, e, Els.nil _ _⟩
  · subst e
    exact ⟨_, _, rfl, OwnU.els (B := B) h⟩

end Go.Proofs.Ytcnigfejpfcfaaa

/- The program's product of polynomials, and the polynomials that are 0 at places. Conditions: byte numbers, at most 100 factors of at most 1000 numbers. -/
namespace Go.Proofs.Ytcnigfejpfcfaaa
set_option maxRecDepth 2000
open Go.ChangeShapes Go.WideShapes Go.ChangeAt Go.RowKit

/-- The product of the first factors, and its length. -/
def pf (F : Nat → Nat → Nat) (N : Nat → Nat) : Nat → (Nat → Nat) × Nat
  | 0 => (Gp.one, 1)
  | i + 1 => (Gp.cv (pf F N i).1 (F i) (pf F N i).2, Gp.tl (Gp.cv (pf F N i).1 (F i) (pf F N i).2) ((pf F N i).2 + N i))
theorem pf_pol {F : Nat → Nat → Nat} {N : Nat → Nat} {k : Nat} (h : ∀ i, i < k → Gp.Pol (F i) (N i)) : ∀ i, i ≤ k → Gp.Pol (pf F N i).1 (pf F N i).2 := by
  intro i
  induction i with
  | zero => intro _; exact Gp.one_pol
  | succ i ih => intro hi; exact (Gp.cv_pol (h i (by omega))).tl
theorem pf_len {F : Nat → Nat → Nat} {N : Nat → Nat} {k : Nat} (h : ∀ i, i < k → N i ≤ 1000) : ∀ i, i ≤ k → (pf F N i).2 ≤ 1 + 1000 * i := by
  intro i
  induction i with
  | zero => intro _; exact Nat.le_refl _
  | succ i ih =>
    intro hi
    have h1 := ih (by omega)
    have h2 := h i (by omega)
    have h3 := Gp.tl_le (Gp.cv (pf F N i).1 (F i) (pf F N i).2) ((pf F N i).2 + N i)
    show Gp.tl _ _ ≤ _
    omega
theorem pf_succ (F : Nat → Nat → Nat) (N : Nat → Nat) (i : Nat) : pf F N (i + 1) = (Gp.cv (pf F N i).1 (F i) (pf F N i).2, Gp.tl (Gp.cv (pf F N i).1 (F i) (pf F N i).2) ((pf F N i).2 + N i)) := rfl

/-- A row of polynomials. -/
def Facs (w : World) (g k : Nat) (A : Nat → Option Addr) (N C : Nat → Nat) (F : Nat → Nat → Nat) : Prop :=
  ∀ i, i < k → w.cell? ⟨g, i, none⟩ = some (.slice (A i) (N i) (C i)) ∧ Els w (A i) (N i) (C i) (F i)
theorem Facs.below {w w' : World} {g k : Nat} {A : Nat → Option Addr} {N C : Nat → Nat} {F : Nat → Nat → Nat} (h : Facs w g k A N C F) (hb : Below w.heap.size w w') : Facs w' g k A N C F := fun i hi =>
  ⟨(hb.cell (p := ⟨g, i, none⟩) (block_lt_of_cell (h i hi).1)).trans (h i hi).1, (h i hi).2.below hb⟩

theorem one_els (w : World) : Els (w.alloc (.cells #[.int .u8 1] 128)) (some ⟨w.heap.size, 0, none⟩) 1 1 Gp.one := by
  refine ⟨Nat.le_refl _, .inr ⟨_, rfl, by simp, fun i hi => ?_⟩⟩
  obtain rfl : i = 0 := by omega
  rw [cell_of_row _ _ _ _ _ _ (heap_alloc_new w _)]
  rfl

end Go.Proofs.Ytcnigfejpfcfaaa

/- The program's polynomials that are 0 at places. Conditions: byte numbers, at most 100 places. -/
namespace Go.Proofs.Ytcnigfejpfcfaaa
set_option maxRecDepth 2000
open Go.ChangeShapes Go.WideShapes Go.ChangeAt Go.RowKit

def rowP (G : Nat → Nat) (n k : Nat) : List Value := (List.range n).map fun i => if i < k then .slice (some ⟨G i, 0, none⟩) 2 2 else .slice none 0 0
theorem rowP_len (G : Nat → Nat) (n k : Nat) : (rowP G n k).length = n := by simp [rowP]
theorem rowP_zero (G : Nat → Nat) (n : Nat) : rowP G n 0 = List.replicate n (.slice none 0 0) := by
  apply List.ext_getElem?
  intro i
  by_cases hi : i < n
  · simp [rowP, hi]
  · rw [List.getElem?_eq_none (by rw [rowP_len]; omega), List.getElem?_eq_none (by simp; omega)]
theorem rowP_set (G : Nat → Nat) (n k v : Nat) (h : k < n) : (rowP G n k).set k (.slice (some ⟨v, 0, none⟩) 2 2) = rowP (fun i => if i = k then v else G i) n (k + 1) := by
  apply List.ext_getElem?
  intro i
  rw [List.getElem?_set]
  by_cases hi : i < n
  · by_cases e : k = i
    · subst e
      simp [rowP, h]
    · by_cases h2 : i < k
      · simp [rowP, hi, e, h2, Ne.symm e, show i < k + 1 by omega]
      · simp [rowP, hi, e, h2, show ¬ i < k + 1 by omega]
  · by_cases e : k = i
    · omega
    · rw [if_neg e, List.getElem?_eq_none (by rw [rowP_len]; omega), List.getElem?_eq_none (by rw [rowP_len]; omega)]
theorem l2_els (w : World) (x : Nat) : Els (w.alloc (.cells #[.int .u8 (x : Int), .int .u8 1] 128)) (some ⟨w.heap.size, 0, none⟩) 2 2 (Gp.l2 x) := by
  refine ⟨Nat.le_refl _, .inr ⟨_, rfl, by simp, fun i hi => ?_⟩⟩
  rw [cell_of_row _ _ _ _ _ _ (heap_alloc_new w _)]
  match i, hi with
  | 0, _ => rfl
  | 1, _ => rfl
theorem Els.alloc {w : World} {a : Option Addr} {n cap : Nat} {f : Nat → Nat} (h : Els w a n cap f) (o : Obj) : Els (w.alloc o) a n cap f :=
  h.below ((Below.refl _ _).alloc (Nat.le_refl _) _)

theorem alloc_set_swap (w : World) (o : Obj) {g k : Nat} (v : Value) (h : g < w.heap.size) : (w.alloc o).setCell ⟨g, k, none⟩ v = (w.setCell ⟨g, k, none⟩ v).alloc o := by
  exact World.setCell_alloc_past o g k v h
end Go.Proofs.Ytcnigfejpfcfaaa

/- The program's functions over polynomials as they are called: what each answers at any lists of at most 2^20 numbers, in memory of its own; nothing that was there turns. -/
namespace Go.Proofs.Ytcnigfejpfcfaaa
set_option maxRecDepth 2000
open Go.ChangeShapes Go.WideShapes Go.ChangeAt Go.RowKit

def addP (xs ys : List Int) : List Int × Bool :=
  if okB xs = true ∧ okB ys = true then (eI (Gp.ad (coP xs) (coP ys)) (Gp.tl (Gp.ad (coP xs) (coP ys)) (max xs.length ys.length)), true) else ([], false)
def mulP (xs ys : List Int) : List Int × Bool :=
  if okB xs = true ∧ okB ys = true ∧ Gp.tl (Gp.cv (coP xs) (coP ys) xs.length) (xs.length + ys.length) ≤ 40 then (eI (Gp.cv (coP xs) (coP ys) xs.length) (Gp.tl (Gp.cv (coP xs) (coP ys) xs.length) (xs.length + ys.length)), true) else ([], false)
def divQ (xs ys : List Int) : Nat → Nat := Gp.dq (coP xs) (coP ys) (Gf.inv (coP ys (ys.length - 1))) ys.length (xs.length - ys.length + 1) (xs.length - ys.length + 1)
def divR (xs ys : List Int) : Nat → Nat := Gp.dr (coP xs) (coP ys) (Gf.inv (coP ys (ys.length - 1))) ys.length (xs.length - ys.length + 1) (xs.length - ys.length + 1)
def divP (xs ys : List Int) : List Int × List Int × Bool :=
  if okB xs = true ∧ okB ys = true ∧ 0 < ys.length then
    if ys.length ≤ xs.length then (eI (divQ xs ys) (Gp.tl (divQ xs ys) (xs.length - ys.length + 1)), eI (divR xs ys) (Gp.tl (divR xs ys) xs.length), true)
    else ([], eI (coP xs) (Gp.tl (coP xs) xs.length), true)
  else ([], [], false)
def atP (xs : List Int) (x : Int) : Int := if okB xs = true ∧ isB x = true then ((Gp.ev (coP xs) x.toNat xs.length : Nat) : Int) else -1

end Go.Proofs.Ytcnigfejpfcfaaa

/- The program's sum, product and quotient of polynomials, at any lists of at most 2^20 numbers. -/
namespace Go.Proofs.Ytcnigfejpfcfaaa
set_option maxRecDepth 2000
open Go.ChangeShapes Go.WideShapes Go.ChangeAt Go.RowKit

theorem OwnI.mono {w : World} {B B' : Nat} {v : Value} {zs : List Int} (h : OwnI w B v zs) (hb : B' ≤ B) : OwnI w B' v zs :=
  ⟨h.1, h.2.imp id fun ⟨g, cap, cur, h1, h2, h3⟩ => ⟨g, cap, cur, h1, Nat.le_trans hb h2, h3⟩⟩
theorem addP_no {xs ys : List Int} (h : ¬ (okB xs = true ∧ okB ys = true)) : addP xs ys = ([], false) := by unfold addP; rw [if_neg h]
theorem onTop_first {xs : List Int} (h : okB xs = true) (i : Nat) : onTop (fun _ => 0) (coP xs) 1 0 xs.length i = coP xs i := by
  have hp := (okB_parts h).2.2.1
  rw [onTop_sh hp.2, Nat.zero_xor, show Gp.sh 0 (coP xs) i = coP xs i by unfold Gp.sh; rw [if_pos (Nat.zero_le _), Nat.sub_zero], Gp.m_one (hp.1 i)]
theorem onTop_second {ys : List Int} (h : okB ys = true) (f : Nat → Nat) (i : Nat) : onTop f (coP ys) 1 0 ys.length i = Gp.ad f (coP ys) i := by
  have hp := (okB_parts h).2.2.1
  rw [onTop_sh hp.2, show Gp.sh 0 (coP ys) i = coP ys i by unfold Gp.sh; rw [if_pos (Nat.zero_le _), Nat.sub_zero], Gp.m_one (hp.1 i)]
  rfl

def twoA (g1 g2 : Nat) (i : Nat) : Option Addr := if i = 0 then some ⟨g1, 0, none⟩ else some ⟨g2, 0, none⟩
def twoN (n m : Nat) (i : Nat) : Nat := if i = 0 then n else m
def twoF (f g : Nat → Nat) (i : Nat) : Nat → Nat := if i = 0 then f else g
theorem pf_two {f g : Nat → Nat} {n m : Nat} (hf : Gp.Pol f n) (hl : n = 0 ∨ f (n - 1) ≠ 0) : pf (twoF f g) (twoN n m) 2 = (Gp.cv f g n, Gp.tl (Gp.cv f g n) (n + m)) := by
  have e1 : pf (twoF f g) (twoN n m) 1 = (f, n) := by
    rw [pf_succ]
    show (Gp.cv Gp.one f 1, Gp.tl (Gp.cv Gp.one f 1) (1 + n)) = _
    have e : Gp.cv Gp.one f 1 = f := by funext i; exact Gp.cv_one hf.1 i
    rw [e, Gp.tl_is f (1 + n) n (by omega) (fun i h1 _ => hf.2 i h1) hl]
  rw [pf_succ, e1]
  rfl
theorem mulP_no {xs ys : List Int} (h : ¬ (okB xs = true ∧ okB ys = true)) : mulP xs ys = ([], false) := by unfold mulP; rw [if_neg (fun h' => h ⟨h'.1, h'.2.1⟩)]

theorem divP_no {xs ys : List Int} (h : ¬ (okB xs = true ∧ okB ys = true)) : divP xs ys = ([], [], false) := by unfold divP; rw [if_neg (fun h' => h ⟨h'.1, h'.2.1⟩)]
end Go.Proofs.Ytcnigfejpfcfaaa

/- The laws' marks with the sums as letters; the lengths of the answers. -/
namespace Go.Proofs.Ytcnigfejpfcfaaa
set_option maxRecDepth 2000
open Go.ChangeShapes Go.WideShapes Go.ChangeAt Go.RowKit

theorem mark_q (B E : Nat) (a : Option Addr) (n cap k q : Nat) (zs : List Int) (w : World) (h : RowI w B E a n cap zs) (hn : n ≤ 1048576) (hk : k ≤ 10000000) (hq : k + n = q) :
    Calls Try.prog 44 #[.slice a n cap, .int .i64 (k : Int)] w fun e w' => e = .returned (.int .i64 (q : Int)) ∧ RowI w' B E a n cap (marks k n) ∧ Turned w w' B E := by
  subst hq
  exact mark_any B E a n cap k zs w h hn hk
theorem held_q (a : Option Addr) (n cap k q : Nat) (w : World) (h : IntsAt w a n (marks k n)) (hn : n ≤ 1048576) (hk : k ≤ 10000000) (hq : k + n = q) :
    Calls Try.prog 46 #[.slice a n cap, .int .i64 (k : Int)] w fun e w' => e = .returned (.int .i64 (q : Int)) ∧ w' = w := by
  subst hq
  exact held_any a n cap k w h hn hk
theorem addP_len (xs ys : List Int) : (addP xs ys).1.length ≤ 1048576 := by
  unfold addP
  by_cases h : okB xs = true ∧ okB ys = true
  · rw [if_pos h]
    show (eI _ _).length ≤ _
    rw [eI_len]
    have h1 := (okB_parts h.1).1
    have h2 := (okB_parts h.2).1
    exact Nat.le_trans (Gp.tl_le _ _) (by omega)
  · rw [if_neg h]; exact Nat.zero_le _
theorem mulP_len (xs ys : List Int) : (mulP xs ys).1.length ≤ 1048576 := by
  unfold mulP
  by_cases h : okB xs = true ∧ okB ys = true ∧ Gp.tl (Gp.cv (coP xs) (coP ys) xs.length) (xs.length + ys.length) ≤ 40
  · rw [if_pos h]
    show (eI _ _).length ≤ _
    rw [eI_len]
    omega
  · rw [if_neg h]; exact Nat.zero_le _
theorem divP_len (xs ys : List Int) : (divP xs ys).1.length ≤ 1048576 ∧ (divP xs ys).2.1.length ≤ 1048576 := by
  unfold divP
  by_cases h : okB xs = true ∧ okB ys = true ∧ 0 < ys.length
  · rw [if_pos h]
    have h1 := (okB_parts h.1).1
    by_cases h2 : ys.length ≤ xs.length
    · rw [if_pos h2]
      exact ⟨by show (eI _ _).length ≤ _; rw [eI_len]; exact Nat.le_trans (Gp.tl_le _ _) (by omega), by show (eI _ _).length ≤ _; rw [eI_len]; exact Nat.le_trans (Gp.tl_le _ _) (by omega)⟩
    · rw [if_neg h2]
      exact ⟨Nat.zero_le _, by show (eI _ _).length ≤ _; rw [eI_len]; exact Nat.le_trans (Gp.tl_le _ _) (by omega)⟩
  · rw [if_neg h]; exact ⟨Nat.zero_le _, Nat.zero_le _⟩
end Go.Proofs.Ytcnigfejpfcfaaa

/- The model's functions over polynomials: what each answers, in memory of its own; nothing that was there turns. Conditions: lists of at most 2^20 numbers; byte numbers where sums and products are made. -/
namespace Go.Proofs.Ytcnigfejpfcfaaa
set_option maxRecDepth 2000
open Go.ChangeShapes Go.WideShapes Go.ChangeAt Go.RowKit

/-- A row of whole numbers of ours. -/
def OwnR (w : World) (B g n cap : Nat) (f : Nat → Nat) : Prop := w.ownsRow B 3 1 (.slice (some ⟨g, 0, none⟩) n cap) n ((eI f n).map (Value.int .i64))
theorem OwnR.cap {w : World} {B g n cap : Nat} {f : Nat → Nat} (h : OwnR w B g n cap f) : n ≤ cap := by
  rcases h.2 with h' | ⟨g', cap', cur, e, _, _, hn, _⟩
  · cases h'.1
  · cases e; exact hn
theorem OwnR.cell {w : World} {B g n cap i : Nat} {f : Nat → Nat} (h : OwnR w B g n cap f) (hi : i < n) : w.cell? ⟨g, i, none⟩ = some (.int .i64 ((f i : Nat) : Int)) := by
  rw [World.ownsRow.cellAt h i (by omega)]
  simp [eI, hi]
theorem OwnR.ints {w : World} {B g n cap : Nat} {f : Nat → Nat} (h : OwnR w B g n cap f) : IntsAt w (some ⟨g, 0, none⟩) n (eI f n) := ownsRow.ints h
theorem OwnR.lt {w : World} {B g n cap : Nat} {f : Nat → Nat} (h : OwnR w B g n cap f) : B ≤ g ∧ g < w.heap.size := World.ownsRow.lt h g rfl
theorem OwnR.below {w w' : World} {B g n cap : Nat} {f : Nat → Nat} (h : OwnR w B g n cap f) (hb : Below w.heap.size w w') : OwnR w' B g n cap f := ownsRow_below h hb
theorem OwnR.other {w w' : World} {B g n cap r : Nat} {f : Nat → Nat} (h : OwnR w B g n cap f) (hg : w.grownBy w' (some r)) (hr : g ≠ r) : OwnR w' B g n cap f :=
  World.ownsRow.kept h hg (.inr (by simp [Value.ownBlock]; exact hr))
theorem OwnR.congr {w : World} {B g n cap : Nat} {f h : Nat → Nat} (ho : OwnR w B g n cap f) (e : ∀ i, i < n → f i = h i) : OwnR w B g n cap h := by
  unfold OwnR at *
  rw [← eI_congr e]
  exact ho
theorem OwnR.set {w : World} {B g n cap k v : Nat} {f : Nat → Nat} (h : OwnR w B g n cap f) (hk : k < n) :
    OwnR (w.setCell ⟨g, k, none⟩ (.int .i64 (v : Int))) B g n cap (fun i => if i = k then v else f i) ∧ w.grownBy (w.setCell ⟨g, k, none⟩ (.int .i64 (v : Int))) (some g) := by
  have hs := World.ownsRow.stored h k (.int .i64 (v : Int))
  rw [eI_set f n k v .i64 hk] at hs
  exact ⟨hs.1, ⟨rfl, rfl, rfl, by simp, fun j _ hj => heap_setCell_other w ⟨g, k, none⟩ j _ (fun e => hj (by simp [e]))⟩⟩
theorem eI_snoc (f : Nat → Nat) (k : Nat) : eI f (k + 1) = eI f k ++ [((f k : Nat) : Int)] := by
  unfold eI
  rw [List.range_succ, List.map_append]
  rfl
theorem OwnR.snoc {w : World} {B g k cap : Nat} {f : Nat → Nat} (h : w.ownsRow B 3 1 (.slice (some ⟨g, 0, none⟩) (k + 1) cap) (k + 1) ((eI f k).map (Value.int .i64) ++ [.int .i64 ((f k : Nat) : Int)])) : OwnR w B g (k + 1) cap f := by
  unfold OwnR
  rw [eI_snoc, List.map_append]
  exact h
theorem OwnR.ofI {w : World} {B g n cap : Nat} {f : Nat → Nat} (h : OwnR w B g n cap f) : OwnI w B (.slice (some ⟨g, 0, none⟩) n cap) (eI f n) := by
  unfold OwnI
  rw [eI_len]
  exact h
theorem intsE {w : World} {a : Option Addr} {n k : Nat} {f : Nat → Nat} (h : IntsAt w a n (eI f n)) (hk : k < n) : ∃ b off, a = some ⟨b, off, none⟩ ∧ w.cell? ⟨b, off + k, none⟩ = some (.int .i64 ((f k : Nat) : Int)) := by
  obtain ⟨b, off, e, hc⟩ := h.2 k hk
  rw [eI_getD f n k hk] at hc
  exact ⟨b, off, e, hc⟩

theorem lit0 (w : World) (f : Nat → Nat) : OwnR (w.alloc (.cells #[] 3)) w.heap.size w.heap.size 0 0 f :=
  World.ownsRow_lit w #[] 0 (Nat.le_refl _) (by unfold maxLen; omega) rfl

end Go.Proofs.Ytcnigfejpfcfaaa
