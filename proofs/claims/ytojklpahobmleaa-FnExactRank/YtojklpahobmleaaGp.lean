/- The plain mathematics of polynomials over the field of 256 numbers: products, values, division, the polynomial through places. A polynomial is the row of its numbers, a function from places to numbers. Nothing of Go's text is used; conditions stand at each theorem. -/
import Derived.Test.YtojklpahobmleaaGf
namespace Go.Proofs.Ytojklpahobmleaa.Gp

/-- The product, at every two numbers. -/
def m (a b : Nat) : Nat := Gf.mul (a % 256) (b % 256)
theorem m_lt (a b : Nat) : m a b < 256 := Gf.mul_lt (by omega) (by omega)
theorem m_mod (a b : Nat) : m a b % 256 = m a b := Nat.mod_eq_of_lt (m_lt a b)
theorem m_comm (a b : Nat) : m a b = m b a := Gf.mul_comm (by omega) (by omega)
theorem m_assoc (a b c : Nat) : m (m a b) c = m a (m b c) := by
  show Gf.mul (m a b % 256) _ = Gf.mul _ (m b c % 256)
  rw [m_mod, m_mod]
  exact Gf.mul_assoc (by omega) (by omega) (by omega)
theorem m_left (a b c : Nat) : m a (m b c) = m b (m a c) := by rw [← m_assoc, m_comm a b, m_assoc]
theorem xor_mod (b c : Nat) : (b ^^^ c) % 256 = (b % 256) ^^^ (c % 256) := Nat.xor_mod_two_pow (n := 8)
theorem m_xor (a b c : Nat) : m a (b ^^^ c) = m a b ^^^ m a c := by
  unfold m
  rw [xor_mod, Gf.mul_xor]
theorem xor_m (a b c : Nat) : m (b ^^^ c) a = m b a ^^^ m c a := by rw [m_comm, m_xor, m_comm a b, m_comm a c]
theorem m_zero (a : Nat) : m a 0 = 0 := Gf.mul_zero (by omega)
theorem zero_m (a : Nat) : m 0 a = 0 := Gf.zero_mul (by omega)
theorem m_one {a : Nat} (h : a < 256) : m a 1 = a := by
  unfold m
  rw [Nat.mod_eq_of_lt h]
  exact Gf.mul_one h
theorem one_m {a : Nat} (h : a < 256) : m 1 a = a := by rw [m_comm, m_one h]
theorem m_nat {a b : Nat} (ha : a < 256) (hb : b < 256) : Gf.mul a b = m a b := by unfold m; rw [Nat.mod_eq_of_lt ha, Nat.mod_eq_of_lt hb]
theorem m_inv {a : Nat} (ha : a < 256) (a0 : a ≠ 0) : m a (Gf.inv a) = 1 := by rw [← m_nat ha (Gf.inv_lt a), Gf.mul_inv ha a0]
theorem m_ne {a b : Nat} (ha : a < 256) (hb : b < 256) (a0 : a ≠ 0) (b0 : b ≠ 0) : m a b ≠ 0 := by rw [← m_nat ha hb]; exact Gf.mul_ne ha hb a0 b0
theorem xor_self (a : Nat) : a ^^^ a = 0 := Nat.xor_self a
theorem xor_left (a b c : Nat) : a ^^^ (b ^^^ c) = b ^^^ (a ^^^ c) := by rw [← Nat.xor_assoc, Nat.xor_comm a b, Nat.xor_assoc]
theorem xor_can (a b : Nat) : a ^^^ (a ^^^ b) = b := by rw [← Nat.xor_assoc, Nat.xor_self, Nat.zero_xor]
theorem xor_eq {a b : Nat} (h : a ^^^ b = 0) : a = b := by
  have h2 : a ^^^ (a ^^^ b) = a ^^^ 0 := by rw [h]
  rw [xor_can, Nat.xor_zero] at h2
  exact h2.symm
theorem xor_lt {a b : Nat} (ha : a < 256) (hb : b < 256) : a ^^^ b < 256 := Gf.xor_lt ha hb

/-- All its numbers are byte numbers, and none but 0 stands from 'n' on. -/
def Pol (f : Nat → Nat) (n : Nat) : Prop := (∀ i, f i < 256) ∧ ∀ i, n ≤ i → f i = 0
theorem Pol.more {f : Nat → Nat} {n k : Nat} (h : Pol f n) (hk : n ≤ k) : Pol f k := ⟨h.1, fun i hi => h.2 i (Nat.le_trans hk hi)⟩

/-- The length without the noughts at the end. -/
def tl (f : Nat → Nat) : Nat → Nat
  | 0 => 0
  | n + 1 => if f n = 0 then tl f n else n + 1
theorem tl_le (f : Nat → Nat) (n : Nat) : tl f n ≤ n := by
  induction n with
  | zero => exact Nat.le_refl _
  | succ n ih => unfold tl; split <;> omega
theorem tl_zero (f : Nat → Nat) (n : Nat) : ∀ i, tl f n ≤ i → i < n → f i = 0 := by
  induction n with
  | zero => intro i _ h; omega
  | succ n ih =>
    intro i h1 h2
    unfold tl at h1
    split at h1
    · by_cases e : i = n
      · subst e; assumption
      · exact ih i h1 (by omega)
    · omega
theorem tl_last (f : Nat → Nat) (n : Nat) (h : 0 < tl f n) : f (tl f n - 1) ≠ 0 := by
  induction n with
  | zero => simp [tl] at h
  | succ n ih =>
    unfold tl at h ⊢
    split
    · rename_i h0
      rw [if_pos h0] at h
      exact ih h
    · simpa
/-- What the trimmed length is. -/
theorem tl_is (f : Nat → Nat) (n t : Nat) (ht : t ≤ n) (hz : ∀ i, t ≤ i → i < n → f i = 0) (hl : t = 0 ∨ f (t - 1) ≠ 0) : tl f n = t := by
  have h1 := tl_le f n
  have h2 := tl_zero f n
  have h3 := tl_last f n
  rcases Nat.lt_trichotomy (tl f n) t with h | h | h
  · rcases hl with hl | hl
    · omega
    · exact absurd (h2 (t - 1) (by omega) (by omega)) hl
  · exact h
  · exact absurd (hz (tl f n - 1) (by omega) (by omega)) (h3 (by omega))
theorem tl_more {f : Nat → Nat} {n : Nat} (hz : ∀ i, n ≤ i → f i = 0) (k : Nat) (hk : n ≤ k) : tl f k = tl f n := by
  refine tl_is f k (tl f n) (Nat.le_trans (tl_le f n) hk) ?_ ?_
  · intro i h1 h2
    by_cases e : i < n
    · exact tl_zero f n i h1 e
    · exact hz i (by omega)
  · by_cases e : tl f n = 0
    · exact .inl e
    · exact .inr (tl_last f n (by omega))
theorem Pol.tl {f : Nat → Nat} {n : Nat} (h : Pol f n) : Pol f (tl f n) :=
  ⟨h.1, fun i hi => by
    by_cases e : i < n
    · exact tl_zero f n i hi e
    · exact h.2 i (by omega)⟩
theorem tl_idem (f : Nat → Nat) (n : Nat) : Gp.tl f (Gp.tl f n) = Gp.tl f n :=
  tl_is f _ _ (Nat.le_refl _) (fun i h1 h2 => by omega) (by
    by_cases e : Gp.tl f n = 0
    · exact .inl e
    · exact .inr (tl_last f n (by omega)))
theorem tl_congr {f g : Nat → Nat} (n : Nat) (h : ∀ i, i < n → f i = g i) : Gp.tl f n = Gp.tl g n := by
  induction n with
  | zero => rfl
  | succ n ih => unfold Gp.tl; rw [h n (by omega), ih (fun i hi => h i (by omega))]

/-! ### Sums and products -/
def ad (f g : Nat → Nat) (i : Nat) : Nat := f i ^^^ g i
def sh (k : Nat) (b : Nat → Nat) (i : Nat) : Nat := if k ≤ i then b (i - k) else 0
/-- The first 'k' rows of the product. -/
def cv (a b : Nat → Nat) : Nat → Nat → Nat
  | 0, _ => 0
  | k + 1, i => cv a b k i ^^^ m (sh k b i) (a k)
theorem cv_s (a b : Nat → Nat) (k i : Nat) : cv a b (k + 1) i = cv a b k i ^^^ m (sh k b i) (a k) := rfl
theorem ad_pol {f g : Nat → Nat} {n k : Nat} (hf : Pol f n) (hg : Pol g k) : Pol (ad f g) (max n k) :=
  ⟨fun i => xor_lt (hf.1 i) (hg.1 i), fun i hi => by unfold ad; rw [hf.2 i (by omega), hg.2 i (by omega)]; rfl⟩
theorem cv_lt (a b : Nat → Nat) (k i : Nat) : cv a b k i < 256 := by
  induction k with
  | zero => unfold cv; omega
  | succ k ih => unfold cv; exact xor_lt ih (m_lt _ _)
/-- Above its length a product has nothing. -/
theorem cv_high (a b : Nat → Nat) (nb : Nat) (hb : ∀ i, nb ≤ i → b i = 0) (k i : Nat) (hi : k + nb ≤ i + 1) : cv a b k i = 0 := by
  induction k with
  | zero => rfl
  | succ k ih =>
    unfold cv
    rw [ih (by omega), show sh k b i = 0 by unfold sh; rw [if_pos (by omega), hb _ (by omega)], zero_m]
    rfl
theorem cv_pol {a b : Nat → Nat} {na nb : Nat} (hb : Pol b nb) : Pol (cv a b na) (na + nb) :=
  ⟨fun i => cv_lt a b na i, fun i hi => cv_high a b nb hb.2 na i (by omega)⟩
theorem cv_zero_rows (a b : Nat → Nat) (na k i : Nat) (ha : ∀ j, na ≤ j → a j = 0) (hk : na ≤ k) : cv a b k i = cv a b na i := by
  induction k with
  | zero => rw [show na = 0 by omega]
  | succ k ih =>
    by_cases e : na = k + 1
    · rw [e]
    · rw [cv_s, ha k (by omega), m_zero, Nat.xor_zero, ih (by omega)]
/-- The product's last number. -/
theorem cv_top (a b : Nat → Nat) (na nb : Nat) (hb : ∀ i, nb ≤ i → b i = 0) (h1 : 0 < na) (h2 : 0 < nb) : cv a b na (na + nb - 2) = m (b (nb - 1)) (a (na - 1)) := by
  obtain ⟨k, rfl⟩ : ∃ k, na = k + 1 := ⟨na - 1, by omega⟩
  show cv a b k _ ^^^ _ = _
  rw [cv_high a b nb hb k _ (by omega), Nat.zero_xor]
  congr 1
  unfold sh
  rw [if_pos (by omega)]
  congr 1
  omega
/-- A product by nothing but 1. -/
def one (i : Nat) : Nat := if i = 0 then 1 else 0
theorem one_pol : Pol one 1 := ⟨fun i => by unfold one; split <;> omega, fun i hi => by unfold one; rw [if_neg (by omega)]⟩
theorem cv_one {b : Nat → Nat} (hb : ∀ i, b i < 256) (i : Nat) : cv one b 1 i = b i := by
  show 0 ^^^ m (sh 0 b i) 1 = _
  rw [Nat.zero_xor]
  unfold sh
  simp [m_one (hb i)]

/-! ### Values -/
/-- The value of the numbers from place 'k' on, 'r' of them. -/
def hn (p : Nat → Nat) (x : Nat) : Nat → Nat → Nat
  | 0, _ => 0
  | r + 1, k => m (hn p x r (k + 1)) x ^^^ p k
def ev (p : Nat → Nat) (x n : Nat) : Nat := hn p x n 0
theorem hn_lt {p : Nat → Nat} (hp : ∀ i, p i < 256) (x r k : Nat) : hn p x r k < 256 := by
  cases r with
  | zero => unfold hn; omega
  | succ r => unfold hn; exact xor_lt (m_lt _ _) (hp k)
def pw (x : Nat) : Nat → Nat
  | 0 => 1
  | n + 1 => m (pw x n) x
def ps (p : Nat → Nat) (x : Nat) : Nat → Nat
  | 0 => 0
  | n + 1 => ps p x n ^^^ m (p n) (pw x n)
theorem hn_s (p : Nat → Nat) (x r k : Nat) : hn p x (r + 1) k = m (hn p x r (k + 1)) x ^^^ p k := rfl
theorem pw_s (x n : Nat) : pw x (n + 1) = m (pw x n) x := rfl
theorem ps_0 (p : Nat → Nat) (x : Nat) : ps p x 0 = 0 := rfl
theorem ps_s (p : Nat → Nat) (x n : Nat) : ps p x (n + 1) = ps p x n ^^^ m (p n) (pw x n) := rfl
theorem hn_ps (p : Nat → Nat) (x r k : Nat) : ps p x k ^^^ m (hn p x r k) (pw x k) = ps p x (k + r) := by
  induction r generalizing k with
  | zero => unfold hn; rw [zero_m, Nat.xor_zero]; rfl
  | succ r ih =>
    have h := ih (k + 1)
    rw [show k + (r + 1) = k + 1 + r by omega, ← h, hn_s, ps_s, pw_s, xor_m, m_assoc, m_comm x (pw x k), Nat.xor_assoc, Nat.xor_comm (m (p k) (pw x k))]
theorem ev_ps {p : Nat → Nat} (hp : ∀ i, p i < 256) (x n : Nat) : ev p x n = ps p x n := by
  have h := hn_ps p x n 0
  rw [Nat.zero_add] at h
  rw [← h]
  show _ = 0 ^^^ m _ 1
  rw [Nat.zero_xor, m_one (hn_lt hp _ _ _)]
  rfl
theorem ps_ad (f g : Nat → Nat) (x n : Nat) : ps (ad f g) x n = ps f x n ^^^ ps g x n := by
  induction n with
  | zero => rw [ps_0, ps_0, ps_0, xor_self]
  | succ n ih =>
    rw [ps_s, ps_s, ps_s, ih, show ad f g n = f n ^^^ g n from rfl, xor_m]
    simp only [Nat.xor_assoc, xor_left]
theorem ps_scale (f : Nat → Nat) (c x n : Nat) : ps (fun i => m (f i) c) x n = m (ps f x n) c := by
  induction n with
  | zero => rw [ps_0, ps_0, zero_m]
  | succ n ih => rw [ps_s, ps_s, ih, xor_m, m_assoc, m_assoc, m_comm c]
theorem ps_more {f : Nat → Nat} {n : Nat} (hf : ∀ i, n ≤ i → f i = 0) (x k : Nat) (hk : n ≤ k) : ps f x k = ps f x n := by
  induction k with
  | zero => rw [show n = 0 by omega]
  | succ k ih =>
    by_cases e : n = k + 1
    · rw [e]
    · rw [ps_s, hf k (by omega), zero_m, Nat.xor_zero, ih (by omega)]
theorem pw_lt (x n : Nat) : pw x n < 256 := by
  cases n with
  | zero => unfold pw; omega
  | succ n => unfold pw; exact m_lt _ _
theorem pw_add (x k n : Nat) : pw x (k + n) = m (pw x n) (pw x k) := by
  induction n with
  | zero => show _ = m 1 _; rw [one_m (pw_lt _ _)]; rfl
  | succ n ih =>
    show m (pw x (k + n)) x = m (m (pw x n) x) (pw x k)
    rw [ih, m_assoc, m_assoc, m_comm x]
theorem ps_sh0 (b : Nat → Nat) (k x : Nat) : ps (sh k b) x k = 0 := by
  have h : ∀ n, n ≤ k → ps (sh k b) x n = 0 := by
    intro n
    induction n with
    | zero => intro _; rfl
    | succ n ih =>
      intro hn
      rw [ps_s, ih (by omega), show sh k b n = 0 by unfold sh; rw [if_neg (by omega)], zero_m, xor_self]
  exact h k (Nat.le_refl _)
theorem ps_sh (b : Nat → Nat) (k x n : Nat) : ps (sh k b) x (k + n) = m (ps b x n) (pw x k) := by
  induction n with
  | zero => rw [Nat.add_zero, ps_sh0, ps_0, zero_m]
  | succ n ih =>
    rw [← Nat.add_assoc, ps_s, ps_s, ih, xor_m, show sh k b (k + n) = b n by unfold sh; rw [if_pos (by omega)]; congr 1; omega, pw_add, m_assoc]
theorem ps_cv (a b : Nat → Nat) (nb x N k : Nat) (hb : ∀ i, nb ≤ i → b i = 0) (hN : k + nb ≤ N) : ps (cv a b k) x N = m (ps b x nb) (ps a x k) := by
  induction k with
  | zero =>
    have h : ∀ n, ps (cv a b 0) x n = 0 := by
      intro n
      induction n with
      | zero => rfl
      | succ n ih => rw [ps_s, ih, show cv a b 0 n = 0 from rfl, zero_m, xor_self]
    rw [h, ps_0, m_zero]
  | succ k ih =>
    have e : cv a b (k + 1) = ad (cv a b k) (fun i => m (sh k b i) (a k)) := rfl
    rw [e, ps_ad, ih (by omega), ps_scale, ps_s a, m_xor, ps_more (f := sh k b) (n := k + nb) (fun i hi => by unfold sh; rw [if_pos (by omega), hb _ (by omega)]) x N (by omega), ps_sh, m_assoc, m_comm (pw x k)]

/-! ### Division -/
section
variable (a b : Nat → Nat) (lead nb T : Nat)
/-- The rest behind 's' rounds. -/
def dr : Nat → Nat → Nat
  | 0, i => a i
  | s + 1, i => dr s i ^^^ m (sh (T - 1 - s) b i) (m (dr s (T - 1 - s + nb - 1)) lead)
/-- The quotient's number that round 's' finds. -/
def dc (s : Nat) : Nat := m (dr a b lead nb T s (T - 1 - s + nb - 1)) lead
/-- The quotient behind 's' rounds. -/
def dq (s i : Nat) : Nat := if T - s ≤ i ∧ i < T then dc a b lead nb T (T - 1 - i) else 0
theorem dr_succ (s i : Nat) : dr a b lead nb T (s + 1) i = dr a b lead nb T s i ^^^ m (sh (T - 1 - s) b i) (dc a b lead nb T s) := rfl
theorem dr_lt (ha : ∀ i, a i < 256) (s i : Nat) : dr a b lead nb T s i < 256 := by
  induction s with
  | zero => exact ha i
  | succ s ih => rw [dr_succ]; exact xor_lt ih (m_lt _ _)
theorem dc_lt (s : Nat) : dc a b lead nb T s < 256 := m_lt _ _
theorem dq_pol (s : Nat) : Pol (dq a b lead nb T s) T :=
  ⟨fun i => by unfold dq; split; exact dc_lt _ _ _ _ _ _; omega, fun i hi => by unfold dq; rw [if_neg (by omega)]⟩
theorem dq_set (s : Nat) (hs : s < T) (i : Nat) : dq a b lead nb T (s + 1) i = if i = T - 1 - s then dc a b lead nb T s else dq a b lead nb T s i := by
  unfold dq
  by_cases e : i = T - 1 - s
  · subst e
    rw [if_pos (by omega), if_pos rfl]
    congr 1
    omega
  · rw [if_neg e]
    by_cases h : T - s ≤ i ∧ i < T
    · rw [if_pos h, if_pos (by omega)]
    · rw [if_neg h, if_neg (by omega)]
/-- What is divided is the quotient times what it is divided by, and the rest. -/
theorem dr_sum (s : Nat) (hs : s ≤ T) (i : Nat) : cv (dq a b lead nb T T) b T i = cv (dq a b lead nb T T) b (T - s) i ^^^ (a i ^^^ dr a b lead nb T s i) := by
  induction s with
  | zero => show _ = _ ^^^ (a i ^^^ a i); rw [xor_self, Nat.xor_zero]; rfl
  | succ s ih =>
    rw [ih (by omega), dr_succ, show T - s = T - 1 - s + 1 by omega, show T - (s + 1) = T - 1 - s by omega]
    show (cv _ b (T - 1 - s) i ^^^ m (sh (T - 1 - s) b i) (dq a b lead nb T T (T - 1 - s))) ^^^ _ = _
    rw [show dq a b lead nb T T (T - 1 - s) = dc a b lead nb T s by
      unfold dq
      rw [if_pos (by omega)]
      congr 1
      omega]
    rw [Nat.xor_assoc]
    congr 1
    rw [xor_left, Nat.xor_comm (m _ _) (dr a b lead nb T s i)]
theorem dr_all (i : Nat) : cv (dq a b lead nb T T) b T i ^^^ dr a b lead nb T T i = a i := by
  rw [dr_sum a b lead nb T T (Nat.le_refl _) i, Nat.sub_self]
  show (0 ^^^ _) ^^^ _ = _
  rw [Nat.zero_xor, Nat.xor_assoc, xor_self, Nat.xor_zero]
/-- The rest is shorter than what it was divided by. -/
theorem dr_short (hnb : 0 < nb) (ha : Pol a (T + nb - 1)) (hb : ∀ i, nb ≤ i → b i = 0) (hl : m (b (nb - 1)) lead = 1) (s : Nat) (hs : s ≤ T) (i : Nat) (hi : T - s + nb - 1 ≤ i) : dr a b lead nb T s i = 0 := by
  induction s generalizing i with
  | zero => exact ha.2 i (by omega)
  | succ s ih =>
    rw [dr_succ]
    by_cases e : i = T - 1 - s + nb - 1
    · rw [show sh (T - 1 - s) b i = b (nb - 1) by unfold sh; rw [if_pos (by omega)]; congr 1; omega]
      unfold dc
      rw [← e, m_left, hl, m_one (dr_lt a b lead nb T ha.1 s i), xor_self]
    · rw [ih (by omega) i (by omega), show sh (T - 1 - s) b i = 0 by unfold sh; rw [if_pos (by omega), hb _ (by omega)], zero_m]
      rfl
/-- A product that is divided by one of its two gives the other. -/
theorem dr_exact (p : Nat → Nat) (hp : ∀ i, p i < 256) (hnb : 0 < nb) (hb : ∀ i, nb ≤ i → b i = 0) (hl : m (b (nb - 1)) lead = 1) (ha : ∀ i, a i = cv p b T i) (s : Nat) (hs : s ≤ T) (i : Nat) : dr a b lead nb T s i = cv p b (T - s) i := by
  induction s generalizing i with
  | zero => exact ha i
  | succ s ih =>
    have hT : T - s = T - 1 - s + 1 := by omega
    have hc : dc a b lead nb T s = p (T - 1 - s) := by
      unfold dc
      rw [ih (by omega), hT]
      show m (cv p b (T - 1 - s) _ ^^^ m (sh (T - 1 - s) b _) (p (T - 1 - s))) lead = _
      rw [cv_high p b nb hb _ _ (by omega), Nat.zero_xor, show sh (T - 1 - s) b (T - 1 - s + nb - 1) = b (nb - 1) by unfold sh; rw [if_pos (by omega)]; congr 1; omega, m_assoc, m_left, hl, m_one (hp _)]
    rw [dr_succ, hc, ih (by omega), hT, show T - (s + 1) = T - 1 - s by omega]
    show (cv p b (T - 1 - s) i ^^^ m (sh (T - 1 - s) b i) (p (T - 1 - s))) ^^^ _ = _
    rw [Nat.xor_assoc, xor_self, Nat.xor_zero]
theorem dq_exact (p : Nat → Nat) (hp : Pol p T) (hnb : 0 < nb) (hb : ∀ i, nb ≤ i → b i = 0) (hl : m (b (nb - 1)) lead = 1) (ha : ∀ i, a i = cv p b T i) (i : Nat) : dq a b lead nb T T i = p i := by
  unfold dq
  by_cases h : T - T ≤ i ∧ i < T
  · rw [if_pos h]
    unfold dc
    rw [dr_exact a b lead nb T p hp.1 hnb hb hl ha _ (by omega), show T - (T - 1 - i) = i + 1 by omega, show T - 1 - (T - 1 - i) = i by omega]
    show m (cv p b i _ ^^^ m (sh i b _) (p i)) lead = _
    rw [cv_high p b nb hb _ _ (by omega), Nat.zero_xor, show sh i b (i + nb - 1) = b (nb - 1) by unfold sh; rw [if_pos (by omega)]; congr 1; omega, m_assoc, m_left, hl, m_one (hp.1 _)]
  · rw [if_neg h, hp.2 i (by omega)]
end

/-! ### The polynomial through places -/
/-- The polynomial of two numbers that is 0 at 'x'. -/
def l2 (x : Nat) (i : Nat) : Nat := if i = 0 then x else if i = 1 then 1 else 0
theorem l2_pol {x : Nat} (h : x < 256) : Pol (l2 x) 2 := ⟨fun i => by unfold l2; split; exact h; split <;> omega, fun i hi => by unfold l2; rw [if_neg (by omega), if_neg (by omega)]⟩
def lin (x : Nat) (p : Nat → Nat) : Nat → Nat
  | 0 => m (p 0) x
  | i + 1 => m (p (i + 1)) x ^^^ p i
theorem lin_pol {x : Nat} {p : Nat → Nat} {n : Nat} (hp : Pol p n) : Pol (lin x p) (n + 1) :=
  ⟨fun i => by cases i with
    | zero => exact m_lt _ _
    | succ i => exact xor_lt (m_lt _ _) (hp.1 i),
  fun i hi => by cases i with
    | zero => omega
    | succ i => show m _ _ ^^^ _ = 0; rw [hp.2 (i + 1) (by omega), hp.2 i (by omega), zero_m]; rfl⟩
theorem cv_l2 (x : Nat) (p : Nat → Nat) (hp : ∀ i, p i < 256) (k i : Nat) : cv p (l2 x) k i = (if i < k then m (p i) x else 0) ^^^ (if 0 < i ∧ i < k + 1 then p (i - 1) else 0) := by
  induction k with
  | zero => show 0 = _; rw [if_neg (by omega), if_neg (by omega)]; rfl
  | succ k ih =>
    unfold cv
    rw [ih]
    by_cases h1 : i = k
    · subst h1
      rw [if_neg (by omega), if_pos (show i < i + 1 by omega), show sh i (l2 x) i = x by unfold sh; simp [l2], m_comm x, Nat.zero_xor, Nat.xor_comm]
      congr 1
      by_cases h2 : 0 < i
      · rw [if_pos (by omega), if_pos (by omega)]
      · rw [if_neg (by omega), if_neg (by omega)]
    · by_cases h2 : i = k + 1
      · subst h2
        rw [if_neg (by omega), if_neg (by omega), if_neg (by omega), if_pos (by omega), show sh k (l2 x) (k + 1) = 1 by unfold sh; rw [if_pos (by omega), show k + 1 - k = 1 by omega]; rfl, one_m (hp k)]
        rfl
      · have h3 : sh k (l2 x) i = 0 := by
          unfold sh
          by_cases h4 : k ≤ i
          · rw [if_pos h4]
            unfold l2
            rw [if_neg (by omega), if_neg (by omega)]
          · rw [if_neg h4]
        rw [h3, zero_m, Nat.xor_zero]
        by_cases h4 : i < k
        · rw [if_pos h4, if_pos (show i < k + 1 by omega)]
          by_cases h5 : 0 < i
          · rw [if_pos (by omega), if_pos (by omega)]
          · rw [if_neg (by omega), if_neg (by omega)]
        · rw [if_neg h4, if_neg (by omega), if_neg (by omega), if_neg (by omega)]
theorem cv_lin {x : Nat} {p : Nat → Nat} {n : Nat} (hp : Pol p n) (i : Nat) : cv p (l2 x) n i = lin x p i := by
  rw [cv_l2 x p hp.1]
  cases i with
  | zero =>
    rw [if_neg (show ¬ (0 < 0 ∧ _) by omega), Nat.xor_zero]
    by_cases h : 0 < n
    · rw [if_pos h]; rfl
    · rw [if_neg h]; show 0 = m _ _; rw [hp.2 0 (by omega), zero_m]
  | succ i =>
    show _ = m (p (i + 1)) x ^^^ p i
    have e1 : (if i + 1 < n then m (p (i + 1)) x else 0) = m (p (i + 1)) x := by
      by_cases h : i + 1 < n
      · rw [if_pos h]
      · rw [if_neg h, hp.2 (i + 1) (by omega), zero_m]
    have e2 : (if 0 < i + 1 ∧ i + 1 < n + 1 then p (i + 1 - 1) else 0) = p i := by
      by_cases h : i + 1 < n + 1
      · rw [if_pos ⟨by omega, h⟩]; rfl
      · rw [if_neg (by omega), hp.2 i (by omega)]
    rw [e1, e2]
theorem lin_comm (x y : Nat) (p : Nat → Nat) : lin x (lin y p) = lin y (lin x p) := by
  funext i
  match i with
  | 0 => show m (m _ _) _ = m (m _ _) _; rw [m_assoc, m_assoc, m_comm y]
  | 1 =>
    show m (m (p 1) y ^^^ p 0) x ^^^ m (p 0) y = m (m (p 1) x ^^^ p 0) y ^^^ m (p 0) x
    rw [xor_m, xor_m, m_assoc, m_assoc, m_comm y x, Nat.xor_assoc, Nat.xor_assoc, Nat.xor_comm (m (p 0) x)]
  | i + 2 =>
    show m (m (p (i + 2)) y ^^^ p (i + 1)) x ^^^ (m (p (i + 1)) y ^^^ p i) = m (m (p (i + 2)) x ^^^ p (i + 1)) y ^^^ (m (p (i + 1)) x ^^^ p i)
    rw [xor_m, xor_m, m_assoc, m_assoc, m_comm y x, Nat.xor_assoc, Nat.xor_assoc, xor_left (m (p (i + 1)) x)]
/-- The value of a product by the polynomial that is 0 at 'x'. -/
theorem ps_lin (x y : Nat) (p : Nat → Nat) (n : Nat) : ps (lin x p) y (n + 1) = m (ps p y (n + 1)) x ^^^ m (ps p y n) y := by
  induction n with
  | zero =>
    show (0 ^^^ m (m (p 0) x) 1) = m (0 ^^^ m (p 0) 1) x ^^^ m 0 y
    rw [zero_m, Nat.zero_xor, Nat.zero_xor, Nat.xor_zero, m_assoc, m_assoc, m_comm x 1]
  | succ n ih =>
    show ps (lin x p) y (n + 1) ^^^ m (m (p (n + 1)) x ^^^ p n) (pw y (n + 1)) = m (ps p y (n + 1) ^^^ m (p (n + 1)) (pw y (n + 1))) x ^^^ m (ps p y n ^^^ m (p n) (pw y n)) y
    rw [ih, xor_m, xor_m, xor_m]
    have e1 : m (m (p (n + 1)) (pw y (n + 1))) x = m (m (p (n + 1)) x) (pw y (n + 1)) := by rw [m_assoc, m_assoc, m_comm x]
    have e2 : m (m (p n) (pw y n)) y = m (p n) (pw y (n + 1)) := by rw [m_assoc]; rfl
    rw [e1, e2]
    simp only [Nat.xor_assoc, xor_left]
theorem ps_lin' {x y : Nat} {p : Nat → Nat} {n : Nat} (hp : Pol p n) : ps (lin x p) y (n + 1) = m (ps p y n) (y ^^^ x) := by
  rw [ps_lin, ps_more hp.2 y (n + 1) (by omega), m_xor, Nat.xor_comm]
/-- The product over the first 'k' places, and over them without place 'i'. -/
def pr (xs : Nat → Nat) : Nat → Nat → Nat
  | 0 => one
  | k + 1 => lin (xs k) (pr xs k)
def po (xs : Nat → Nat) (i : Nat) : Nat → Nat → Nat
  | 0 => one
  | k + 1 => if k = i then po xs i k else lin (xs k) (po xs i k)
/-- The length of the second. -/
def pl (i k : Nat) : Nat := if i < k then k else k + 1
theorem pr_pol (xs : Nat → Nat) (k : Nat) : Pol (pr xs k) (k + 1) := by
  induction k with
  | zero => exact one_pol
  | succ k ih => exact lin_pol ih
theorem pr_top (xs : Nat → Nat) (k : Nat) : pr xs k k = 1 := by
  induction k with
  | zero => rfl
  | succ k ih =>
    show m (pr xs k (k + 1)) _ ^^^ pr xs k k = 1
    rw [(pr_pol xs k).2 (k + 1) (by omega), zero_m, ih]
    rfl
theorem po_out (xs : Nat → Nat) (i k : Nat) (h : k ≤ i) : po xs i k = pr xs k := by
  induction k with
  | zero => rfl
  | succ k ih =>
    show (if k = i then _ else _) = _
    rw [if_neg (by omega), ih (by omega)]
    rfl
theorem po_in (xs : Nat → Nat) (i k : Nat) (h : i < k) : pr xs k = lin (xs i) (po xs i k) := by
  induction k with
  | zero => omega
  | succ k ih =>
    show lin (xs k) (pr xs k) = lin (xs i) (if k = i then _ else _)
    by_cases e : k = i
    · subst e
      rw [if_pos rfl, po_out xs k k (Nat.le_refl _)]
    · rw [if_neg e, ih (by omega), lin_comm]
theorem po_pol (xs : Nat → Nat) (i k : Nat) : Pol (po xs i k) (pl i k) := by
  induction k with
  | zero => unfold pl; rw [if_neg (by omega)]; exact one_pol
  | succ k ih =>
    show Pol (if k = i then _ else _) _
    by_cases e : k = i
    · subst e
      rw [if_pos rfl]
      unfold pl at ih ⊢
      rw [if_neg (by omega)] at ih
      rw [if_pos (by omega)]
      exact ih
    · rw [if_neg e]
      have h := lin_pol (x := xs k) ih
      unfold pl at h ⊢
      by_cases h1 : i < k
      · rw [if_pos h1] at h; rw [if_pos (by omega)]; exact h
      · rw [if_neg h1] at h; rw [if_neg (by omega)]; exact h
/-- What the second is worth at its own place: the product of the places' sums. -/
def un (xs : Nat → Nat) (i : Nat) : Nat → Nat
  | 0 => 1
  | k + 1 => if k = i then un xs i k else m (un xs i k) (xs i ^^^ xs k)
theorem ps_one (x n : Nat) (h : 0 < n) : ps one x n = 1 := by
  rw [ps_more (f := one) (n := 1) (fun i hi => by unfold one; rw [if_neg (by omega)]) x n (by omega)]
  show 0 ^^^ m 1 1 = 1
  rw [m_one (by omega)]
  rfl
theorem ps_po (xs : Nat → Nat) (i k : Nat) : ps (po xs i k) (xs i) (pl i k) = un xs i k := by
  induction k with
  | zero => exact ps_one _ _ (by unfold pl; rw [if_neg (by omega)]; omega)
  | succ k ih =>
    show ps (if k = i then _ else _) _ _ = (if k = i then _ else _)
    by_cases e : k = i
    · subst e
      rw [if_pos rfl, if_pos rfl, ← ih, show pl k (k + 1) = pl k k by unfold pl; rw [if_pos (by omega), if_neg (by omega)]]
    · rw [if_neg e, if_neg e, ← ih, ← ps_lin' (po_pol xs i k)]
      congr 1
      unfold pl
      by_cases h1 : i < k
      · rw [if_pos h1, if_pos (by omega)]
      · rw [if_neg h1, if_neg (by omega)]
theorem un_lt (xs : Nat → Nat) (i k : Nat) : un xs i k < 256 := by
  induction k with
  | zero => unfold un; omega
  | succ k ih => unfold un; split; exact ih; exact m_lt _ _
theorem un_ne {xs : Nat → Nat} (hx : ∀ i, xs i < 256) {i k : Nat} (hd : ∀ j, j < k → j ≠ i → xs j ≠ xs i) : un xs i k ≠ 0 := by
  induction k with
  | zero => unfold un; omega
  | succ k ih =>
    unfold un
    split
    · exact ih (fun j hj => hd j (by omega))
    · rename_i e
      refine m_ne (un_lt _ _ _) (xor_lt (hx i) (hx k)) (ih (fun j hj => hd j (by omega))) (fun h => hd k (by omega) e (xor_eq h).symm)
theorem un_zero {xs : Nat → Nat} {i k j : Nat} (hj : j < k) (hji : j ≠ i) (he : xs j = xs i) : un xs i k = 0 := by
  induction k with
  | zero => omega
  | succ k ih =>
    unfold un
    by_cases e : j = k
    · subst e
      rw [if_neg hji, he, xor_self, m_zero]
    · rw [ih (by omega)]
      split
      · rfl
      · exact zero_m _
/-- At another place the second is 0. -/
theorem ps_po_zero (xs : Nat → Nat) (i k j : Nat) (hj : j < k) (hji : j ≠ i) : ps (po xs i k) (xs j) (pl i k) = 0 := by
  induction k with
  | zero => omega
  | succ k ih =>
    show ps (if k = i then _ else _) _ _ = 0
    by_cases e : k = i
    · subst e
      rw [if_pos rfl]
      have h := ih (by omega)
      unfold pl at h ⊢
      rw [if_neg (by omega)] at h
      rw [if_pos (by omega)]
      exact h
    · rw [if_neg e]
      have h : ps (lin (xs k) (po xs i k)) (xs j) (pl i (k + 1)) = m (ps (po xs i k) (xs j) (pl i k)) (xs j ^^^ xs k) := by
        rw [← ps_lin' (po_pol xs i k)]
        congr 1
        unfold pl
        by_cases h1 : i < k
        · rw [if_pos h1, if_pos (by omega)]
        · rw [if_neg h1, if_neg (by omega)]
      rw [h]
      by_cases e2 : j = k
      · subst e2; rw [xor_self, m_zero]
      · rw [ih (by omega), zero_m]
/-- The sum of the first 'k' of them, each scaled to the value wanted at its place; 'n' places in all. -/
def th (xs ys : Nat → Nat) (n : Nat) : Nat → Nat → Nat
  | 0, _ => 0
  | k + 1, i => th xs ys n k i ^^^ m (po xs k n i) (m (ys k) (Gf.inv (un xs k n)))
theorem th_pol (xs ys : Nat → Nat) (n k : Nat) (hk : k ≤ n) : Pol (th xs ys n k) n := by
  induction k with
  | zero => exact ⟨fun i => by unfold th; omega, fun i _ => rfl⟩
  | succ k ih =>
    have h := ih (by omega)
    have hp := po_pol xs k n
    unfold pl at hp
    rw [if_pos (by omega)] at hp
    exact ⟨fun i => xor_lt (h.1 i) (m_lt _ _), fun i hi => by show _ ^^^ m _ _ = 0; rw [h.2 i hi, hp.2 i hi, zero_m]; rfl⟩
theorem ps_zero (f : Nat → Nat) (hf : ∀ i, f i = 0) (x n : Nat) : ps f x n = 0 := by
  rw [ps_more (f := f) (n := 0) (fun i _ => hf i) x n (by omega)]
  rfl
theorem ps_th {xs ys : Nat → Nat} {n : Nat} (hx : ∀ i, xs i < 256) (hy : ∀ i, ys i < 256) (hd : ∀ i j, i < n → j < n → i ≠ j → xs i ≠ xs j) (k j : Nat) (hk : k ≤ n) (hj : j < n) :
    ps (th xs ys n k) (xs j) n = if j < k then ys j else 0 := by
  induction k with
  | zero => rw [if_neg (by omega)]; exact ps_zero _ (fun _ => rfl) _ _
  | succ k ih =>
    have e : th xs ys n (k + 1) = ad (th xs ys n k) (fun i => m (po xs k n i) (m (ys k) (Gf.inv (un xs k n)))) := rfl
    have hpl : pl k n = n := by unfold pl; rw [if_pos (by omega)]
    rw [e, ps_ad, ih (by omega), ps_scale]
    by_cases h1 : j = k
    · subst h1
      have h2 := ps_po xs j n
      rw [hpl] at h2
      rw [if_neg (by omega), if_pos (by omega), h2, m_left, m_inv (un_lt _ _ _) (un_ne hx (fun i hi hij => hd i j hi hj hij)), m_one (hy j), Nat.zero_xor]
    · have h2 := ps_po_zero xs k n j hj h1
      rw [hpl] at h2
      rw [h2, zero_m, Nat.xor_zero]
      by_cases h3 : j < k
      · rw [if_pos h3, if_pos (by omega)]
      · rw [if_neg h3, if_neg (by omega)]
/-- A polynomial of at most 'n' numbers that is 0 at 'n' places, no two alike, is 0. -/
theorem roots (n : Nat) : ∀ (d xs : Nat → Nat), Pol d n → (∀ i, xs i < 256) → (∀ i j, i < n → j < n → i ≠ j → xs i ≠ xs j) → (∀ i, i < n → ps d (xs i) n = 0) → ∀ i, d i = 0 := by
  induction n with
  | zero => intro d xs hp _ _ _ i; exact hp.2 i (by omega)
  | succ n ih =>
    intro d xs hp hx hd hr
    have hdef : d = lin (xs n) (fun k => hn d (xs n) (n - k) (k + 1)) := by
      funext i
      cases i with
      | zero =>
        have h := hr n (by omega)
        rw [← ev_ps hp.1] at h
        have h2 : m (hn d (xs n) n 1) (xs n) ^^^ d 0 = 0 := h
        exact (xor_eq h2).symm
      | succ i =>
        show d (i + 1) = m (hn d (xs n) (n - (i + 1)) (i + 2)) (xs n) ^^^ hn d (xs n) (n - i) (i + 1)
        by_cases h : i < n
        · rw [show n - i = (n - (i + 1)) + 1 by omega]
          show _ = _ ^^^ (m (hn d (xs n) (n - (i + 1)) (i + 2)) (xs n) ^^^ d (i + 1))
          rw [xor_can]
        · rw [show n - i = 0 by omega, show n - (i + 1) = 0 by omega]
          show d (i + 1) = m 0 _ ^^^ 0
          rw [zero_m, hp.2 (i + 1) (by omega)]
          rfl
    have hq : Pol (fun k => hn d (xs n) (n - k) (k + 1)) n := ⟨fun i => hn_lt hp.1 _ _ _, fun i hi => by show hn d (xs n) (n - i) (i + 1) = 0; rw [show n - i = 0 by omega]; rfl⟩
    generalize (fun k => hn d (xs n) (n - k) (k + 1)) = q at hdef hq
    subst hdef
    have hz := ih q xs hq hx (fun i j hi hj => hd i j (by omega) (by omega)) (fun i hi => by
      have h := hr i (by omega)
      rw [ps_lin' hq] at h
      by_cases h0 : ps q (xs i) n = 0
      · exact h0
      · refine absurd h (m_ne ?_ (xor_lt (hx i) (hx n)) h0 (fun h => hd i n (by omega) (by omega) (by omega) (xor_eq h)))
        rw [← ev_ps hq.1]
        exact hn_lt hq.1 _ _ _)
    intro i
    cases i with
    | zero => show m (q 0) _ = 0; rw [hz, zero_m]
    | succ i => show m (q (i + 1)) _ ^^^ q i = 0; rw [hz, hz, zero_m]; rfl
end Go.Proofs.Ytojklpahobmleaa.Gp
