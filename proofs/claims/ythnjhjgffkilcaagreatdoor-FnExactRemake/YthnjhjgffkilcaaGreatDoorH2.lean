/- The plain mathematics of the field of 256 numbers: products by doubling, by the tables of powers and logarithms, and that they are the same. No condition; nothing of Go's text is used. -/

namespace Go.Proofs.YthnjhjgffkilcaaGreatDoor.Gf

/-- The powers of two, eight bits each. -/
def expN : Nat := 70160881166704368827218703435136616750530459438269794890424969378298545675077208731798828898087927652446353395360628748027273188182808436399538186061104243134188885576122562338679313492324190829158544377810568631194580132524405266702234305646236648896994794467054525044798919765581988418950285252905306116225263236585714808161311289784028762024137133735135393922581566890382566480334369299400480864790538739986285574563168380416343369614948461817839620668187777978661530364712890858126432457562886306102556561631759900551331094983229723298224611133722330829711659991602983068895685602467964643306841827719562658305
/-- The logarithms, eight bits each. -/
def logN : Nat := 22135253156888987530748098150270024343632497605293634117281264061560962248099620766229961468867162294233796152347975563017024165690400661622462404646302566225833645086064538892198543335321514950294300187779610338557442029018619797274438901674641748676613670242915365385819254959901651105240253464034662486586186382979728982817772067067513442677601938078891989292316012868233806586592927239821351197800766822366321181463280924672822998103315976779850880337712374790938628529953751181886374687897611504386983350015558142994211516619836411558782076806704747441947939324473761869443721989389604670425385080942269787340800
def ex (i : Nat) : Nat := (expN >>> (8 * i)) % 256
def lg (a : Nat) : Nat := (logN >>> (8 * a)) % 256
def dbl (a : Nat) : Nat := if 255 < 2 * a then (2 * a) ^^^ 285 else 2 * a
/-- The product by doubling: 'k' rounds of the loop. -/
def pea : Nat → Nat → Nat → Nat → Nat
  | 0, _, _, x => x
  | k + 1, a, b, x => pea k (dbl a) (b / 2) (if b % 2 = 1 then x ^^^ a else x)
def mul (a b : Nat) : Nat := pea 8 a b 0
/-- The product by tables. -/
def tmul (a b : Nat) : Nat := if a = 0 ∨ b = 0 then 0 else ex ((lg a + lg b) % 255)
def gpow (a n : Nat) : Nat := if n = 0 then 1 else if a = 0 then 0 else ex ((lg a * n) % 255)
def inv (a : Nat) : Nat := ex ((255 - lg a) % 255)

def allB (n : Nat) (p : Nat → Bool) : Bool := (List.range n).all p
theorem allB_of {n : Nat} {p : Nat → Bool} (h : allB n p = true) {a : Nat} (ha : a < n) : p a = true :=
  List.all_eq_true.1 h a (List.mem_range.2 ha)

theorem c_mul : (allB 256 fun a => allB 256 fun b => mul a b == tmul a b) = true := by decide +kernel
theorem c_lg : (allB 256 fun a => a == 0 || (ex (lg a) == a && decide (lg a < 255))) = true := by decide +kernel
theorem c_ex : (allB 255 fun i => lg (ex i) == i && decide (ex i < 256) && ex i != 0) = true := by decide +kernel
theorem lg_one : lg 1 = 0 := by decide +kernel
theorem ex_zero : ex 0 = 1 := by decide +kernel

theorem mul_tab {a b : Nat} (ha : a < 256) (hb : b < 256) : mul a b = tmul a b := by
  have h := allB_of (allB_of c_mul ha) hb
  simpa using h
theorem ex_lg {a : Nat} (ha : a < 256) (h0 : a ≠ 0) : ex (lg a) = a := by
  have h := allB_of c_lg ha
  simp [h0] at h
  exact h.1
theorem lg_lt {a : Nat} (ha : a < 256) (h0 : a ≠ 0) : lg a < 255 := by
  have h := allB_of c_lg ha
  simp [h0] at h
  exact h.2
theorem lg_ex {i : Nat} (hi : i < 255) : lg (ex i) = i := by
  have h := allB_of c_ex hi
  simp at h
  exact h.1.1
theorem ex_lt (i : Nat) : ex i < 256 := by unfold ex; omega
theorem ex_ne {i : Nat} (hi : i < 255) : ex i ≠ 0 := by
  have h := allB_of c_ex hi
  simp at h
  exact h.2
theorem lg_lt' (a : Nat) : lg a < 256 := by unfold lg; omega

theorem mul_lt {a b : Nat} (ha : a < 256) (hb : b < 256) : mul a b < 256 := by
  rw [mul_tab ha hb]; unfold tmul
  split
  · omega
  · exact ex_lt _
theorem mul_nz {a b : Nat} (ha : a < 256) (hb : b < 256) (a0 : a ≠ 0) (b0 : b ≠ 0) : mul a b = ex ((lg a + lg b) % 255) := by
  rw [mul_tab ha hb]; unfold tmul; simp [a0, b0]
theorem zero_mul {b : Nat} (hb : b < 256) : mul 0 b = 0 := by rw [mul_tab (by omega) hb]; simp [tmul]
theorem mul_zero {a : Nat} (ha : a < 256) : mul a 0 = 0 := by rw [mul_tab ha (by omega)]; simp [tmul]
theorem mul_ne {a b : Nat} (ha : a < 256) (hb : b < 256) (a0 : a ≠ 0) (b0 : b ≠ 0) : mul a b ≠ 0 := by
  rw [mul_nz ha hb a0 b0]; exact ex_ne (by omega)
theorem lg_mul {a b : Nat} (ha : a < 256) (hb : b < 256) (a0 : a ≠ 0) (b0 : b ≠ 0) : lg (mul a b) = (lg a + lg b) % 255 := by
  rw [mul_nz ha hb a0 b0]; exact lg_ex (by omega)
theorem mul_comm {a b : Nat} (ha : a < 256) (hb : b < 256) : mul a b = mul b a := by
  rw [mul_tab ha hb, mul_tab hb ha]; unfold tmul
  rw [Nat.add_comm (lg a) (lg b)]
  by_cases a0 : a = 0 <;> by_cases b0 : b = 0 <;> simp [a0, b0]
theorem mul_assoc {a b c : Nat} (ha : a < 256) (hb : b < 256) (hc : c < 256) : mul (mul a b) c = mul a (mul b c) := by
  by_cases a0 : a = 0
  · subst a0; rw [zero_mul hb, zero_mul hc, zero_mul (mul_lt hb hc)]
  · by_cases b0 : b = 0
    · subst b0; rw [mul_zero ha, zero_mul hc, mul_zero ha]
    · by_cases c0 : c = 0
      · subst c0; rw [mul_zero (mul_lt ha hb), mul_zero hb, mul_zero ha]
      · rw [mul_nz (mul_lt ha hb) hc (mul_ne ha hb a0 b0) c0, mul_nz ha (mul_lt hb hc) a0 (mul_ne hb hc b0 c0), lg_mul ha hb a0 b0, lg_mul hb hc b0 c0]
        congr 1
        omega
theorem mul_one {a : Nat} (ha : a < 256) : mul a 1 = a := by
  by_cases a0 : a = 0
  · subst a0; exact zero_mul (by omega)
  · have := lg_lt ha a0
    rw [mul_nz ha (by omega) a0 (by omega), lg_one, Nat.add_zero, Nat.mod_eq_of_lt this, ex_lg ha a0]
theorem one_mul {a : Nat} (ha : a < 256) : mul 1 a = a := by rw [mul_comm (by omega) ha, mul_one ha]

theorem xor_mod2 (b c : Nat) : (b ^^^ c) % 2 = (b % 2 + c % 2) % 2 := by
  have h := Nat.xor_mod_two_pow (a := b) (b := c) (n := 1)
  simp at h
  rw [h]
  rcases Nat.mod_two_eq_zero_or_one b with hb | hb <;> rcases Nat.mod_two_eq_zero_or_one c with hc | hc <;> simp [hb, hc]
theorem xor_div2 (b c : Nat) : (b ^^^ c) / 2 = b / 2 ^^^ c / 2 := by
  have h := Nat.xor_div_two_pow (a := b) (b := c) (n := 1)
  simpa using h
theorem xor4 (x y a : Nat) : (x ^^^ a) ^^^ (y ^^^ a) = x ^^^ y := by
  rw [Nat.xor_comm y a, ← Nat.xor_assoc, Nat.xor_assoc x a a, Nat.xor_self, Nat.xor_zero]
theorem xor3 (x y a : Nat) : (x ^^^ a) ^^^ y = (x ^^^ y) ^^^ a := by
  rw [Nat.xor_assoc, Nat.xor_comm a y, ← Nat.xor_assoc]
theorem pea_xor (k : Nat) : ∀ a b c x y, pea k a (b ^^^ c) (x ^^^ y) = pea k a b x ^^^ pea k a c y := by
  induction k with
  | zero => intro a b c x y; rfl
  | succ k ih =>
    intro a b c x y
    simp only [pea]
    rw [xor_div2, ← ih]
    congr 1
    rw [xor_mod2]
    rcases Nat.mod_two_eq_zero_or_one b with hb | hb <;> rcases Nat.mod_two_eq_zero_or_one c with hc | hc <;> simp [hb, hc]
    · rw [Nat.xor_assoc]
    · rw [xor3]
    · rw [xor4]
theorem mul_xor (a b c : Nat) : mul a (b ^^^ c) = mul a b ^^^ mul a c := by
  unfold mul
  have := pea_xor 8 a b c 0 0
  simpa using this
theorem xor_lt {a b : Nat} (ha : a < 256) (hb : b < 256) : a ^^^ b < 256 := Nat.xor_lt_two_pow (n := 8) ha hb

theorem dbl_lt {a : Nat} (ha : a < 256) : dbl a < 256 := by
  have h : (allB 256 fun a => decide (dbl a < 256)) = true := by decide +kernel
  simpa using allB_of h ha

/-- Eight rounds are enough: with nothing left, no round turns anything. -/
theorem pea_zero (k a x : Nat) : pea k a 0 x = x := by
  induction k generalizing a x with
  | zero => rfl
  | succ k ih => simp [pea, ih]

theorem inv_lt (a : Nat) : inv a < 256 := ex_lt _
theorem inv_ne (a : Nat) : inv a ≠ 0 := ex_ne (by omega)
theorem mul_inv {a : Nat} (ha : a < 256) (a0 : a ≠ 0) : mul a (inv a) = 1 := by
  have h1 := lg_lt ha a0
  rw [mul_nz ha (inv_lt a) a0 (inv_ne a)]
  unfold inv
  rw [lg_ex (by omega), show (lg a + (255 - lg a) % 255) % 255 = 0 by omega, ex_zero]

theorem gpow_lt (a n : Nat) : gpow a n < 256 := by
  unfold gpow; split
  · omega
  · split
    · omega
    · exact ex_lt _
/-- One round of the loop of powers. -/
theorem gpow_round {a x n : Nat} (ha : a < 256) (hx : x < 256) (hn : 0 < n) :
    mul (if n % 2 = 1 then mul x a else x) (gpow (mul a a) (n / 2)) = mul x (gpow a n) := by
  have key : mul (if n % 2 = 1 then a else 1) (gpow (mul a a) (n / 2)) = gpow a n := by
    unfold gpow
    by_cases a0 : a = 0
    · subst a0
      rw [zero_mul (by omega)]
      by_cases h1 : n / 2 = 0
      · have : n = 1 := by omega
        subst this
        simp [zero_mul]
      · simp [h1, show n ≠ 0 by omega]
        split
        · exact zero_mul (by omega)
        · exact mul_zero (by omega)
    · have hm := mul_ne ha ha a0 a0
      simp only [hm, a0, if_false, show n ≠ 0 by omega]
      have h1 := lg_lt ha a0
      by_cases h2 : n / 2 = 0
      · have : n = 1 := by omega
        subst this
        simp [mul_one ha, Nat.mod_eq_of_lt h1, ex_lg ha a0]
      · rw [if_neg h2, lg_mul ha ha a0 a0]
        have e1 : ((lg a + lg a) % 255 * (n / 2)) % 255 = (lg a * (2 * (n / 2))) % 255 := by
          rw [Nat.mod_mul_mod, ← Nat.two_mul, Nat.mul_assoc, Nat.mul_left_comm]
        rw [e1]
        by_cases h3 : n % 2 = 1
        · rw [if_pos h3, mul_nz ha (ex_lt _) a0 (ex_ne (by omega)), lg_ex (by omega)]
          congr 1
          rw [Nat.add_mod_mod, show lg a + lg a * (2 * (n / 2)) = lg a * n by
            have : n = 2 * (n / 2) + 1 := by omega
            rw [show lg a * n = lg a * (2 * (n / 2) + 1) by rw [← this], Nat.mul_add, Nat.mul_one, Nat.add_comm]]
        · rw [if_neg h3, one_mul (ex_lt _), show 2 * (n / 2) = n by omega]
  by_cases h3 : n % 2 = 1
  · rw [if_pos h3] at key ⊢
    rw [mul_assoc hx ha (gpow_lt _ _), key]
  · rw [if_neg h3] at key ⊢
    rw [one_mul (gpow_lt _ _)] at key
    rw [key]
theorem gpow_zero (a : Nat) : gpow a 0 = 1 := rfl
theorem gpow_inv {a : Nat} (ha : a < 256) (a0 : a ≠ 0) : gpow a 254 = inv a := by
  have h1 := lg_lt ha a0
  unfold gpow inv
  simp only [a0, if_false, show (254 : Nat) ≠ 0 by omega]
  congr 1
  omega
end Go.Proofs.YthnjhjgffkilcaaGreatDoor.Gf
/- The plain mathematics of polynomials over the field of 256 numbers: products, values, division, the polynomial through places. A polynomial is the row of its numbers, a function from places to numbers. Nothing of Go's text is used; conditions stand at each theorem. -/
namespace Go.Proofs.YthnjhjgffkilcaaGreatDoor.Gp

/-- The product, at every two numbers. -/
def m (a b : Nat) : Nat := Gf.mul (a % 256) (b % 256)
theorem m_lt (a b : Nat) : m a b < 256 := Gf.mul_lt (by omega) (by omega)
theorem m_mod (a b : Nat) : m a b % 256 = m a b := Nat.mod_eq_of_lt (m_lt a b)
theorem m_comm (a b : Nat) : m a b = m b a := Gf.mul_comm (by omega) (by omega)
theorem m_assoc (a b c : Nat) : m (m a b) c = m a (m b c) := by
  show Gf.mul (m a b % 256) _ = Gf.mul _ (m b c % 256)
  rw [m_mod, m_mod]
  exact Gf.mul_assoc (by omega) (by omega) (by omega)
theorem m_left (a b c : Nat) : m a (m b c) = m b (m a c) := by rw [← m_assoc, m_comm a b, m_assoc]
theorem xor_mod (b c : Nat) : (b ^^^ c) % 256 = (b % 256) ^^^ (c % 256) := Nat.xor_mod_two_pow (n := 8)
theorem m_xor (a b c : Nat) : m a (b ^^^ c) = m a b ^^^ m a c := by
  unfold m
  rw [xor_mod, Gf.mul_xor]
theorem xor_m (a b c : Nat) : m (b ^^^ c) a = m b a ^^^ m c a := by rw [m_comm, m_xor, m_comm a b, m_comm a c]
theorem m_zero (a : Nat) : m a 0 = 0 := Gf.mul_zero (by omega)
theorem zero_m (a : Nat) : m 0 a = 0 := Gf.zero_mul (by omega)
theorem m_one {a : Nat} (h : a < 256) : m a 1 = a := by
  unfold m
  rw [Nat.mod_eq_of_lt h]
  exact Gf.mul_one h
theorem one_m {a : Nat} (h : a < 256) : m 1 a = a := by rw [m_comm, m_one h]
theorem m_nat {a b : Nat} (ha : a < 256) (hb : b < 256) : Gf.mul a b = m a b := by unfold m; rw [Nat.mod_eq_of_lt ha, Nat.mod_eq_of_lt hb]
theorem m_inv {a : Nat} (ha : a < 256) (a0 : a ≠ 0) : m a (Gf.inv a) = 1 := by rw [← m_nat ha (Gf.inv_lt a), Gf.mul_inv ha a0]
theorem m_ne {a b : Nat} (ha : a < 256) (hb : b < 256) (a0 : a ≠ 0) (b0 : b ≠ 0) : m a b ≠ 0 := by rw [← m_nat ha hb]; exact Gf.mul_ne ha hb a0 b0
theorem xor_self (a : Nat) : a ^^^ a = 0 := Nat.xor_self a
theorem xor_left (a b c : Nat) : a ^^^ (b ^^^ c) = b ^^^ (a ^^^ c) := by rw [← Nat.xor_assoc, Nat.xor_comm a b, Nat.xor_assoc]
theorem xor_can (a b : Nat) : a ^^^ (a ^^^ b) = b := by rw [← Nat.xor_assoc, Nat.xor_self, Nat.zero_xor]
theorem xor_eq {a b : Nat} (h : a ^^^ b = 0) : a = b := by
  have h2 : a ^^^ (a ^^^ b) = a ^^^ 0 := by rw [h]
  rw [xor_can, Nat.xor_zero] at h2
  exact h2.symm
theorem xor_lt {a b : Nat} (ha : a < 256) (hb : b < 256) : a ^^^ b < 256 := Gf.xor_lt ha hb

/-- All its numbers are byte numbers, and none but 0 stands from 'n' on. -/
def Pol (f : Nat → Nat) (n : Nat) : Prop := (∀ i, f i < 256) ∧ ∀ i, n ≤ i → f i = 0
theorem Pol.more {f : Nat → Nat} {n k : Nat} (h : Pol f n) (hk : n ≤ k) : Pol f k := ⟨h.1, fun i hi => h.2 i (Nat.le_trans hk hi)⟩

/-- The length without the noughts at the end. -/
def tl (f : Nat → Nat) : Nat → Nat
  | 0 => 0
  | n + 1 => if f n = 0 then tl f n else n + 1
theorem tl_zero (f : Nat → Nat) (n : Nat) : ∀ i, tl f n ≤ i → i < n → f i = 0 := by
  induction n with
  | zero => intro i _ h; omega
  | succ n ih =>
    intro i h1 h2
    unfold tl at h1
    split at h1
    · by_cases e : i = n
      · subst e; assumption
      · exact ih i h1 (by omega)
    · omega
theorem Pol.tl {f : Nat → Nat} {n : Nat} (h : Pol f n) : Pol f (tl f n) :=
  ⟨h.1, fun i hi => by
    by_cases e : i < n
    · exact tl_zero f n i hi e
    · exact h.2 i (by omega)⟩
/-! ### Sums and products -/
def ad (f g : Nat → Nat) (i : Nat) : Nat := f i ^^^ g i
def sh (k : Nat) (b : Nat → Nat) (i : Nat) : Nat := if k ≤ i then b (i - k) else 0
/-- The first 'k' rows of the product. -/
def cv (a b : Nat → Nat) : Nat → Nat → Nat
  | 0, _ => 0
  | k + 1, i => cv a b k i ^^^ m (sh k b i) (a k)
/-- A product by nothing but 1. -/
def one (i : Nat) : Nat := if i = 0 then 1 else 0
theorem one_pol : Pol one 1 := ⟨fun i => by unfold one; split <;> omega, fun i hi => by unfold one; rw [if_neg (by omega)]⟩
/-! ### Values -/
/-- The value of the numbers from place 'k' on, 'r' of them. -/
def hn (p : Nat → Nat) (x : Nat) : Nat → Nat → Nat
  | 0, _ => 0
  | r + 1, k => m (hn p x r (k + 1)) x ^^^ p k
def ev (p : Nat → Nat) (x n : Nat) : Nat := hn p x n 0
theorem hn_lt {p : Nat → Nat} (hp : ∀ i, p i < 256) (x r k : Nat) : hn p x r k < 256 := by
  cases r with
  | zero => unfold hn; omega
  | succ r => unfold hn; exact xor_lt (m_lt _ _) (hp k)
def pw (x : Nat) : Nat → Nat
  | 0 => 1
  | n + 1 => m (pw x n) x
def ps (p : Nat → Nat) (x : Nat) : Nat → Nat
  | 0 => 0
  | n + 1 => ps p x n ^^^ m (p n) (pw x n)
theorem hn_s (p : Nat → Nat) (x r k : Nat) : hn p x (r + 1) k = m (hn p x r (k + 1)) x ^^^ p k := rfl
theorem pw_s (x n : Nat) : pw x (n + 1) = m (pw x n) x := rfl
theorem ps_0 (p : Nat → Nat) (x : Nat) : ps p x 0 = 0 := rfl
theorem ps_s (p : Nat → Nat) (x n : Nat) : ps p x (n + 1) = ps p x n ^^^ m (p n) (pw x n) := rfl
theorem hn_ps (p : Nat → Nat) (x r k : Nat) : ps p x k ^^^ m (hn p x r k) (pw x k) = ps p x (k + r) := by
  induction r generalizing k with
  | zero => unfold hn; rw [zero_m, Nat.xor_zero]; rfl
  | succ r ih =>
    have h := ih (k + 1)
    rw [show k + (r + 1) = k + 1 + r by omega, ← h, hn_s, ps_s, pw_s, xor_m, m_assoc, m_comm x (pw x k), Nat.xor_assoc, Nat.xor_comm (m (p k) (pw x k))]
theorem ev_ps {p : Nat → Nat} (hp : ∀ i, p i < 256) (x n : Nat) : ev p x n = ps p x n := by
  have h := hn_ps p x n 0
  rw [Nat.zero_add] at h
  rw [← h]
  show _ = 0 ^^^ m _ 1
  rw [Nat.zero_xor, m_one (hn_lt hp _ _ _)]
  rfl
theorem ps_ad (f g : Nat → Nat) (x n : Nat) : ps (ad f g) x n = ps f x n ^^^ ps g x n := by
  induction n with
  | zero => rw [ps_0, ps_0, ps_0, xor_self]
  | succ n ih =>
    rw [ps_s, ps_s, ps_s, ih, show ad f g n = f n ^^^ g n from rfl, xor_m]
    simp only [Nat.xor_assoc, xor_left]
theorem ps_scale (f : Nat → Nat) (c x n : Nat) : ps (fun i => m (f i) c) x n = m (ps f x n) c := by
  induction n with
  | zero => rw [ps_0, ps_0, zero_m]
  | succ n ih => rw [ps_s, ps_s, ih, xor_m, m_assoc, m_assoc, m_comm c]
theorem ps_more {f : Nat → Nat} {n : Nat} (hf : ∀ i, n ≤ i → f i = 0) (x k : Nat) (hk : n ≤ k) : ps f x k = ps f x n := by
  induction k with
  | zero => rw [show n = 0 by omega]
  | succ k ih =>
    by_cases e : n = k + 1
    · rw [e]
    · rw [ps_s, hf k (by omega), zero_m, Nat.xor_zero, ih (by omega)]
/-! ### Division -/
section
variable (a b : Nat → Nat) (lead nb T : Nat)
end

/-! ### The polynomial through places -/
/-- The polynomial of two numbers that is 0 at 'x'. -/
def l2 (x : Nat) (i : Nat) : Nat := if i = 0 then x else if i = 1 then 1 else 0
def lin (x : Nat) (p : Nat → Nat) : Nat → Nat
  | 0 => m (p 0) x
  | i + 1 => m (p (i + 1)) x ^^^ p i
theorem lin_pol {x : Nat} {p : Nat → Nat} {n : Nat} (hp : Pol p n) : Pol (lin x p) (n + 1) :=
  ⟨fun i => by cases i with
    | zero => exact m_lt _ _
    | succ i => exact xor_lt (m_lt _ _) (hp.1 i),
  fun i hi => by cases i with
    | zero => omega
    | succ i => show m _ _ ^^^ _ = 0; rw [hp.2 (i + 1) (by omega), hp.2 i (by omega), zero_m]; rfl⟩
theorem lin_comm (x y : Nat) (p : Nat → Nat) : lin x (lin y p) = lin y (lin x p) := by
  funext i
  match i with
  | 0 => show m (m _ _) _ = m (m _ _) _; rw [m_assoc, m_assoc, m_comm y]
  | 1 =>
    show m (m (p 1) y ^^^ p 0) x ^^^ m (p 0) y = m (m (p 1) x ^^^ p 0) y ^^^ m (p 0) x
    rw [xor_m, xor_m, m_assoc, m_assoc, m_comm y x, Nat.xor_assoc, Nat.xor_assoc, Nat.xor_comm (m (p 0) x)]
  | i + 2 =>
    show m (m (p (i + 2)) y ^^^ p (i + 1)) x ^^^ (m (p (i + 1)) y ^^^ p i) = m (m (p (i + 2)) x ^^^ p (i + 1)) y ^^^ (m (p (i + 1)) x ^^^ p i)
    rw [xor_m, xor_m, m_assoc, m_assoc, m_comm y x, Nat.xor_assoc, Nat.xor_assoc, xor_left (m (p (i + 1)) x)]
/-- The value of a product by the polynomial that is 0 at 'x'. -/
theorem ps_lin (x y : Nat) (p : Nat → Nat) (n : Nat) : ps (lin x p) y (n + 1) = m (ps p y (n + 1)) x ^^^ m (ps p y n) y := by
  induction n with
  | zero =>
    show (0 ^^^ m (m (p 0) x) 1) = m (0 ^^^ m (p 0) 1) x ^^^ m 0 y
    rw [zero_m, Nat.zero_xor, Nat.zero_xor, Nat.xor_zero, m_assoc, m_assoc, m_comm x 1]
  | succ n ih =>
    show ps (lin x p) y (n + 1) ^^^ m (m (p (n + 1)) x ^^^ p n) (pw y (n + 1)) = m (ps p y (n + 1) ^^^ m (p (n + 1)) (pw y (n + 1))) x ^^^ m (ps p y n ^^^ m (p n) (pw y n)) y
    rw [ih, xor_m, xor_m, xor_m]
    have e1 : m (m (p (n + 1)) (pw y (n + 1))) x = m (m (p (n + 1)) x) (pw y (n + 1)) := by rw [m_assoc, m_assoc, m_comm x]
    have e2 : m (m (p n) (pw y n)) y = m (p n) (pw y (n + 1)) := by rw [m_assoc]; rfl
    rw [e1, e2]
    simp only [Nat.xor_assoc, xor_left]
theorem ps_lin' {x y : Nat} {p : Nat → Nat} {n : Nat} (hp : Pol p n) : ps (lin x p) y (n + 1) = m (ps p y n) (y ^^^ x) := by
  rw [ps_lin, ps_more hp.2 y (n + 1) (by omega), m_xor, Nat.xor_comm]
/-- The product over the first 'k' places, and over them without place 'i'. -/
def pr (xs : Nat → Nat) : Nat → Nat → Nat
  | 0 => one
  | k + 1 => lin (xs k) (pr xs k)
def po (xs : Nat → Nat) (i : Nat) : Nat → Nat → Nat
  | 0 => one
  | k + 1 => if k = i then po xs i k else lin (xs k) (po xs i k)
/-- The length of the second. -/
def pl (i k : Nat) : Nat := if i < k then k else k + 1
theorem po_out (xs : Nat → Nat) (i k : Nat) (h : k ≤ i) : po xs i k = pr xs k := by
  induction k with
  | zero => rfl
  | succ k ih =>
    show (if k = i then _ else _) = _
    rw [if_neg (by omega), ih (by omega)]
    rfl
theorem po_in (xs : Nat → Nat) (i k : Nat) (h : i < k) : pr xs k = lin (xs i) (po xs i k) := by
  induction k with
  | zero => omega
  | succ k ih =>
    show lin (xs k) (pr xs k) = lin (xs i) (if k = i then _ else _)
    by_cases e : k = i
    · subst e
      rw [if_pos rfl, po_out xs k k (Nat.le_refl _)]
    · rw [if_neg e, ih (by omega), lin_comm]
theorem po_pol (xs : Nat → Nat) (i k : Nat) : Pol (po xs i k) (pl i k) := by
  induction k with
  | zero => unfold pl; rw [if_neg (by omega)]; exact one_pol
  | succ k ih =>
    show Pol (if k = i then _ else _) _
    by_cases e : k = i
    · subst e
      rw [if_pos rfl]
      unfold pl at ih ⊢
      rw [if_neg (by omega)] at ih
      rw [if_pos (by omega)]
      exact ih
    · rw [if_neg e]
      have h := lin_pol (x := xs k) ih
      unfold pl at h ⊢
      by_cases h1 : i < k
      · rw [if_pos h1] at h; rw [if_pos (by omega)]; exact h
      · rw [if_neg h1] at h; rw [if_neg (by omega)]; exact h
/-- What the second is worth at its own place: the product of the places' sums. -/
def un (xs : Nat → Nat) (i : Nat) : Nat → Nat
  | 0 => 1
  | k + 1 => if k = i then un xs i k else m (un xs i k) (xs i ^^^ xs k)
theorem ps_one (x n : Nat) (h : 0 < n) : ps one x n = 1 := by
  rw [ps_more (f := one) (n := 1) (fun i hi => by unfold one; rw [if_neg (by omega)]) x n (by omega)]
  show 0 ^^^ m 1 1 = 1
  rw [m_one (by omega)]
  rfl
theorem ps_po (xs : Nat → Nat) (i k : Nat) : ps (po xs i k) (xs i) (pl i k) = un xs i k := by
  induction k with
  | zero => exact ps_one _ _ (by unfold pl; rw [if_neg (by omega)]; omega)
  | succ k ih =>
    show ps (if k = i then _ else _) _ _ = (if k = i then _ else _)
    by_cases e : k = i
    · subst e
      rw [if_pos rfl, if_pos rfl, ← ih, show pl k (k + 1) = pl k k by unfold pl; rw [if_pos (by omega), if_neg (by omega)]]
    · rw [if_neg e, if_neg e, ← ih, ← ps_lin' (po_pol xs i k)]
      congr 1
      unfold pl
      by_cases h1 : i < k
      · rw [if_pos h1, if_pos (by omega)]
      · rw [if_neg h1, if_neg (by omega)]
theorem un_lt (xs : Nat → Nat) (i k : Nat) : un xs i k < 256 := by
  induction k with
  | zero => unfold un; omega
  | succ k ih => unfold un; split; exact ih; exact m_lt _ _
theorem un_ne {xs : Nat → Nat} (hx : ∀ i, xs i < 256) {i k : Nat} (hd : ∀ j, j < k → j ≠ i → xs j ≠ xs i) : un xs i k ≠ 0 := by
  induction k with
  | zero => unfold un; omega
  | succ k ih =>
    unfold un
    split
    · exact ih (fun j hj => hd j (by omega))
    · rename_i e
      refine m_ne (un_lt _ _ _) (xor_lt (hx i) (hx k)) (ih (fun j hj => hd j (by omega))) (fun h => hd k (by omega) e (xor_eq h).symm)
/-- At another place the second is 0. -/
theorem ps_po_zero (xs : Nat → Nat) (i k j : Nat) (hj : j < k) (hji : j ≠ i) : ps (po xs i k) (xs j) (pl i k) = 0 := by
  induction k with
  | zero => omega
  | succ k ih =>
    show ps (if k = i then _ else _) _ _ = 0
    by_cases e : k = i
    · subst e
      rw [if_pos rfl]
      have h := ih (by omega)
      unfold pl at h ⊢
      rw [if_neg (by omega)] at h
      rw [if_pos (by omega)]
      exact h
    · rw [if_neg e]
      have h : ps (lin (xs k) (po xs i k)) (xs j) (pl i (k + 1)) = m (ps (po xs i k) (xs j) (pl i k)) (xs j ^^^ xs k) := by
        rw [← ps_lin' (po_pol xs i k)]
        congr 1
        unfold pl
        by_cases h1 : i < k
        · rw [if_pos h1, if_pos (by omega)]
        · rw [if_neg h1, if_neg (by omega)]
      rw [h]
      by_cases e2 : j = k
      · subst e2; rw [xor_self, m_zero]
      · rw [ih (by omega), zero_m]
/-- The sum of the first 'k' of them, each scaled to the value wanted at its place; 'n' places in all. -/
def th (xs ys : Nat → Nat) (n : Nat) : Nat → Nat → Nat
  | 0, _ => 0
  | k + 1, i => th xs ys n k i ^^^ m (po xs k n i) (m (ys k) (Gf.inv (un xs k n)))
theorem th_pol (xs ys : Nat → Nat) (n k : Nat) (hk : k ≤ n) : Pol (th xs ys n k) n := by
  induction k with
  | zero => exact ⟨fun i => by unfold th; omega, fun i _ => rfl⟩
  | succ k ih =>
    have h := ih (by omega)
    have hp := po_pol xs k n
    unfold pl at hp
    rw [if_pos (by omega)] at hp
    exact ⟨fun i => xor_lt (h.1 i) (m_lt _ _), fun i hi => by show _ ^^^ m _ _ = 0; rw [h.2 i hi, hp.2 i hi, zero_m]; rfl⟩
theorem ps_zero (f : Nat → Nat) (hf : ∀ i, f i = 0) (x n : Nat) : ps f x n = 0 := by
  rw [ps_more (f := f) (n := 0) (fun i _ => hf i) x n (by omega)]
  rfl
theorem ps_th {xs ys : Nat → Nat} {n : Nat} (hx : ∀ i, xs i < 256) (hy : ∀ i, ys i < 256) (hd : ∀ i j, i < n → j < n → i ≠ j → xs i ≠ xs j) (k j : Nat) (hk : k ≤ n) (hj : j < n) :
    ps (th xs ys n k) (xs j) n = if j < k then ys j else 0 := by
  induction k with
  | zero => rw [if_neg (by omega)]; exact ps_zero _ (fun _ => rfl) _ _
  | succ k ih =>
    have e : th xs ys n (k + 1) = ad (th xs ys n k) (fun i => m (po xs k n i) (m (ys k) (Gf.inv (un xs k n)))) := rfl
    have hpl : pl k n = n := by unfold pl; rw [if_pos (by omega)]
    rw [e, ps_ad, ih (by omega), ps_scale]
    by_cases h1 : j = k
    · subst h1
      have h2 := ps_po xs j n
      rw [hpl] at h2
      rw [if_neg (by omega), if_pos (by omega), h2, m_left, m_inv (un_lt _ _ _) (un_ne hx (fun i hi hij => hd i j hi hj hij)), m_one (hy j), Nat.zero_xor]
    · have h2 := ps_po_zero xs k n j hj h1
      rw [hpl] at h2
      rw [h2, zero_m, Nat.xor_zero]
      by_cases h3 : j < k
      · rw [if_pos h3, if_pos (by omega)]
      · rw [if_neg h3, if_neg (by omega)]
/-- A polynomial of at most 'n' numbers that is 0 at 'n' places, no two alike, is 0. -/
theorem roots (n : Nat) : ∀ (d xs : Nat → Nat), Pol d n → (∀ i, xs i < 256) → (∀ i j, i < n → j < n → i ≠ j → xs i ≠ xs j) → (∀ i, i < n → ps d (xs i) n = 0) → ∀ i, d i = 0 := by
  induction n with
  | zero => intro d xs hp _ _ _ i; exact hp.2 i (by omega)
  | succ n ih =>
    intro d xs hp hx hd hr
    have hdef : d = lin (xs n) (fun k => hn d (xs n) (n - k) (k + 1)) := by
      funext i
      cases i with
      | zero =>
        have h := hr n (by omega)
        rw [← ev_ps hp.1] at h
        have h2 : m (hn d (xs n) n 1) (xs n) ^^^ d 0 = 0 := h
        exact (xor_eq h2).symm
      | succ i =>
        show d (i + 1) = m (hn d (xs n) (n - (i + 1)) (i + 2)) (xs n) ^^^ hn d (xs n) (n - i) (i + 1)
        by_cases h : i < n
        · rw [show n - i = (n - (i + 1)) + 1 by omega]
          show _ = _ ^^^ (m (hn d (xs n) (n - (i + 1)) (i + 2)) (xs n) ^^^ d (i + 1))
          rw [xor_can]
        · rw [show n - i = 0 by omega, show n - (i + 1) = 0 by omega]
          show d (i + 1) = m 0 _ ^^^ 0
          rw [zero_m, hp.2 (i + 1) (by omega)]
          rfl
    have hq : Pol (fun k => hn d (xs n) (n - k) (k + 1)) n := ⟨fun i => hn_lt hp.1 _ _ _, fun i hi => by show hn d (xs n) (n - i) (i + 1) = 0; rw [show n - i = 0 by omega]; rfl⟩
    generalize (fun k => hn d (xs n) (n - k) (k + 1)) = q at hdef hq
    subst hdef
    have hz := ih q xs hq hx (fun i j hi hj => hd i j (by omega) (by omega)) (fun i hi => by
      have h := hr i (by omega)
      rw [ps_lin' hq] at h
      by_cases h0 : ps q (xs i) n = 0
      · exact h0
      · refine absurd h (m_ne ?_ (xor_lt (hx i) (hx n)) h0 (fun h => hd i n (by omega) (by omega) (by omega) (xor_eq h)))
        rw [← ev_ps hq.1]
        exact hn_lt hq.1 _ _ _)
    intro i
    cases i with
    | zero => show m (q 0) _ = 0; rw [hz, zero_m]
    | succ i => show m (q (i + 1)) _ ^^^ q i = 0; rw [hz, hz, zero_m]; rfl
end Go.Proofs.YthnjhjgffkilcaaGreatDoor.Gp
