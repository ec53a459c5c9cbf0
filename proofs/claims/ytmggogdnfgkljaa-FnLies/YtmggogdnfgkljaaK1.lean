/- A law of the walk over any program: an array literal built, a new variable made for it and filled (three operations) is one new block that holds the literal's cells. No condition but that the three are these operations. -/
import Derived.WalkKit
import Derived.ProofKit
import Derived.Laws.Tables
import Derived.Laws.Rows
import Derived.Great.BuildSlice
import Derived.Test.YtmggogdnfgkljaaChecked
import Derived.Outline
import Derived.WalkSpells
import Derived.WalkLawsBesides
import Derived.Laws.BitsAllLaws
import Derived.Test.YtmggogdnfgkljaaRows
import Derived.OpenShut
import Derived.ShutString
import Derived.ChangeOld
import Derived.Below
import Derived.Laws.OwnMore
import Derived.OwnWalk
import Derived.Deep.QuietTactic
import Derived.BigQuiet
import Derived.Deep.RegionHeld3
import Derived.Deep.AppendLies
namespace Go.Proofs.Ytmggogdnfgkljaa

theorem setRow_alloc (w : World) (zs cells : Array Value) (t : TypeId) : (w.alloc (.cells zs t)).setRow w.heap.size cells = w.alloc (.cells cells t) := by
  unfold World.setRow World.alloc
  congr 1
  apply Array.ext
  · simp
  · intro i h1 h2
    simp only [Array.getElem_modify, Array.getElem_push]
    split
    · rename_i h
      subst h
      simp
    · rename_i h
      have : i < w.heap.size := by simp at h2; omega
      simp [this]

theorem wpList_table {P : Program} {ops : Array Oper} {rest : List Oper} {o1 o2 o3 : Oper} {a : Act} {w : World} {Q : Exit → Act → World → Prop}
    (g1 : o1.guard = none) (g2 : o2.guard = none) (g3 : o3.guard = none) (t e : TypeId) (n : Nat) (parts : Array (Nat × Operand)) (x y : Operand) (k : IntKind) (zs : List Int)
    (h1 : o1.op = .build t parts) (h2 : o2.op = .alloc t) (h3 : o3.op = .store t x y)
    (hu : P.underlying t = some (.array n e)) (hsz : (P.info? e).map (·.size) = some 1) (hz : ((P.info? t).bind (·.zero)).map (·.cells.size) = some zs.length)
    (hparts : parts.toList = (zs.zipIdx 0).map fun x => (x.2, Operand.const (Value.int k x.1)))
    (hi : (P.info? t).map (·.size) = some zs.length)
    (d1 d2 : Tmp) (e1 : o1.dst = some d1) (e2 : o2.dst = some d2) (e3 : o3.dst = none) (hx : x = .tmp d2) (hy : y = .tmp d1) (hd : d1 ≠ d2) (b1 : d1 < a.tmps.size) (b2 : d2 < a.tmps.size)
    (h : wpList P ops Q rest ((a.put (some d1) (.agg (zs.map (Value.int k)).toArray)).put (some d2) (.pointer (some ⟨w.heap.size, 0, none⟩))) (w.alloc (.cells (zs.map (Value.int k)).toArray t))) :
    wpList P ops Q (o1 :: o2 :: o3 :: rest) a w := by
  refine wpList_buildFlatArrTo g1 t e n parts h1 k zs (some d1) e1 hu hsz hz hparts ?_
  refine wpList_plain g2 fun K hK => ?_
  cases hit : P.info? t with
  | none => simp [hit] at hz
  | some it =>
    cases hzz : it.zero with
    | none => simp [hit, hzz] at hz
    | some z =>
      simp only [hit, hzz, Option.map_some, Option.some.injEq, Option.bind_some] at hz hi
      have hal : (Instr.alloc t true (.tuple #[])).run P w = .ok (.pointer (some ⟨w.heap.size, 0, none⟩)) (w.alloc (.cells z.cells t)) := by
        have ha : (zeroValue t).run P w = .ok z w := by simp [zeroValue, typeInfo, hit, hzz]
        unfold Instr.alloc
        simp only [Sem.run_bind, ha, Result.andThen_ok]
        rfl
      unfold Oper.wp execOp
      simp only [h2, Sem.run_bind, hal, Result.andThen_ok]
      refine hK _ _ ?_
      rw [e2]
      subst hx hy
      refine wpList_store_rowTo g3 t _ _ h3 e3 w.heap.size (zs.map (Value.int k)).toArray ?_ ?_ t z.cells (heap_alloc_new w _) (by simp [hit, hi]) (by simp [hz]) ?_ ?_
      · simp [Act.put, Act.eval, b2]
      · simp [Act.put, Act.eval, b1, Ne.symm hd]
      · simp [Value.oneCell']
      · rw [setRow_alloc]
        exact h
end Go.Proofs.Ytmggogdnfgkljaa

/- The plain mathematics of the field of 256 numbers: products by doubling, by the tables of powers and logarithms, and that they are the same. No condition; nothing of Go's text is used. -/
namespace Go.Proofs.Ytmggogdnfgkljaa.Gf

/-- The powers of two, eight bits each. -/
def expN : Nat := 70160881166704368827218703435136616750530459438269794890424969378298545675077208731798828898087927652446353395360628748027273188182808436399538186061104243134188885576122562338679313492324190829158544377810568631194580132524405266702234305646236648896994794467054525044798919765581988418950285252905306116225263236585714808161311289784028762024137133735135393922581566890382566480334369299400480864790538739986285574563168380416343369614948461817839620668187777978661530364712890858126432457562886306102556561631759900551331094983229723298224611133722330829711659991602983068895685602467964643306841827719562658305
/-- The logarithms, eight bits each. -/
def logN : Nat := 22135253156888987530748098150270024343632497605293634117281264061560962248099620766229961468867162294233796152347975563017024165690400661622462404646302566225833645086064538892198543335321514950294300187779610338557442029018619797274438901674641748676613670242915365385819254959901651105240253464034662486586186382979728982817772067067513442677601938078891989292316012868233806586592927239821351197800766822366321181463280924672822998103315976779850880337712374790938628529953751181886374687897611504386983350015558142994211516619836411558782076806704747441947939324473761869443721989389604670425385080942269787340800
def ex (i : Nat) : Nat := (expN >>> (8 * i)) % 256
def lg (a : Nat) : Nat := (logN >>> (8 * a)) % 256
def dbl (a : Nat) : Nat := if 255 < 2 * a then (2 * a) ^^^ 285 else 2 * a
/-- The product by doubling: 'k' rounds of the loop. -/
def pea : Nat → Nat → Nat → Nat → Nat
  | 0, _, _, x => x
  | k + 1, a, b, x => pea k (dbl a) (b / 2) (if b % 2 = 1 then x ^^^ a else x)
def mul (a b : Nat) : Nat := pea 8 a b 0
/-- The product by tables. -/
def tmul (a b : Nat) : Nat := if a = 0 ∨ b = 0 then 0 else ex ((lg a + lg b) % 255)
def gpow (a n : Nat) : Nat := if n = 0 then 1 else if a = 0 then 0 else ex ((lg a * n) % 255)
def inv (a : Nat) : Nat := ex ((255 - lg a) % 255)

def allB (n : Nat) (p : Nat → Bool) : Bool := (List.range n).all p
theorem allB_of {n : Nat} {p : Nat → Bool} (h : allB n p = true) {a : Nat} (ha : a < n) : p a = true :=
  List.all_eq_true.1 h a (List.mem_range.2 ha)

theorem c_mul : (allB 256 fun a => allB 256 fun b => mul a b == tmul a b) = true := by decide +kernel
theorem c_lg : (allB 256 fun a => a == 0 || (ex (lg a) == a && decide (lg a < 255))) = true := by decide +kernel
theorem c_ex : (allB 255 fun i => lg (ex i) == i && decide (ex i < 256) && ex i != 0) = true := by decide +kernel
theorem lg_one : lg 1 = 0 := by decide +kernel
theorem lg_two : lg 2 = 1 := by decide +kernel
theorem ex_zero : ex 0 = 1 := by decide +kernel

theorem mul_tab {a b : Nat} (ha : a < 256) (hb : b < 256) : mul a b = tmul a b := by
  have h := allB_of (allB_of c_mul ha) hb
  simpa using h
theorem ex_lg {a : Nat} (ha : a < 256) (h0 : a ≠ 0) : ex (lg a) = a := by
  have h := allB_of c_lg ha
  simp [h0] at h
  exact h.1
theorem lg_lt {a : Nat} (ha : a < 256) (h0 : a ≠ 0) : lg a < 255 := by
  have h := allB_of c_lg ha
  simp [h0] at h
  exact h.2
theorem lg_ex {i : Nat} (hi : i < 255) : lg (ex i) = i := by
  have h := allB_of c_ex hi
  simp at h
  exact h.1.1
theorem ex_lt (i : Nat) : ex i < 256 := by unfold ex; omega
theorem ex_ne {i : Nat} (hi : i < 255) : ex i ≠ 0 := by
  have h := allB_of c_ex hi
  simp at h
  exact h.2
theorem lg_lt' (a : Nat) : lg a < 256 := by unfold lg; omega

theorem mul_lt {a b : Nat} (ha : a < 256) (hb : b < 256) : mul a b < 256 := by
  rw [mul_tab ha hb]; unfold tmul
  split
  · omega
  · exact ex_lt _
theorem mul_nz {a b : Nat} (ha : a < 256) (hb : b < 256) (a0 : a ≠ 0) (b0 : b ≠ 0) : mul a b = ex ((lg a + lg b) % 255) := by
  rw [mul_tab ha hb]; unfold tmul; simp [a0, b0]
theorem zero_mul {b : Nat} (hb : b < 256) : mul 0 b = 0 := by rw [mul_tab (by omega) hb]; simp [tmul]
theorem mul_zero {a : Nat} (ha : a < 256) : mul a 0 = 0 := by rw [mul_tab ha (by omega)]; simp [tmul]
theorem mul_ne {a b : Nat} (ha : a < 256) (hb : b < 256) (a0 : a ≠ 0) (b0 : b ≠ 0) : mul a b ≠ 0 := by
  rw [mul_nz ha hb a0 b0]; exact ex_ne (by omega)
theorem lg_mul {a b : Nat} (ha : a < 256) (hb : b < 256) (a0 : a ≠ 0) (b0 : b ≠ 0) : lg (mul a b) = (lg a + lg b) % 255 := by
  rw [mul_nz ha hb a0 b0]; exact lg_ex (by omega)
theorem mul_comm {a b : Nat} (ha : a < 256) (hb : b < 256) : mul a b = mul b a := by
  rw [mul_tab ha hb, mul_tab hb ha]; unfold tmul
  rw [Nat.add_comm (lg a) (lg b)]
  by_cases a0 : a = 0 <;> by_cases b0 : b = 0 <;> simp [a0, b0]
theorem mul_assoc {a b c : Nat} (ha : a < 256) (hb : b < 256) (hc : c < 256) : mul (mul a b) c = mul a (mul b c) := by
  by_cases a0 : a = 0
  · subst a0; rw [zero_mul hb, zero_mul hc, zero_mul (mul_lt hb hc)]
  · by_cases b0 : b = 0
    · subst b0; rw [mul_zero ha, zero_mul hc, mul_zero ha]
    · by_cases c0 : c = 0
      · subst c0; rw [mul_zero (mul_lt ha hb), mul_zero hb, mul_zero ha]
      · rw [mul_nz (mul_lt ha hb) hc (mul_ne ha hb a0 b0) c0, mul_nz ha (mul_lt hb hc) a0 (mul_ne hb hc b0 c0), lg_mul ha hb a0 b0, lg_mul hb hc b0 c0]
        congr 1
        omega
theorem mul_one {a : Nat} (ha : a < 256) : mul a 1 = a := by
  by_cases a0 : a = 0
  · subst a0; exact zero_mul (by omega)
  · have := lg_lt ha a0
    rw [mul_nz ha (by omega) a0 (by omega), lg_one, Nat.add_zero, Nat.mod_eq_of_lt this, ex_lg ha a0]
theorem one_mul {a : Nat} (ha : a < 256) : mul 1 a = a := by rw [mul_comm (by omega) ha, mul_one ha]

theorem xor_mod2 (b c : Nat) : (b ^^^ c) % 2 = (b % 2 + c % 2) % 2 := by
  have h := Nat.xor_mod_two_pow (a := b) (b := c) (n := 1)
  simp at h
  rw [h]
  rcases Nat.mod_two_eq_zero_or_one b with hb | hb <;> rcases Nat.mod_two_eq_zero_or_one c with hc | hc <;> simp [hb, hc]
theorem xor_div2 (b c : Nat) : (b ^^^ c) / 2 = b / 2 ^^^ c / 2 := by
  have h := Nat.xor_div_two_pow (a := b) (b := c) (n := 1)
  simpa using h
theorem xor4 (x y a : Nat) : (x ^^^ a) ^^^ (y ^^^ a) = x ^^^ y := by
  rw [Nat.xor_comm y a, ← Nat.xor_assoc, Nat.xor_assoc x a a, Nat.xor_self, Nat.xor_zero]
theorem xor3 (x y a : Nat) : (x ^^^ a) ^^^ y = (x ^^^ y) ^^^ a := by
  rw [Nat.xor_assoc, Nat.xor_comm a y, ← Nat.xor_assoc]
theorem pea_xor (k : Nat) : ∀ a b c x y, pea k a (b ^^^ c) (x ^^^ y) = pea k a b x ^^^ pea k a c y := by
  induction k with
  | zero => intro a b c x y; rfl
  | succ k ih =>
    intro a b c x y
    simp only [pea]
    rw [xor_div2, ← ih]
    congr 1
    rw [xor_mod2]
    rcases Nat.mod_two_eq_zero_or_one b with hb | hb <;> rcases Nat.mod_two_eq_zero_or_one c with hc | hc <;> simp [hb, hc]
    · rw [Nat.xor_assoc]
    · rw [xor3]
    · rw [xor4]
theorem mul_xor (a b c : Nat) : mul a (b ^^^ c) = mul a b ^^^ mul a c := by
  unfold mul
  have := pea_xor 8 a b c 0 0
  simpa using this
theorem xor_lt {a b : Nat} (ha : a < 256) (hb : b < 256) : a ^^^ b < 256 := Nat.xor_lt_two_pow (n := 8) ha hb

theorem dbl_lt {a : Nat} (ha : a < 256) : dbl a < 256 := by
  have h : (allB 256 fun a => decide (dbl a < 256)) = true := by decide +kernel
  simpa using allB_of h ha

/-- Eight rounds are enough: with nothing left, no round turns anything. -/
theorem pea_zero (k a x : Nat) : pea k a 0 x = x := by
  induction k generalizing a x with
  | zero => rfl
  | succ k ih => simp [pea, ih]

theorem inv_lt (a : Nat) : inv a < 256 := ex_lt _
theorem inv_ne (a : Nat) : inv a ≠ 0 := ex_ne (by omega)
theorem mul_inv {a : Nat} (ha : a < 256) (a0 : a ≠ 0) : mul a (inv a) = 1 := by
  have h1 := lg_lt ha a0
  rw [mul_nz ha (inv_lt a) a0 (inv_ne a)]
  unfold inv
  rw [lg_ex (by omega), show (lg a + (255 - lg a) % 255) % 255 = 0 by omega, ex_zero]

theorem gpow_lt (a n : Nat) : gpow a n < 256 := by
  unfold gpow; split
  · omega
  · split
    · omega
    · exact ex_lt _
/-- One round of the loop of powers. -/
theorem gpow_round {a x n : Nat} (ha : a < 256) (hx : x < 256) (hn : 0 < n) :
    mul (if n % 2 = 1 then mul x a else x) (gpow (mul a a) (n / 2)) = mul x (gpow a n) := by
  have key : mul (if n % 2 = 1 then a else 1) (gpow (mul a a) (n / 2)) = gpow a n := by
    unfold gpow
    by_cases a0 : a = 0
    · subst a0
      rw [zero_mul (by omega)]
      by_cases h1 : n / 2 = 0
      · have : n = 1 := by omega
        subst this
        simp [zero_mul]
      · simp [h1, show n ≠ 0 by omega]
        split
        · exact zero_mul (by omega)
        · exact mul_zero (by omega)
    · have hm := mul_ne ha ha a0 a0
      simp only [hm, a0, if_false, show n ≠ 0 by omega]
      have h1 := lg_lt ha a0
      by_cases h2 : n / 2 = 0
      · have : n = 1 := by omega
        subst this
        simp [mul_one ha, Nat.mod_eq_of_lt h1, ex_lg ha a0]
      · rw [if_neg h2, lg_mul ha ha a0 a0]
        have e1 : ((lg a + lg a) % 255 * (n / 2)) % 255 = (lg a * (2 * (n / 2))) % 255 := by
          rw [Nat.mod_mul_mod, ← Nat.two_mul, Nat.mul_assoc, Nat.mul_left_comm]
        rw [e1]
        by_cases h3 : n % 2 = 1
        · rw [if_pos h3, mul_nz ha (ex_lt _) a0 (ex_ne (by omega)), lg_ex (by omega)]
          congr 1
          rw [Nat.add_mod_mod, show lg a + lg a * (2 * (n / 2)) = lg a * n by
            have : n = 2 * (n / 2) + 1 := by omega
            rw [show lg a * n = lg a * (2 * (n / 2) + 1) by rw [← this], Nat.mul_add, Nat.mul_one, Nat.add_comm]]
        · rw [if_neg h3, one_mul (ex_lt _), show 2 * (n / 2) = n by omega]
  by_cases h3 : n % 2 = 1
  · rw [if_pos h3] at key ⊢
    rw [mul_assoc hx ha (gpow_lt _ _), key]
  · rw [if_neg h3] at key ⊢
    rw [one_mul (gpow_lt _ _)] at key
    rw [key]
theorem gpow_zero (a : Nat) : gpow a 0 = 1 := rfl
theorem gpow_succ {a n : Nat} (ha : a < 256) : mul (gpow a n) a = gpow a (n + 1) := by
  unfold gpow
  simp only [show n + 1 ≠ 0 by omega, if_false]
  by_cases a0 : a = 0
  · subst a0
    simp
    split
    · exact mul_zero (by omega)
    · exact mul_zero (by omega)
  · have h1 := lg_lt ha a0
    by_cases n0 : n = 0
    · subst n0
      simp [a0, one_mul ha, Nat.mod_eq_of_lt h1, ex_lg ha a0]
    · simp only [a0, n0, if_false]
      rw [mul_nz (ex_lt _) ha (ex_ne (by omega)) a0, lg_ex (by omega), Nat.mod_add_mod, Nat.mul_succ]
theorem gpow_two {r : Nat} (hr : r < 255) : gpow 2 r = ex r := by
  unfold gpow
  by_cases h0 : r = 0
  · subst h0; simp [ex_zero]
  · simp [h0, lg_two, Nat.mod_eq_of_lt hr]
theorem gpow_inv {a : Nat} (ha : a < 256) (a0 : a ≠ 0) : gpow a 254 = inv a := by
  have h1 := lg_lt ha a0
  unfold gpow inv
  simp only [a0, if_false, show (254 : Nat) ≠ 0 by omega]
  congr 1
  omega
end Go.Proofs.Ytmggogdnfgkljaa.Gf

/- The plain mathematics of polynomials over the field of 256 numbers: products, values, division, the polynomial through places. A polynomial is the row of its numbers, a function from places to numbers. Nothing of Go's text is used; conditions stand at each theorem. -/
namespace Go.Proofs.Ytmggogdnfgkljaa.Gp

/-- The product, at every two numbers. -/
def m (a b : Nat) : Nat := Gf.mul (a % 256) (b % 256)
theorem m_lt (a b : Nat) : m a b < 256 := Gf.mul_lt (by omega) (by omega)
theorem m_mod (a b : Nat) : m a b % 256 = m a b := Nat.mod_eq_of_lt (m_lt a b)
theorem m_comm (a b : Nat) : m a b = m b a := Gf.mul_comm (by omega) (by omega)
theorem m_assoc (a b c : Nat) : m (m a b) c = m a (m b c) := by
  show Gf.mul (m a b % 256) _ = Gf.mul _ (m b c % 256)
  rw [m_mod, m_mod]
  exact Gf.mul_assoc (by omega) (by omega) (by omega)
theorem m_left (a b c : Nat) : m a (m b c) = m b (m a c) := by rw [← m_assoc, m_comm a b, m_assoc]
theorem xor_mod (b c : Nat) : (b ^^^ c) % 256 = (b % 256) ^^^ (c % 256) := Nat.xor_mod_two_pow (n := 8)
theorem m_xor (a b c : Nat) : m a (b ^^^ c) = m a b ^^^ m a c := by
  unfold m
  rw [xor_mod, Gf.mul_xor]
theorem xor_m (a b c : Nat) : m (b ^^^ c) a = m b a ^^^ m c a := by rw [m_comm, m_xor, m_comm a b, m_comm a c]
theorem m_zero (a : Nat) : m a 0 = 0 := Gf.mul_zero (by omega)
theorem zero_m (a : Nat) : m 0 a = 0 := Gf.zero_mul (by omega)
theorem m_one {a : Nat} (h : a < 256) : m a 1 = a := by
  unfold m
  rw [Nat.mod_eq_of_lt h]
  exact Gf.mul_one h
theorem one_m {a : Nat} (h : a < 256) : m 1 a = a := by rw [m_comm, m_one h]
theorem m_nat {a b : Nat} (ha : a < 256) (hb : b < 256) : Gf.mul a b = m a b := by unfold m; rw [Nat.mod_eq_of_lt ha, Nat.mod_eq_of_lt hb]
theorem m_inv {a : Nat} (ha : a < 256) (a0 : a ≠ 0) : m a (Gf.inv a) = 1 := by rw [← m_nat ha (Gf.inv_lt a), Gf.mul_inv ha a0]
theorem m_ne {a b : Nat} (ha : a < 256) (hb : b < 256) (a0 : a ≠ 0) (b0 : b ≠ 0) : m a b ≠ 0 := by rw [← m_nat ha hb]; exact Gf.mul_ne ha hb a0 b0
theorem xor_self (a : Nat) : a ^^^ a = 0 := Nat.xor_self a
theorem xor_left (a b c : Nat) : a ^^^ (b ^^^ c) = b ^^^ (a ^^^ c) := by rw [← Nat.xor_assoc, Nat.xor_comm a b, Nat.xor_assoc]
theorem xor_can (a b : Nat) : a ^^^ (a ^^^ b) = b := by rw [← Nat.xor_assoc, Nat.xor_self, Nat.zero_xor]
theorem xor_eq {a b : Nat} (h : a ^^^ b = 0) : a = b := by
  have h2 : a ^^^ (a ^^^ b) = a ^^^ 0 := by rw [h]
  rw [xor_can, Nat.xor_zero] at h2
  exact h2.symm
theorem xor_lt {a b : Nat} (ha : a < 256) (hb : b < 256) : a ^^^ b < 256 := Gf.xor_lt ha hb

/-- All its numbers are byte numbers, and none but 0 stands from 'n' on. -/
def Pol (f : Nat → Nat) (n : Nat) : Prop := (∀ i, f i < 256) ∧ ∀ i, n ≤ i → f i = 0
theorem Pol.more {f : Nat → Nat} {n k : Nat} (h : Pol f n) (hk : n ≤ k) : Pol f k := ⟨h.1, fun i hi => h.2 i (Nat.le_trans hk hi)⟩

/-- The length without the noughts at the end. -/
def tl (f : Nat → Nat) : Nat → Nat
  | 0 => 0
  | n + 1 => if f n = 0 then tl f n else n + 1
theorem tl_le (f : Nat → Nat) (n : Nat) : tl f n ≤ n := by
  induction n with
  | zero => exact Nat.le_refl _
  | succ n ih => unfold tl; split <;> omega
theorem tl_zero (f : Nat → Nat) (n : Nat) : ∀ i, tl f n ≤ i → i < n → f i = 0 := by
  induction n with
  | zero => intro i _ h; omega
  | succ n ih =>
    intro i h1 h2
    unfold tl at h1
    split at h1
    · by_cases e : i = n
      · subst e; assumption
      · exact ih i h1 (by omega)
    · omega
theorem tl_last (f : Nat → Nat) (n : Nat) (h : 0 < tl f n) : f (tl f n - 1) ≠ 0 := by
  induction n with
  | zero => simp [tl] at h
  | succ n ih =>
    unfold tl at h ⊢
    split
    · rename_i h0
      rw [if_pos h0] at h
      exact ih h
    · simpa
/-- What the trimmed length is. -/
theorem tl_is (f : Nat → Nat) (n t : Nat) (ht : t ≤ n) (hz : ∀ i, t ≤ i → i < n → f i = 0) (hl : t = 0 ∨ f (t - 1) ≠ 0) : tl f n = t := by
  have h1 := tl_le f n
  have h2 := tl_zero f n
  have h3 := tl_last f n
  rcases Nat.lt_trichotomy (tl f n) t with h | h | h
  · rcases hl with hl | hl
    · omega
    · exact absurd (h2 (t - 1) (by omega) (by omega)) hl
  · exact h
  · exact absurd (hz (tl f n - 1) (by omega) (by omega)) (h3 (by omega))
theorem tl_more {f : Nat → Nat} {n : Nat} (hz : ∀ i, n ≤ i → f i = 0) (k : Nat) (hk : n ≤ k) : tl f k = tl f n := by
  refine tl_is f k (tl f n) (Nat.le_trans (tl_le f n) hk) ?_ ?_
  · intro i h1 h2
    by_cases e : i < n
    · exact tl_zero f n i h1 e
    · exact hz i (by omega)
  · by_cases e : tl f n = 0
    · exact .inl e
    · exact .inr (tl_last f n (by omega))
theorem Pol.tl {f : Nat → Nat} {n : Nat} (h : Pol f n) : Pol f (tl f n) :=
  ⟨h.1, fun i hi => by
    by_cases e : i < n
    · exact tl_zero f n i hi e
    · exact h.2 i (by omega)⟩
theorem tl_idem (f : Nat → Nat) (n : Nat) : Gp.tl f (Gp.tl f n) = Gp.tl f n :=
  tl_is f _ _ (Nat.le_refl _) (fun i h1 h2 => by omega) (by
    by_cases e : Gp.tl f n = 0
    · exact .inl e
    · exact .inr (tl_last f n (by omega)))
theorem tl_congr {f g : Nat → Nat} (n : Nat) (h : ∀ i, i < n → f i = g i) : Gp.tl f n = Gp.tl g n := by
  induction n with
  | zero => rfl
  | succ n ih => unfold Gp.tl; rw [h n (by omega), ih (fun i hi => h i (by omega))]

/-! ### Sums and products -/
def ad (f g : Nat → Nat) (i : Nat) : Nat := f i ^^^ g i
def sh (k : Nat) (b : Nat → Nat) (i : Nat) : Nat := if k ≤ i then b (i - k) else 0
/-- The first 'k' rows of the product. -/
def cv (a b : Nat → Nat) : Nat → Nat → Nat
  | 0, _ => 0
  | k + 1, i => cv a b k i ^^^ m (sh k b i) (a k)
theorem cv_s (a b : Nat → Nat) (k i : Nat) : cv a b (k + 1) i = cv a b k i ^^^ m (sh k b i) (a k) := rfl
theorem ad_pol {f g : Nat → Nat} {n k : Nat} (hf : Pol f n) (hg : Pol g k) : Pol (ad f g) (max n k) :=
  ⟨fun i => xor_lt (hf.1 i) (hg.1 i), fun i hi => by unfold ad; rw [hf.2 i (by omega), hg.2 i (by omega)]; rfl⟩
theorem cv_lt (a b : Nat → Nat) (k i : Nat) : cv a b k i < 256 := by
  induction k with
  | zero => unfold cv; omega
  | succ k ih => unfold cv; exact xor_lt ih (m_lt _ _)
/-- Above its length a product has nothing. -/
theorem cv_high (a b : Nat → Nat) (nb : Nat) (hb : ∀ i, nb ≤ i → b i = 0) (k i : Nat) (hi : k + nb ≤ i + 1) : cv a b k i = 0 := by
  induction k with
  | zero => rfl
  | succ k ih =>
    unfold cv
    rw [ih (by omega), show sh k b i = 0 by unfold sh; rw [if_pos (by omega), hb _ (by omega)], zero_m]
    rfl
theorem cv_pol {a b : Nat → Nat} {na nb : Nat} (hb : Pol b nb) : Pol (cv a b na) (na + nb) :=
  ⟨fun i => cv_lt a b na i, fun i hi => cv_high a b nb hb.2 na i (by omega)⟩
theorem cv_zero_rows (a b : Nat → Nat) (na k i : Nat) (ha : ∀ j, na ≤ j → a j = 0) (hk : na ≤ k) : cv a b k i = cv a b na i := by
  induction k with
  | zero => rw [show na = 0 by omega]
  | succ k ih =>
    by_cases e : na = k + 1
    · rw [e]
    · rw [cv_s, ha k (by omega), m_zero, Nat.xor_zero, ih (by omega)]
/-- The product's last number. -/
theorem cv_top (a b : Nat → Nat) (na nb : Nat) (hb : ∀ i, nb ≤ i → b i = 0) (h1 : 0 < na) (h2 : 0 < nb) : cv a b na (na + nb - 2) = m (b (nb - 1)) (a (na - 1)) := by
  obtain ⟨k, rfl⟩ : ∃ k, na = k + 1 := ⟨na - 1, by omega⟩
  show cv a b k _ ^^^ _ = _
  rw [cv_high a b nb hb k _ (by omega), Nat.zero_xor]
  congr 1
  unfold sh
  rw [if_pos (by omega)]
  congr 1
  omega
/-- A product by nothing but 1. -/
def one (i : Nat) : Nat := if i = 0 then 1 else 0
theorem one_pol : Pol one 1 := ⟨fun i => by unfold one; split <;> omega, fun i hi => by unfold one; rw [if_neg (by omega)]⟩
theorem cv_one {b : Nat → Nat} (hb : ∀ i, b i < 256) (i : Nat) : cv one b 1 i = b i := by
  show 0 ^^^ m (sh 0 b i) 1 = _
  rw [Nat.zero_xor]
  unfold sh
  simp [m_one (hb i)]

/-! ### Values -/
/-- The value of the numbers from place 'k' on, 'r' of them. -/
def hn (p : Nat → Nat) (x : Nat) : Nat → Nat → Nat
  | 0, _ => 0
  | r + 1, k => m (hn p x r (k + 1)) x ^^^ p k
def ev (p : Nat → Nat) (x n : Nat) : Nat := hn p x n 0
theorem hn_lt {p : Nat → Nat} (hp : ∀ i, p i < 256) (x r k : Nat) : hn p x r k < 256 := by
  cases r with
  | zero => unfold hn; omega
  | succ r => unfold hn; exact xor_lt (m_lt _ _) (hp k)
def pw (x : Nat) : Nat → Nat
  | 0 => 1
  | n + 1 => m (pw x n) x
def ps (p : Nat → Nat) (x : Nat) : Nat → Nat
  | 0 => 0
  | n + 1 => ps p x n ^^^ m (p n) (pw x n)
theorem hn_s (p : Nat → Nat) (x r k : Nat) : hn p x (r + 1) k = m (hn p x r (k + 1)) x ^^^ p k := rfl
theorem pw_s (x n : Nat) : pw x (n + 1) = m (pw x n) x := rfl
theorem ps_0 (p : Nat → Nat) (x : Nat) : ps p x 0 = 0 := rfl
theorem ps_s (p : Nat → Nat) (x n : Nat) : ps p x (n + 1) = ps p x n ^^^ m (p n) (pw x n) := rfl
theorem hn_ps (p : Nat → Nat) (x r k : Nat) : ps p x k ^^^ m (hn p x r k) (pw x k) = ps p x (k + r) := by
  induction r generalizing k with
  | zero => unfold hn; rw [zero_m, Nat.xor_zero]; rfl
  | succ r ih =>
    have h := ih (k + 1)
    rw [show k + (r + 1) = k + 1 + r by omega, ← h, hn_s, ps_s, pw_s, xor_m, m_assoc, m_comm x (pw x k), Nat.xor_assoc, Nat.xor_comm (m (p k) (pw x k))]
theorem ev_ps {p : Nat → Nat} (hp : ∀ i, p i < 256) (x n : Nat) : ev p x n = ps p x n := by
  have h := hn_ps p x n 0
  rw [Nat.zero_add] at h
  rw [← h]
  show _ = 0 ^^^ m _ 1
  rw [Nat.zero_xor, m_one (hn_lt hp _ _ _)]
  rfl
theorem ps_ad (f g : Nat → Nat) (x n : Nat) : ps (ad f g) x n = ps f x n ^^^ ps g x n := by
  induction n with
  | zero => rw [ps_0, ps_0, ps_0, xor_self]
  | succ n ih =>
    rw [ps_s, ps_s, ps_s, ih, show ad f g n = f n ^^^ g n from rfl, xor_m]
    simp only [Nat.xor_assoc, xor_left]
theorem ps_scale (f : Nat → Nat) (c x n : Nat) : ps (fun i => m (f i) c) x n = m (ps f x n) c := by
  induction n with
  | zero => rw [ps_0, ps_0, zero_m]
  | succ n ih => rw [ps_s, ps_s, ih, xor_m, m_assoc, m_assoc, m_comm c]
theorem ps_more {f : Nat → Nat} {n : Nat} (hf : ∀ i, n ≤ i → f i = 0) (x k : Nat) (hk : n ≤ k) : ps f x k = ps f x n := by
  induction k with
  | zero => rw [show n = 0 by omega]
  | succ k ih =>
    by_cases e : n = k + 1
    · rw [e]
    · rw [ps_s, hf k (by omega), zero_m, Nat.xor_zero, ih (by omega)]
theorem pw_lt (x n : Nat) : pw x n < 256 := by
  cases n with
  | zero => unfold pw; omega
  | succ n => unfold pw; exact m_lt _ _
theorem pw_add (x k n : Nat) : pw x (k + n) = m (pw x n) (pw x k) := by
  induction n with
  | zero => show _ = m 1 _; rw [one_m (pw_lt _ _)]; rfl
  | succ n ih =>
    show m (pw x (k + n)) x = m (m (pw x n) x) (pw x k)
    rw [ih, m_assoc, m_assoc, m_comm x]
theorem ps_sh0 (b : Nat → Nat) (k x : Nat) : ps (sh k b) x k = 0 := by
  have h : ∀ n, n ≤ k → ps (sh k b) x n = 0 := by
    intro n
    induction n with
    | zero => intro _; rfl
    | succ n ih =>
      intro hn
      rw [ps_s, ih (by omega), show sh k b n = 0 by unfold sh; rw [if_neg (by omega)], zero_m, xor_self]
  exact h k (Nat.le_refl _)
theorem ps_sh (b : Nat → Nat) (k x n : Nat) : ps (sh k b) x (k + n) = m (ps b x n) (pw x k) := by
  induction n with
  | zero => rw [Nat.add_zero, ps_sh0, ps_0, zero_m]
  | succ n ih =>
    rw [← Nat.add_assoc, ps_s, ps_s, ih, xor_m, show sh k b (k + n) = b n by unfold sh; rw [if_pos (by omega)]; congr 1; omega, pw_add, m_assoc]
theorem ps_cv (a b : Nat → Nat) (nb x N k : Nat) (hb : ∀ i, nb ≤ i → b i = 0) (hN : k + nb ≤ N) : ps (cv a b k) x N = m (ps b x nb) (ps a x k) := by
  induction k with
  | zero =>
    have h : ∀ n, ps (cv a b 0) x n = 0 := by
      intro n
      induction n with
      | zero => rfl
      | succ n ih => rw [ps_s, ih, show cv a b 0 n = 0 from rfl, zero_m, xor_self]
    rw [h, ps_0, m_zero]
  | succ k ih =>
    have e : cv a b (k + 1) = ad (cv a b k) (fun i => m (sh k b i) (a k)) := rfl
    rw [e, ps_ad, ih (by omega), ps_scale, ps_s a, m_xor, ps_more (f := sh k b) (n := k + nb) (fun i hi => by unfold sh; rw [if_pos (by omega), hb _ (by omega)]) x N (by omega), ps_sh, m_assoc, m_comm (pw x k)]

/-! ### Division -/
section
variable (a b : Nat → Nat) (lead nb T : Nat)
/-- The rest behind 's' rounds. -/
def dr : Nat → Nat → Nat
  | 0, i => a i
  | s + 1, i => dr s i ^^^ m (sh (T - 1 - s) b i) (m (dr s (T - 1 - s + nb - 1)) lead)
/-- The quotient's number that round 's' finds. -/
def dc (s : Nat) : Nat := m (dr a b lead nb T s (T - 1 - s + nb - 1)) lead
/-- The quotient behind 's' rounds. -/
def dq (s i : Nat) : Nat := if T - s ≤ i ∧ i < T then dc a b lead nb T (T - 1 - i) else 0
theorem dr_succ (s i : Nat) : dr a b lead nb T (s + 1) i = dr a b lead nb T s i ^^^ m (sh (T - 1 - s) b i) (dc a b lead nb T s) := rfl
theorem dr_lt (ha : ∀ i, a i < 256) (s i : Nat) : dr a b lead nb T s i < 256 := by
  induction s with
  | zero => exact ha i
  | succ s ih => rw [dr_succ]; exact xor_lt ih (m_lt _ _)
theorem dc_lt (s : Nat) : dc a b lead nb T s < 256 := m_lt _ _
theorem dq_pol (s : Nat) : Pol (dq a b lead nb T s) T :=
  ⟨fun i => by unfold dq; split; exact dc_lt _ _ _ _ _ _; omega, fun i hi => by unfold dq; rw [if_neg (by omega)]⟩
theorem dq_set (s : Nat) (hs : s < T) (i : Nat) : dq a b lead nb T (s + 1) i = if i = T - 1 - s then dc a b lead nb T s else dq a b lead nb T s i := by
  unfold dq
  by_cases e : i = T - 1 - s
  · subst e
    rw [if_pos (by omega), if_pos rfl]
    congr 1
    omega
  · rw [if_neg e]
    by_cases h : T - s ≤ i ∧ i < T
    · rw [if_pos h, if_pos (by omega)]
    · rw [if_neg h, if_neg (by omega)]
/-- What is divided is the quotient times what it is divided by, and the rest. -/
theorem dr_sum (s : Nat) (hs : s ≤ T) (i : Nat) : cv (dq a b lead nb T T) b T i = cv (dq a b lead nb T T) b (T - s) i ^^^ (a i ^^^ dr a b lead nb T s i) := by
  induction s with
  | zero => show _ = _ ^^^ (a i ^^^ a i); rw [xor_self, Nat.xor_zero]; rfl
  | succ s ih =>
    rw [ih (by omega), dr_succ, show T - s = T - 1 - s + 1 by omega, show T - (s + 1) = T - 1 - s by omega]
    show (cv _ b (T - 1 - s) i ^^^ m (sh (T - 1 - s) b i) (dq a b lead nb T T (T - 1 - s))) ^^^ _ = _
    rw [show dq a b lead nb T T (T - 1 - s) = dc a b lead nb T s by
      unfold dq
      rw [if_pos (by omega)]
      congr 1
      omega]
    rw [Nat.xor_assoc]
    congr 1
    rw [xor_left, Nat.xor_comm (m _ _) (dr a b lead nb T s i)]
theorem dr_all (i : Nat) : cv (dq a b lead nb T T) b T i ^^^ dr a b lead nb T T i = a i := by
  rw [dr_sum a b lead nb T T (Nat.le_refl _) i, Nat.sub_self]
  show (0 ^^^ _) ^^^ _ = _
  rw [Nat.zero_xor, Nat.xor_assoc, xor_self, Nat.xor_zero]
/-- The rest is shorter than what it was divided by. -/
theorem dr_short (hnb : 0 < nb) (ha : Pol a (T + nb - 1)) (hb : ∀ i, nb ≤ i → b i = 0) (hl : m (b (nb - 1)) lead = 1) (s : Nat) (hs : s ≤ T) (i : Nat) (hi : T - s + nb - 1 ≤ i) : dr a b lead nb T s i = 0 := by
  induction s generalizing i with
  | zero => exact ha.2 i (by omega)
  | succ s ih =>
    rw [dr_succ]
    by_cases e : i = T - 1 - s + nb - 1
    · rw [show sh (T - 1 - s) b i = b (nb - 1) by unfold sh; rw [if_pos (by omega)]; congr 1; omega]
      unfold dc
      rw [← e, m_left, hl, m_one (dr_lt a b lead nb T ha.1 s i), xor_self]
    · rw [ih (by omega) i (by omega), show sh (T - 1 - s) b i = 0 by unfold sh; rw [if_pos (by omega), hb _ (by omega)], zero_m]
      rfl
/-- A product that is divided by one of its two gives the other. -/
theorem dr_exact (p : Nat → Nat) (hp : ∀ i, p i < 256) (hnb : 0 < nb) (hb : ∀ i, nb ≤ i → b i = 0) (hl : m (b (nb - 1)) lead = 1) (ha : ∀ i, a i = cv p b T i) (s : Nat) (hs : s ≤ T) (i : Nat) : dr a b lead nb T s i = cv p b (T - s) i := by
  induction s generalizing i with
  | zero => exact ha i
  | succ s ih =>
    have hT : T - s = T - 1 - s + 1 := by omega
    have hc : dc a b lead nb T s = p (T - 1 - s) := by
      unfold dc
      rw [ih (by omega), hT]
      show m (cv p b (T - 1 - s) _ ^^^ m (sh (T - 1 - s) b _) (p (T - 1 - s))) lead = _
      rw [cv_high p b nb hb _ _ (by omega), Nat.zero_xor, show sh (T - 1 - s) b (T - 1 - s + nb - 1) = b (nb - 1) by unfold sh; rw [if_pos (by omega)]; congr 1; omega, m_assoc, m_left, hl, m_one (hp _)]
    rw [dr_succ, hc, ih (by omega), hT, show T - (s + 1) = T - 1 - s by omega]
    show (cv p b (T - 1 - s) i ^^^ m (sh (T - 1 - s) b i) (p (T - 1 - s))) ^^^ _ = _
    rw [Nat.xor_assoc, xor_self, Nat.xor_zero]
theorem dq_exact (p : Nat → Nat) (hp : Pol p T) (hnb : 0 < nb) (hb : ∀ i, nb ≤ i → b i = 0) (hl : m (b (nb - 1)) lead = 1) (ha : ∀ i, a i = cv p b T i) (i : Nat) : dq a b lead nb T T i = p i := by
  unfold dq
  by_cases h : T - T ≤ i ∧ i < T
  · rw [if_pos h]
    unfold dc
    rw [dr_exact a b lead nb T p hp.1 hnb hb hl ha _ (by omega), show T - (T - 1 - i) = i + 1 by omega, show T - 1 - (T - 1 - i) = i by omega]
    show m (cv p b i _ ^^^ m (sh i b _) (p i)) lead = _
    rw [cv_high p b nb hb _ _ (by omega), Nat.zero_xor, show sh i b (i + nb - 1) = b (nb - 1) by unfold sh; rw [if_pos (by omega)]; congr 1; omega, m_assoc, m_left, hl, m_one (hp.1 _)]
  · rw [if_neg h, hp.2 i (by omega)]
end

/-! ### The polynomial through places -/
/-- The polynomial of two numbers that is 0 at 'x'. -/
def l2 (x : Nat) (i : Nat) : Nat := if i = 0 then x else if i = 1 then 1 else 0
theorem l2_pol {x : Nat} (h : x < 256) : Pol (l2 x) 2 := ⟨fun i => by unfold l2; split; exact h; split <;> omega, fun i hi => by unfold l2; rw [if_neg (by omega), if_neg (by omega)]⟩
def lin (x : Nat) (p : Nat → Nat) : Nat → Nat
  | 0 => m (p 0) x
  | i + 1 => m (p (i + 1)) x ^^^ p i
theorem lin_pol {x : Nat} {p : Nat → Nat} {n : Nat} (hp : Pol p n) : Pol (lin x p) (n + 1) :=
  ⟨fun i => by cases i with
    | zero => exact m_lt _ _
    | succ i => exact xor_lt (m_lt _ _) (hp.1 i),
  fun i hi => by cases i with
    | zero => omega
    | succ i => show m _ _ ^^^ _ = 0; rw [hp.2 (i + 1) (by omega), hp.2 i (by omega), zero_m]; rfl⟩
theorem cv_l2 (x : Nat) (p : Nat → Nat) (hp : ∀ i, p i < 256) (k i : Nat) : cv p (l2 x) k i = (if i < k then m (p i) x else 0) ^^^ (if 0 < i ∧ i < k + 1 then p (i - 1) else 0) := by
  induction k with
  | zero => show 0 = _; rw [if_neg (by omega), if_neg (by omega)]; rfl
  | succ k ih =>
    unfold cv
    rw [ih]
    by_cases h1 : i = k
    · subst h1
      rw [if_neg (by omega), if_pos (show i < i + 1 by omega), show sh i (l2 x) i = x by unfold sh; simp [l2], m_comm x, Nat.zero_xor, Nat.xor_comm]
      congr 1
      by_cases h2 : 0 < i
      · rw [if_pos (by omega), if_pos (by omega)]
      · rw [if_neg (by omega), if_neg (by omega)]
    · by_cases h2 : i = k + 1
      · subst h2
        rw [if_neg (by omega), if_neg (by omega), if_neg (by omega), if_pos (by omega), show sh k (l2 x) (k + 1) = 1 by unfold sh; rw [if_pos (by omega), show k + 1 - k = 1 by omega]; rfl, one_m (hp k)]
        rfl
      · have h3 : sh k (l2 x) i = 0 := by
          unfold sh
          by_cases h4 : k ≤ i
          · rw [if_pos h4]
            unfold l2
            rw [if_neg (by omega), if_neg (by omega)]
          · rw [if_neg h4]
        rw [h3, zero_m, Nat.xor_zero]
        by_cases h4 : i < k
        · rw [if_pos h4, if_pos (show i < k + 1 by omega)]
          by_cases h5 : 0 < i
          · rw [if_pos (by omega), if_pos (by omega)]
          · rw [if_neg (by omega), if_neg (by omega)]
        · rw [if_neg h4, if_neg (by omega), if_neg (by omega), if_neg (by omega)]
theorem cv_lin {x : Nat} {p : Nat → Nat} {n : Nat} (hp : Pol p n) (i : Nat) : cv p (l2 x) n i = lin x p i := by
  rw [cv_l2 x p hp.1]
  cases i with
  | zero =>
    rw [if_neg (show ¬ (0 < 0 ∧ _) by omega), Nat.xor_zero]
    by_cases h : 0 < n
    · rw [if_pos h]; rfl
    · rw [if_neg h]; show 0 = m _ _; rw [hp.2 0 (by omega), zero_m]
  | succ i =>
    show _ = m (p (i + 1)) x ^^^ p i
    have e1 : (if i + 1 < n then m (p (i + 1)) x else 0) = m (p (i + 1)) x := by
      by_cases h : i + 1 < n
      · rw [if_pos h]
      · rw [if_neg h, hp.2 (i + 1) (by omega), zero_m]
    have e2 : (if 0 < i + 1 ∧ i + 1 < n + 1 then p (i + 1 - 1) else 0) = p i := by
      by_cases h : i + 1 < n + 1
      · rw [if_pos ⟨by omega, h⟩]; rfl
      · rw [if_neg (by omega), hp.2 i (by omega)]
    rw [e1, e2]
theorem lin_comm (x y : Nat) (p : Nat → Nat) : lin x (lin y p) = lin y (lin x p) := by
  funext i
  match i with
  | 0 => show m (m _ _) _ = m (m _ _) _; rw [m_assoc, m_assoc, m_comm y]
  | 1 =>
    show m (m (p 1) y ^^^ p 0) x ^^^ m (p 0) y = m (m (p 1) x ^^^ p 0) y ^^^ m (p 0) x
    rw [xor_m, xor_m, m_assoc, m_assoc, m_comm y x, Nat.xor_assoc, Nat.xor_assoc, Nat.xor_comm (m (p 0) x)]
  | i + 2 =>
    show m (m (p (i + 2)) y ^^^ p (i + 1)) x ^^^ (m (p (i + 1)) y ^^^ p i) = m (m (p (i + 2)) x ^^^ p (i + 1)) y ^^^ (m (p (i + 1)) x ^^^ p i)
    rw [xor_m, xor_m, m_assoc, m_assoc, m_comm y x, Nat.xor_assoc, Nat.xor_assoc, xor_left (m (p (i + 1)) x)]
/-- The value of a product by the polynomial that is 0 at 'x'. -/
theorem ps_lin (x y : Nat) (p : Nat → Nat) (n : Nat) : ps (lin x p) y (n + 1) = m (ps p y (n + 1)) x ^^^ m (ps p y n) y := by
  induction n with
  | zero =>
    show (0 ^^^ m (m (p 0) x) 1) = m (0 ^^^ m (p 0) 1) x ^^^ m 0 y
    rw [zero_m, Nat.zero_xor, Nat.zero_xor, Nat.xor_zero, m_assoc, m_assoc, m_comm x 1]
  | succ n ih =>
    show ps (lin x p) y (n + 1) ^^^ m (m (p (n + 1)) x ^^^ p n) (pw y (n + 1)) = m (ps p y (n + 1) ^^^ m (p (n + 1)) (pw y (n + 1))) x ^^^ m (ps p y n ^^^ m (p n) (pw y n)) y
    rw [ih, xor_m, xor_m, xor_m]
    have e1 : m (m (p (n + 1)) (pw y (n + 1))) x = m (m (p (n + 1)) x) (pw y (n + 1)) := by rw [m_assoc, m_assoc, m_comm x]
    have e2 : m (m (p n) (pw y n)) y = m (p n) (pw y (n + 1)) := by rw [m_assoc]; rfl
    rw [e1, e2]
    simp only [Nat.xor_assoc, xor_left]
theorem ps_lin' {x y : Nat} {p : Nat → Nat} {n : Nat} (hp : Pol p n) : ps (lin x p) y (n + 1) = m (ps p y n) (y ^^^ x) := by
  rw [ps_lin, ps_more hp.2 y (n + 1) (by omega), m_xor, Nat.xor_comm]
/-- The product over the first 'k' places, and over them without place 'i'. -/
def pr (xs : Nat → Nat) : Nat → Nat → Nat
  | 0 => one
  | k + 1 => lin (xs k) (pr xs k)
def po (xs : Nat → Nat) (i : Nat) : Nat → Nat → Nat
  | 0 => one
  | k + 1 => if k = i then po xs i k else lin (xs k) (po xs i k)
/-- The length of the second. -/
def pl (i k : Nat) : Nat := if i < k then k else k + 1
theorem pr_pol (xs : Nat → Nat) (k : Nat) : Pol (pr xs k) (k + 1) := by
  induction k with
  | zero => exact one_pol
  | succ k ih => exact lin_pol ih
theorem pr_top (xs : Nat → Nat) (k : Nat) : pr xs k k = 1 := by
  induction k with
  | zero => rfl
  | succ k ih =>
    show m (pr xs k (k + 1)) _ ^^^ pr xs k k = 1
    rw [(pr_pol xs k).2 (k + 1) (by omega), zero_m, ih]
    rfl
theorem po_out (xs : Nat → Nat) (i k : Nat) (h : k ≤ i) : po xs i k = pr xs k := by
  induction k with
  | zero => rfl
  | succ k ih =>
    show (if k = i then _ else _) = _
    rw [if_neg (by omega), ih (by omega)]
    rfl
theorem po_in (xs : Nat → Nat) (i k : Nat) (h : i < k) : pr xs k = lin (xs i) (po xs i k) := by
  induction k with
  | zero => omega
  | succ k ih =>
    show lin (xs k) (pr xs k) = lin (xs i) (if k = i then _ else _)
    by_cases e : k = i
    · subst e
      rw [if_pos rfl, po_out xs k k (Nat.le_refl _)]
    · rw [if_neg e, ih (by omega), lin_comm]
theorem po_pol (xs : Nat → Nat) (i k : Nat) : Pol (po xs i k) (pl i k) := by
  induction k with
  | zero => unfold pl; rw [if_neg (by omega)]; exact one_pol
  | succ k ih =>
    show Pol (if k = i then _ else _) _
    by_cases e : k = i
    · subst e
      rw [if_pos rfl]
      unfold pl at ih ⊢
      rw [if_neg (by omega)] at ih
      rw [if_pos (by omega)]
      exact ih
    · rw [if_neg e]
      have h := lin_pol (x := xs k) ih
      unfold pl at h ⊢
      by_cases h1 : i < k
      · rw [if_pos h1] at h; rw [if_pos (by omega)]; exact h
      · rw [if_neg h1] at h; rw [if_neg (by omega)]; exact h
/-- What the second is worth at its own place: the product of the places' sums. -/
def un (xs : Nat → Nat) (i : Nat) : Nat → Nat
  | 0 => 1
  | k + 1 => if k = i then un xs i k else m (un xs i k) (xs i ^^^ xs k)
theorem ps_one (x n : Nat) (h : 0 < n) : ps one x n = 1 := by
  rw [ps_more (f := one) (n := 1) (fun i hi => by unfold one; rw [if_neg (by omega)]) x n (by omega)]
  show 0 ^^^ m 1 1 = 1
  rw [m_one (by omega)]
  rfl
theorem ps_po (xs : Nat → Nat) (i k : Nat) : ps (po xs i k) (xs i) (pl i k) = un xs i k := by
  induction k with
  | zero => exact ps_one _ _ (by unfold pl; rw [if_neg (by omega)]; omega)
  | succ k ih =>
    show ps (if k = i then _ else _) _ _ = (if k = i then _ else _)
    by_cases e : k = i
    · subst e
      rw [if_pos rfl, if_pos rfl, ← ih, show pl k (k + 1) = pl k k by unfold pl; rw [if_pos (by omega), if_neg (by omega)]]
    · rw [if_neg e, if_neg e, ← ih, ← ps_lin' (po_pol xs i k)]
      congr 1
      unfold pl
      by_cases h1 : i < k
      · rw [if_pos h1, if_pos (by omega)]
      · rw [if_neg h1, if_neg (by omega)]
theorem un_lt (xs : Nat → Nat) (i k : Nat) : un xs i k < 256 := by
  induction k with
  | zero => unfold un; omega
  | succ k ih => unfold un; split; exact ih; exact m_lt _ _
theorem un_ne {xs : Nat → Nat} (hx : ∀ i, xs i < 256) {i k : Nat} (hd : ∀ j, j < k → j ≠ i → xs j ≠ xs i) : un xs i k ≠ 0 := by
  induction k with
  | zero => unfold un; omega
  | succ k ih =>
    unfold un
    split
    · exact ih (fun j hj => hd j (by omega))
    · rename_i e
      refine m_ne (un_lt _ _ _) (xor_lt (hx i) (hx k)) (ih (fun j hj => hd j (by omega))) (fun h => hd k (by omega) e (xor_eq h).symm)
theorem un_zero {xs : Nat → Nat} {i k j : Nat} (hj : j < k) (hji : j ≠ i) (he : xs j = xs i) : un xs i k = 0 := by
  induction k with
  | zero => omega
  | succ k ih =>
    unfold un
    by_cases e : j = k
    · subst e
      rw [if_neg hji, he, xor_self, m_zero]
    · rw [ih (by omega)]
      split
      · rfl
      · exact zero_m _
/-- At another place the second is 0. -/
theorem ps_po_zero (xs : Nat → Nat) (i k j : Nat) (hj : j < k) (hji : j ≠ i) : ps (po xs i k) (xs j) (pl i k) = 0 := by
  induction k with
  | zero => omega
  | succ k ih =>
    show ps (if k = i then _ else _) _ _ = 0
    by_cases e : k = i
    · subst e
      rw [if_pos rfl]
      have h := ih (by omega)
      unfold pl at h ⊢
      rw [if_neg (by omega)] at h
      rw [if_pos (by omega)]
      exact h
    · rw [if_neg e]
      have h : ps (lin (xs k) (po xs i k)) (xs j) (pl i (k + 1)) = m (ps (po xs i k) (xs j) (pl i k)) (xs j ^^^ xs k) := by
        rw [← ps_lin' (po_pol xs i k)]
        congr 1
        unfold pl
        by_cases h1 : i < k
        · rw [if_pos h1, if_pos (by omega)]
        · rw [if_neg h1, if_neg (by omega)]
      rw [h]
      by_cases e2 : j = k
      · subst e2; rw [xor_self, m_zero]
      · rw [ih (by omega), zero_m]
/-- The sum of the first 'k' of them, each scaled to the value wanted at its place; 'n' places in all. -/
def th (xs ys : Nat → Nat) (n : Nat) : Nat → Nat → Nat
  | 0, _ => 0
  | k + 1, i => th xs ys n k i ^^^ m (po xs k n i) (m (ys k) (Gf.inv (un xs k n)))
theorem th_pol (xs ys : Nat → Nat) (n k : Nat) (hk : k ≤ n) : Pol (th xs ys n k) n := by
  induction k with
  | zero => exact ⟨fun i => by unfold th; omega, fun i _ => rfl⟩
  | succ k ih =>
    have h := ih (by omega)
    have hp := po_pol xs k n
    unfold pl at hp
    rw [if_pos (by omega)] at hp
    exact ⟨fun i => xor_lt (h.1 i) (m_lt _ _), fun i hi => by show _ ^^^ m _ _ = 0; rw [h.2 i hi, hp.2 i hi, zero_m]; rfl⟩
theorem ps_zero (f : Nat → Nat) (hf : ∀ i, f i = 0) (x n : Nat) : ps f x n = 0 := by
  rw [ps_more (f := f) (n := 0) (fun i _ => hf i) x n (by omega)]
  rfl
theorem ps_th {xs ys : Nat → Nat} {n : Nat} (hx : ∀ i, xs i < 256) (hy : ∀ i, ys i < 256) (hd : ∀ i j, i < n → j < n → i ≠ j → xs i ≠ xs j) (k j : Nat) (hk : k ≤ n) (hj : j < n) :
    ps (th xs ys n k) (xs j) n = if j < k then ys j else 0 := by
  induction k with
  | zero => rw [if_neg (by omega)]; exact ps_zero _ (fun _ => rfl) _ _
  | succ k ih =>
    have e : th xs ys n (k + 1) = ad (th xs ys n k) (fun i => m (po xs k n i) (m (ys k) (Gf.inv (un xs k n)))) := rfl
    have hpl : pl k n = n := by unfold pl; rw [if_pos (by omega)]
    rw [e, ps_ad, ih (by omega), ps_scale]
    by_cases h1 : j = k
    · subst h1
      have h2 := ps_po xs j n
      rw [hpl] at h2
      rw [if_neg (by omega), if_pos (by omega), h2, m_left, m_inv (un_lt _ _ _) (un_ne hx (fun i hi hij => hd i j hi hj hij)), m_one (hy j), Nat.zero_xor]
    · have h2 := ps_po_zero xs k n j hj h1
      rw [hpl] at h2
      rw [h2, zero_m, Nat.xor_zero]
      by_cases h3 : j < k
      · rw [if_pos h3, if_pos (by omega)]
      · rw [if_neg h3, if_neg (by omega)]
/-- A polynomial of at most 'n' numbers that is 0 at 'n' places, no two alike, is 0. -/
theorem roots (n : Nat) : ∀ (d xs : Nat → Nat), Pol d n → (∀ i, xs i < 256) → (∀ i j, i < n → j < n → i ≠ j → xs i ≠ xs j) → (∀ i, i < n → ps d (xs i) n = 0) → ∀ i, d i = 0 := by
  induction n with
  | zero => intro d xs hp _ _ _ i; exact hp.2 i (by omega)
  | succ n ih =>
    intro d xs hp hx hd hr
    have hdef : d = lin (xs n) (fun k => hn d (xs n) (n - k) (k + 1)) := by
      funext i
      cases i with
      | zero =>
        have h := hr n (by omega)
        rw [← ev_ps hp.1] at h
        have h2 : m (hn d (xs n) n 1) (xs n) ^^^ d 0 = 0 := h
        exact (xor_eq h2).symm
      | succ i =>
        show d (i + 1) = m (hn d (xs n) (n - (i + 1)) (i + 2)) (xs n) ^^^ hn d (xs n) (n - i) (i + 1)
        by_cases h : i < n
        · rw [show n - i = (n - (i + 1)) + 1 by omega]
          show _ = _ ^^^ (m (hn d (xs n) (n - (i + 1)) (i + 2)) (xs n) ^^^ d (i + 1))
          rw [xor_can]
        · rw [show n - i = 0 by omega, show n - (i + 1) = 0 by omega]
          show d (i + 1) = m 0 _ ^^^ 0
          rw [zero_m, hp.2 (i + 1) (by omega)]
          rfl
    have hq : Pol (fun k => hn d (xs n) (n - k) (k + 1)) n := ⟨fun i => hn_lt hp.1 _ _ _, fun i hi => by show hn d (xs n) (n - i) (i + 1) = 0; rw [show n - i = 0 by omega]; rfl⟩
    generalize (fun k => hn d (xs n) (n - k) (k + 1)) = q at hdef hq
    subst hdef
    have hz := ih q xs hq hx (fun i j hi hj => hd i j (by omega) (by omega)) (fun i hi => by
      have h := hr i (by omega)
      rw [ps_lin' hq] at h
      by_cases h0 : ps q (xs i) n = 0
      · exact h0
      · refine absurd h (m_ne ?_ (xor_lt (hx i) (hx n)) h0 (fun h => hd i n (by omega) (by omega) (by omega) (xor_eq h)))
        rw [← ev_ps hq.1]
        exact hn_lt hq.1 _ _ _)
    intro i
    cases i with
    | zero => show m (q 0) _ = 0; rw [hz, zero_m]
    | succ i => show m (q (i + 1)) _ ^^^ q i = 0; rw [hz, hz, zero_m]; rfl
end Go.Proofs.Ytmggogdnfgkljaa.Gp

/- The two functions that keep a table: powerOfTwo answers the power of two at every number, log the logarithm at every byte number; each makes one new block and turns nothing that was there. -/
namespace Go.Proofs.Ytmggogdnfgkljaa
open Go.ChangeShapes Go.WideShapes Go.ChangeAt Go.RowKit

def expZ : List Int := (List.range 255).map fun i => ((Gf.ex i : Nat) : Int)
def logZ : List Int := (List.range 256).map fun i => ((Gf.lg i : Nat) : Int)
def expV : Array Value := (expZ.map (Value.int .u8)).toArray
def logV : Array Value := (logZ.map (Value.int .u8)).toArray

theorem expV_at {i : Nat} (h : i < 255) : expV[i]? = some (.int .u8 ((Gf.ex i : Nat) : Int)) := by
  unfold expV expZ
  simp [h]
theorem logV_at {i : Nat} (h : i < 256) : logV[i]? = some (.int .u8 ((Gf.lg i : Nat) : Int)) := by
  unfold logV logZ
  simp [h]

set_option maxRecDepth 100000 in
set_option maxHeartbeats 400000 in
theorem pow2_pos (n : Int) (r : Nat) (w : World) (hr : r < 255) (h1 : n.tmod 255 = (r : Int)) :
    Calls Try.prog 113 #[.int .i64 n] w fun e w' => e = .returned (.int .u8 (Gf.ex r : Nat)) ∧ w' = w.alloc (.cells expV 121) := by
  have hc : (w.alloc (.cells expV 121)).cell? ⟨w.heap.size, r, none⟩ = some (.int .u8 (Gf.ex r : Nat)) := by
    rw [cell_of_row _ _ _ _ _ _ (heap_alloc_new w _)]; exact expV_at hr
  go_enter Try.func113, Try.ntmps113
  iterate 11 go_step
  refine wpList_table rfl rfl rfl 121 77 255 _ _ _ .u8 expZ rfl rfl rfl (by kernel_rfl) (by kernel_rfl) (by kernel_rfl) (by kernel_rfl) (by kernel_rfl) 5 3 rfl rfl rfl rfl rfl (by decide) (by simp) (by simp) ?_
  rw [show (expZ.map (Value.int .u8)).toArray = expV from rfl]
  refine wpList_frame (a' := { tmps := #[.int .i64 n, undef, .int .u8 0, .pointer (some ⟨w.heap.size, 0, none⟩), undef, .agg expV, undef, undef, undef, undef, undef, undef, undef, undef, undef], defers := [] }) (by kernel_rfl) ?_
  refine wpList_nil ?_
  go_wp2
  go_ret
  exact ⟨rfl, rfl⟩
set_option maxRecDepth 100000 in
set_option maxHeartbeats 400000 in
theorem pow2_neg (n : Int) (r : Nat) (w : World) (hr : r < 255) (h1 : n.tmod 255 = (r : Int) - 255) :
    Calls Try.prog 113 #[.int .i64 n] w fun e w' => e = .returned (.int .u8 (Gf.ex r : Nat)) ∧ w' = w.alloc (.cells expV 121) := by
  have hc : (w.alloc (.cells expV 121)).cell? ⟨w.heap.size, r, none⟩ = some (.int .u8 (Gf.ex r : Nat)) := by
    rw [cell_of_row _ _ _ _ _ _ (heap_alloc_new w _)]; exact expV_at hr
  go_enter Try.func113, Try.ntmps113
  iterate 11 go_step
  refine wpList_table rfl rfl rfl 121 77 255 _ _ _ .u8 expZ rfl rfl rfl (by kernel_rfl) (by kernel_rfl) (by kernel_rfl) (by kernel_rfl) (by kernel_rfl) 5 3 rfl rfl rfl rfl rfl (by decide) (by simp) (by simp) ?_
  rw [show (expZ.map (Value.int .u8)).toArray = expV from rfl]
  refine wpList_frame (a' := { tmps := #[.int .i64 n, undef, .int .u8 0, .pointer (some ⟨w.heap.size, 0, none⟩), undef, .agg expV, undef, undef, undef, undef, undef, undef, undef, undef, undef], defers := [] }) (by kernel_rfl) ?_
  refine wpList_nil ?_
  go_wp2
  go_ret
  exact ⟨rfl, rfl⟩
theorem pow2_any (n : Int) (w : World) :
    Calls Try.prog 113 #[.int .i64 n] w fun e w' => e = .returned (.int .u8 (Gf.ex (n % 255).toNat : Nat)) ∧ Below w.heap.size w w' := by
  have hr : (n % 255).toNat < 255 := by omega
  have hb : Below w.heap.size w (w.alloc (.cells expV 121)) := (Below.refl _ _).alloc (Nat.le_refl _) _
  have ht := Int.tmod_eq_emod (a := n) (b := 255)
  by_cases h : 0 ≤ n ∨ (255 : Int) ∣ n
  · rw [if_pos h] at ht
    refine (pow2_pos n (n % 255).toNat w hr (by omega)).mono ?_
    rintro e w' ⟨rfl, rfl⟩
    exact ⟨rfl, hb⟩
  · rw [if_neg h] at ht
    refine (pow2_neg n (n % 255).toNat w hr (by simp at ht; omega)).mono ?_
    rintro e w' ⟨rfl, rfl⟩
    exact ⟨rfl, hb⟩

set_option maxRecDepth 100000 in
set_option maxHeartbeats 400000 in
theorem log_any (r : Nat) (w : World) (hr : r < 256) :
    Calls Try.prog 114 #[.int .u8 (r : Int)] w fun e w' => e = .returned (.int .i64 (Gf.lg r : Nat)) ∧ Below w.heap.size w w' := by
  have hc : (w.alloc (.cells logV 122)).cell? ⟨w.heap.size, r, none⟩ = some (.int .u8 (Gf.lg r : Nat)) := by
    rw [cell_of_row _ _ _ _ _ _ (heap_alloc_new w _)]; exact logV_at hr
  have hl := Gf.lg_lt' r
  go_enter Try.func114, Try.ntmps114
  iterate 11 go_step
  refine wpList_table rfl rfl rfl 122 5 256 _ _ _ .u8 logZ rfl rfl rfl (by kernel_rfl) (by kernel_rfl) (by kernel_rfl) (by kernel_rfl) (by kernel_rfl) 4 3 rfl rfl rfl rfl rfl (by decide) (by simp) (by simp) ?_
  rw [show (logZ.map (Value.int .u8)).toArray = logV from rfl]
  refine wpList_frame (a' := { tmps := #[.int .u8 (r : Int), undef, .int .i64 0, .pointer (some ⟨w.heap.size, 0, none⟩), .agg logV, undef, undef, undef, undef], defers := [] }) (by kernel_rfl) ?_
  refine wpList_nil ?_
  go_wp2
  go_ret
  exact ⟨rfl, (Below.refl _ _).alloc (Nat.le_refl _) _⟩
end Go.Proofs.Ytmggogdnfgkljaa

/- What each function of the field answers, in the program and in its model, at every number: sums, products, powers, inverses, quotients, powers of two and logarithms; none turns anything that was there. No condition. -/
namespace Go.Proofs.Ytmggogdnfgkljaa
open Go.ChangeShapes Go.WideShapes Go.ChangeAt Go.RowKit

theorem ret_int {k : IntKind} {a b : Int} (h : a = b) : Ending.returned (.int k a) = .returned (.int k b) := by rw [h]
theorem below3 {a b c d : World} (h1 : Below a.heap.size a b) (h2 : Below b.heap.size b c) (h3 : Below c.heap.size c d) : Below a.heap.size a d :=
  (h1.trans (h2.mono h1.size)).trans (h3.mono (Nat.le_trans h1.size h2.size))
theorem below2 {a b c : World} (h1 : Below a.heap.size a b) (h2 : Below b.heap.size b c) : Below a.heap.size a c :=
  h1.trans (h2.mono h1.size)

theorem ret_bool {a b : Bool} (h : a = b) : Ending.returned (.bool a) = .returned (.bool b) := by rw [h]
theorem xor_i64 (a b : Nat) (ha : a < 4294967296) (hb : b < 4294967296) : bits .xor .i64 (a : Int) (b : Int) = ((a ^^^ b : Nat) : Int) := by
  have hx : a ^^^ b < 2 ^ 32 := Nat.xor_lt_two_pow (by omega) (by omega)
  show IntKind.i64.wrap ((BitVec.ofInt 64 (a : Int) ^^^ BitVec.ofInt 64 (b : Int)).toNat : Int) = _
  rw [BitVec.toNat_xor, ofInt_u64 a (by omega), ofInt_u64 b (by omega), IntKind.wrap_i64]
  omega

/-- A byte number. -/
def isB (a : Int) : Bool := decide (0 ≤ a ∧ a ≤ 255)
theorem isB_nat {a : Int} (h : isB a = true) : ∃ n : Nat, n < 256 ∧ a = (n : Int) := by
  simp [isB] at h
  exact ⟨a.toNat, by omega, by omega⟩
theorem isB_ofNat {n : Nat} (h : n < 256) : isB (n : Int) = true := by simp [isB]; omega
theorem isB_no {a : Int} (h : isB a = false) : a < 0 ∨ 255 < a := by simp [isB] at h; omega

def addI (a b : Int) : Int := if isB a = true ∧ isB b = true then ((a.toNat ^^^ b.toNat : Nat) : Int) else -1
def mulI (a b : Int) : Int := if isB a = true ∧ isB b = true then ((Gf.mul a.toNat b.toNat : Nat) : Int) else -1
def powI (a n : Int) : Int := if isB a = true ∧ 0 ≤ n ∧ n ≤ 1000000 then ((Gf.gpow a.toNat n.toNat : Nat) : Int) else -1
def invI (a : Int) : Int := if 1 ≤ a ∧ a ≤ 255 then ((Gf.inv a.toNat : Nat) : Int) else -1
def divI (a b : Int) : Int := mulI a (invI b)
def expI (n : Int) : Int := ((Gf.ex (n % 255).toNat : Nat) : Int)
def logI (a : Int) : Int := if 1 ≤ a ∧ a ≤ 255 then ((Gf.lg a.toNat : Nat) : Int) else -1

/-! ### The program's small functions -/
set_option maxHeartbeats 400000 in
theorem isByte_any (a : Int) (w : World) : Calls Try.prog 121 #[.int .i64 a] w fun e w' => e = .returned (.bool (isB a)) ∧ w' = w := by
  go_enter Try.func121, Try.ntmps121
  go_wp2
  · go_ret
    exact ⟨ret_bool (by simp [isB, *]), rfl⟩
  · go_ret
    exact ⟨ret_bool (by simp [isB]; omega), rfl⟩

set_option maxHeartbeats 400000 in
theorem plus_any (a b : Nat) (w : World) (ha : a < 256) (hb : b < 256) : Calls Try.prog 79 #[.int .u8 (a : Int), .int .u8 (b : Int)] w fun e w' => e = .returned (.int .u8 ((a ^^^ b : Nat) : Int)) ∧ w' = w := by
  have hx := u8_xor_nat a b ha hb
  go_enter Try.func79, Try.ntmps79
  go_wp2
  go_ret
  exact ⟨rfl, rfl⟩

set_option maxHeartbeats 400000 in
theorem times_any (a b : Nat) (w : World) (ha : a < 256) (hb : b < 256) :
    Calls Try.prog 80 #[.int .u8 (a : Int), .int .u8 (b : Int)] w fun e w' => e = .returned (.int .u8 (Gf.mul a b : Nat)) ∧ Below w.heap.size w w' := by
  by_cases a0 : a = 0
  · subst a0
    have hm := Gf.zero_mul hb
    go_enter Try.func80, Try.ntmps80
    go_wp2
    go_ret
    exact ⟨ret_int (by rw [hm]; rfl), Below.refl _ _⟩
  · have a0' : ((a : Int) == 0) = false := by simp; omega
    by_cases b0 : b = 0
    · subst b0
      have hm := Gf.mul_zero ha
      go_enter Try.func80, Try.ntmps80
      go_wp2
      go_ret
      exact ⟨ret_int (by rw [hm]; rfl), Below.refl _ _⟩
    · have b0' : ((b : Int) == 0) = false := by simp; omega
      have hm : Hid (Gf.mul a b = Gf.ex ((Gf.lg a + Gf.lg b) % 255)) := Gf.mul_nz ha hb a0 b0
      have hl1 := Gf.lg_lt' a
      have hl2 := Gf.lg_lt' b
      go_enter Try.func80, Try.ntmps80
      go_wp2_with fail
      refine (log_any a _ ha).mono ?_
      rintro e w1 ⟨rfl, hb1⟩
      go_wp2_with fail
      refine (log_any b _ hb).mono ?_
      rintro e w2 ⟨rfl, hb2⟩
      go_wp2_with fail
      refine (pow2_any _ _).mono ?_
      rintro e w3 ⟨rfl, hb3⟩
      go_wp2
      go_ret
      exact ⟨ret_int (by rw [hm.out, show (((Gf.lg a : Nat) : Int) + ((Gf.lg b : Nat) : Int)) % 255 = (((Gf.lg a + Gf.lg b) % 255 : Nat) : Int) by omega, Int.toNat_natCast]), below3 hb1 hb2 hb3⟩

set_option maxHeartbeats 400000 in
theorem inverse_any (a : Nat) (w : World) (ha : a < 256) :
    Calls Try.prog 88 #[.int .u8 (a : Int)] w fun e w' => e = .returned (.int .u8 (Gf.inv a : Nat)) ∧ Below w.heap.size w w' := by
  have hl1 := Gf.lg_lt' a
  go_enter Try.func88, Try.ntmps88
  go_wp2_with fail
  refine (log_any a _ ha).mono ?_
  rintro e w1 ⟨rfl, hb1⟩
  go_wp2_with fail
  refine (pow2_any _ _).mono ?_
  rintro e w2 ⟨rfl, hb2⟩
  go_wp2
  go_ret
  refine ⟨ret_int ?_, below2 hb1 hb2⟩
  unfold Gf.inv
  congr 2
  omega

/-! ### The program's functions, at every number -/
/-! ### The model's functions, at every number -/
def inB (x a b : Int) : Bool := decide (a ≤ x ∧ x ≤ b)
set_option maxHeartbeats 400000 in
theorem sIn_any (x a b : Int) (w : World) : Calls Try.prog 75 #[.int .i64 x, .int .i64 a, .int .i64 b] w fun e w' => e = .returned (.bool (inB x a b)) ∧ w' = w := by
  go_enter Try.func75, Try.ntmps75
  go_wp2
  · go_ret
    exact ⟨ret_bool (by simp [inB, *]), rfl⟩
  · go_ret
    exact ⟨ret_bool (by simp [inB]; omega), rfl⟩
set_option maxHeartbeats 400000 in
theorem sIs_any (a : Int) (w : World) : Calls Try.prog 112 #[.int .i64 a] w fun e w' => e = .returned (.bool (isB a)) ∧ w' = w := by
  go_enter Try.func112, Try.ntmps112
  go_wp2_with fail
  refine (sIn_any _ _ _ _).mono ?_
  rintro e w1 ⟨rfl, rfl⟩
  go_wp2
  go_ret
  exact ⟨ret_bool rfl, rfl⟩

end Go.Proofs.Ytmggogdnfgkljaa

/- What the laws' walks are told of a slice of integers that came in. A definition, no claim. -/
namespace Go.Proofs.Ytmggogdnfgkljaa
/-- It is nil, or it leads to a row of 'cap' cells that hold the numbers 'zs'. -/
def IsRow (k : IntKind) (w : World) (a : Option Addr) (len cap : Nat) (zs : List Int) : Prop :=
  (a = none ∧ len = 0 ∧ cap = 0 ∧ zs = []) ∨
  ∃ x, a = some x ∧ len ≤ cap ∧ cap ≤ maxLen ∧ zs.length = cap ∧ (∀ i, i < zs.length → w.cell? (x.add i) = some (.int k (zs.getD i 0))) ∧ ∀ n ∈ zs, (Lit.int k n).wf = true
end Go.Proofs.Ytmggogdnfgkljaa

/- The laws' own helpers over lists of numbers: a copy holds the same numbers in new memory; two lists are told equal just where they are. Condition: no list is longer than 2^20. -/
namespace Go.Proofs.Ytmggogdnfgkljaa
open Go.ChangeShapes Go.WideShapes Go.ChangeAt Go.RowKit

/-- The first 'n' cells behind the address hold the numbers 'zs'. -/
def IntsAt (w : World) (a : Option Addr) (n : Nat) (zs : List Int) : Prop :=
  zs.length = n ∧ ∀ i, i < n → ∃ b off, a = some ⟨b, off, none⟩ ∧ w.cell? ⟨b, off + i, none⟩ = some (.int .i64 (zs.getD i 0))
theorem IntsAt.below {w w' : World} {a : Option Addr} {n : Nat} {zs : List Int} (h : IntsAt w a n zs) (hb : Below w.heap.size w w') : IntsAt w' a n zs := by
  refine ⟨h.1, fun i hi => ?_⟩
  obtain ⟨b, off, e, hc⟩ := h.2 i hi
  exact ⟨b, off, e, (hb.cell (p := ⟨b, off + i, none⟩) (block_lt_of_cell hc)).trans hc⟩
theorem IntsAt.mono {B : Nat} {w w' : World} {a : Option Addr} {n : Nat} {zs : List Int} (h : IntsAt w a n zs) (hb : Below B w w') (hB : ∀ x, a = some x → x.block < B) : IntsAt w' a n zs := by
  refine ⟨h.1, fun i hi => ?_⟩
  obtain ⟨b, off, e, hc⟩ := h.2 i hi
  exact ⟨b, off, e, (hb.cell (p := ⟨b, off + i, none⟩) (show b < B from hB _ e)).trans hc⟩
theorem IntsAt.some {w : World} {a : Option Addr} {n : Nat} {zs : List Int} (h : IntsAt w a n zs) (hn : 0 < n) : ∃ b off, a = some ⟨b, off, none⟩ ∧ ∀ i, i < n → w.cell? ⟨b, off + i, none⟩ = .some (.int .i64 (zs.getD i 0)) := by
  obtain ⟨b, off, e, _⟩ := h.2 0 hn
  refine ⟨b, off, e, fun i hi => ?_⟩
  obtain ⟨b', off', e', hc⟩ := h.2 i hi
  rw [e] at e'
  simp at e'
  obtain ⟨rfl, rfl⟩ := e'
  exact hc
theorem IsRow.ints {w : World} {a : Option Addr} {len cap : Nat} {zs : List Int} (h : IsRow .i64 w a len cap zs) : len ≤ cap ∧ IntsAt w a len (zs.take len) ∧ ∀ n ∈ zs.take len, (Lit.int .i64 n).wf = true := by
  rcases h with ⟨rfl, rfl, rfl, rfl⟩ | ⟨x, rfl, hl, hm, hz, hcell, hwz⟩
  · exact ⟨Nat.le_refl _, ⟨rfl, fun i hi => absurd hi (by omega)⟩, by simp⟩
  · refine ⟨hl, ⟨by rw [List.length_take]; omega, fun i hi => ?_⟩, fun n hn => hwz n (List.mem_of_mem_take hn)⟩
    obtain ⟨b, off, spot⟩ := x
    have hc := hcell i (by omega)
    have hspot : spot = none := by simpa [Addr.add] using World.cell?_spot (hcell 0 (by omega))
    subst hspot
    refine ⟨b, off, rfl, ?_⟩
    have e : (zs.take len).getD i 0 = zs.getD i 0 := by simp [hi]
    rw [e]
    have ea : (⟨b, off, none⟩ : Addr).add i = ⟨b, off + i, none⟩ := by unfold Addr.add; split <;> simp_all
    rw [← ea]
    exact hc
theorem ownsRow.ints {w : World} {B E g n cap : Nat} {zs : List Int} (h : w.ownsRow B E 1 (.slice (some ⟨g, 0, none⟩) n cap) n (zs.map (Value.int .i64))) : IntsAt w (some ⟨g, 0, none⟩) n zs := by
  have hl : zs.length = n := by simpa using h.1
  refine ⟨hl, fun i hi => ⟨g, 0, rfl, ?_⟩⟩
  rw [Nat.zero_add, h.cellAt i (by omega)]
  simp [hl, hi]

theorem ownsRow_below {w w' : World} {B e size n : Nat} {v : Value} {xs : List Value} (h : w.ownsRow B e size v n xs) (hb : Below w.heap.size w w') : w'.ownsRow B e size v n xs := by
  refine ⟨h.1, ?_⟩
  rcases h.2 with h' | ⟨g, cap, cur, h1, h2, h3, h4⟩
  · exact .inl h'
  · refine .inr ⟨g, cap, cur, h1, h2, ?_, h4⟩
    rw [hb.block g (Array.getElem?_eq_some_iff.1 h3).1]
    exact h3
theorem take_snoc (xs : List Int) (k : Nat) (h : k < xs.length) : xs.take (k + 1) = xs.take k ++ [xs.getD k 0] := by
  rw [List.take_succ_eq_append_getElem h]
  simp [h]
theorem Try.infoByte : (Try.prog.info? 5).map (fun i => (i.zero, i.size, i.bytes)) = some (some (.int .u8 0), 1, 1) := by kernel_rfl
theorem Try.infoInt : (Try.prog.info? 3).map (fun i => (i.zero, i.size, i.bytes)) = some (some (.int .i64 0), 1, 8) := by kernel_rfl

theorem copied_set (d : IntKind) (zs : List Int) (n k : Nat) (hn : zs.length = n) (hk : k < n) :
    ((zs.take k ++ List.replicate (n - k) 0).map (Value.int d)).set k (.int d (zs.getD k 0)) = (zs.take (k + 1) ++ List.replicate (n - (k + 1)) 0).map (Value.int d) := by
  apply List.ext_getElem?
  intro j
  simp only [List.getElem?_set, List.getElem?_map, List.getElem?_append, List.length_take, List.length_map, List.length_append, List.length_replicate, List.getElem?_take, List.getElem?_replicate]
  by_cases h1 : k = j
  · subst h1
    simp [hn, hk, show min k n = k by omega, show min (k + 1) n = k + 1 by omega, show k < k + (n - k) by omega]
  · by_cases h2 : j < k
    · simp [h1, h2, hn, show j < min k n by omega, show j < min (k + 1) n by omega, show j < k + 1 by omega]
    · by_cases h3 : j < n
      · simp [h1, hn, show ¬ j < min k n by omega, show ¬ j < min (k + 1) n by omega, show j - min k n < n - k by omega, show j - min (k + 1) n < n - (k + 1) by omega]
      · simp [h1, hn, show ¬ j < min k n by omega, show ¬ j < min (k + 1) n by omega, show ¬ j - min k n < n - k by omega, show ¬ j - min (k + 1) n < n - (k + 1) by omega]

set_option maxHeartbeats 1000000 in
theorem toIntS_any (a : Option Addr) (n cap : Nat) (zs : List Int) (w : World) (h : IntsAt w a n zs) (hn : n ≤ 1048576) :
    Calls Try.prog 58 #[.slice a n cap] w fun e w' => e = .returned (.slice (some ⟨w.heap.size, 0, none⟩) n n) ∧ w'.ownsRow w.heap.size 3 1 (.slice (some ⟨w.heap.size, 0, none⟩) n n) n (zs.map (Value.int .i64)) ∧ Below w.heap.size w w' := by
  obtain ⟨i0, hi, hz0, hz1, hz2⟩ := info_parts Try.infoInt
  obtain ⟨hlen, hcells⟩ := h
  have HL : Hid (zs.length = n) := hlen
  clear hlen
  go_enter Try.func58, Try.ntmps58
  go_wp2_with (at_make; refine wpList_make_full _ rfl _ _ 31 rfl w.heap.size 3 i0 (.int .i64 0) 1 Try.underlying31 hi hz0 hz1 .i64 .i64 _ _ n rfl rfl rfl rfl (by rw [hz2]; omega) (by unfold maxLen; omega) (Nat.le_refl _) ?_; intro w1 hown hgrow)
  have hb1 : Below w.heap.size w w1 := (Below.refl _ _).grown hgrow (Nat.le_refl _) (by simp)
  have ho1 : w1.ownsRow w.heap.size 3 1 (.slice (some ⟨w.heap.size, 0, none⟩) n n) n ((zs.take 0 ++ List.replicate (n - 0) 0).map (Value.int .i64)) := by
    simpa [Value.cells, toList_madeCells_one] using hown
  clear hown hgrow
  go_loopw [4] (fun i wr => ∃ k : Nat, k ≤ n ∧ i = .int .i64 k ∧ wr.ownsRow w.heap.size 3 1 (.slice (some ⟨w.heap.size, 0, none⟩) n n) n ((zs.take k ++ List.replicate (n - k) 0).map (Value.int .i64)) ∧ Below w.heap.size w wr) (fun i _ => n - (intOf i).toNat)
  case atStart => exact ⟨0, Nat.zero_le _, rfl, ho1, hb1⟩
  case round =>
    obtain ⟨k, hk, rfl, hown, hbel⟩ := hrel
    clear ho1 hb1
    by_cases hlt : k < n
    · obtain ⟨b, off, rfl, hc⟩ := hcells k hlt
      have hcx : wr.cell? ⟨b, off + k, none⟩ = some (.int .i64 (zs.getD k 0)) := (hbel.cell (p := ⟨b, off + k, none⟩) (block_lt_of_cell hc)).trans hc
      obtain ⟨old, hold⟩ : ∃ v, wr.cell? ⟨w.heap.size, k, none⟩ = some v := by
        rw [hown.cellAt k (by omega)]
        exact ⟨_, List.getElem?_eq_getElem (by rw [hown.1]; omega)⟩
      have hfr := hown.frozenAt k
      have hst := hown.stored k (.int .i64 (zs.getD k 0))
      rw [copied_set .i64 zs n k HL.out hlt] at hst
      have hne : Below w.heap.size w (wr.setCell ⟨w.heap.size, k, none⟩ (.int .i64 (zs.getD k 0))) := hbel.setCell (Nat.le_refl _) _
      have HO : Hid _ := hst.1
      clear hst hown hcells hc
      go_wp2
      go_roundw
      case rel => exact ⟨k + 1, by omega, by go_num, HO.out, hne⟩
      case measure => simp [intOf]; omega
    · have e : k = n := by omega
      subst e
      go_wp2
      go_ret
      refine ⟨rfl, ?_, hbel⟩
      have e2 : zs.take k ++ List.replicate (k - k) 0 = zs := by rw [List.take_of_length_le (by rw [HL.out]; omega)]; simp
      rw [e2] at hown
      exact hown
end Go.Proofs.Ytmggogdnfgkljaa

/- What the model's functions with loops answer at every number: products, powers, inverses, quotients, powers of two and logarithms; none turns anything that was there. No condition. -/
namespace Go.Proofs.Ytmggogdnfgkljaa
open Go.ChangeShapes Go.WideShapes Go.ChangeAt Go.RowKit

theorem pea_step (k A B X : Nat) : Gf.pea (k + 1) A B X = Gf.pea k (Gf.dbl A) (B / 2) (if B % 2 = 1 then X ^^^ A else X) := rfl

set_option maxHeartbeats 1000000 in
theorem sMul_nat (a b : Nat) (w : World) (ha : a < 256) (hb : b < 256) :
    Calls Try.prog 111 #[.int .i64 (a : Int), .int .i64 (b : Int)] w fun e w' => e = .returned (.int .i64 (Gf.mul a b : Nat)) ∧ w' = w := by
  have ia := isB_ofNat ha
  have ib := isB_ofNat hb
  go_enter Try.func111, Try.ntmps111
  go_wp2_with (go_at_call 112; refine (sIs_any _ _).mono ?_; rintro e w' ⟨rfl, rfl⟩)
  go_loop [0, 1, 5] (fun p q r => ∃ A B X k : Nat, A < 256 ∧ X < 256 ∧ k ≤ 8 ∧ B < 2 ^ k ∧ Hid (Gf.pea k A B X = Gf.mul a b) ∧ p = .int .i64 A ∧ q = .int .i64 B ∧ r = .int .i64 X) (fun _ q _ => (intOf q).toNat)
  case atStart => exact ⟨a, b, 0, 8, ha, by omega, by omega, by omega, rfl, rfl, rfl, rfl⟩
  case round =>
    obtain ⟨A, B, X, k, hA, hX, hk, hB, HP, rfl, rfl, rfl⟩ := hrel
    clear ia ib
    have hB8 : B < 256 := Nat.lt_of_lt_of_le hB (Nat.pow_le_pow_right (by omega) hk)
    by_cases hz : B = 0
    · subst hz
      go_wp2
      go_ret
      exact ⟨ret_int (by rw [← HP.out, Gf.pea_zero]), rfl⟩
    · obtain ⟨j, rfl⟩ : ∃ j, k = j + 1 := ⟨k - 1, by
        rcases Nat.eq_zero_or_pos k with h | h
        · subst h; simp at hB; omega
        · omega⟩
      have hpos : 0 < (B : Int) := by omega
      have hB2 : Hid (B / 2 < 2 ^ j) := by
        have : B < 2 ^ j * 2 := by rw [← Nat.pow_succ]; exact hB
        show B / 2 < 2 ^ j
        omega
      clear hB
      have hxa : bits .xor .i64 (X : Int) (A : Int) = ((X ^^^ A : Nat) : Int) := xor_i64 X A (by omega) (by omega)
      have hxs : bits .xor .i64 (2 * (A : Int)) 285 = (((2 * A) ^^^ 285 : Nat) : Int) := by
        have := xor_i64 (2 * A) 285 (by omega) (by omega)
        simpa using this
      have hlt : Hid (X ^^^ A < 256) := Gf.xor_lt hX hA
      have hdl : Hid (Gf.dbl A < 256) := Gf.dbl_lt hA
      by_cases ho : B % 2 = 1
      · have ho' : ((B : Int) % 2 == 1) = true := by simp; omega
        by_cases hg : 255 < 2 * A
        · have hg' : 255 < 2 * (A : Int) := by omega
          have hd : Hid (Gf.dbl A = (2 * A) ^^^ 285) := by show Gf.dbl A = _; simp [Gf.dbl, hg]
          go_wp2
          go_round
          case rel => exact ⟨Gf.dbl A, B / 2, X ^^^ A, j, hdl.out, hlt.out, by omega, hB2.out, by have h := HP.out; rw [pea_step, if_pos ho] at h; exact h, by rw [hd.out], by go_num, rfl⟩
          case measure => simp [intOf]; omega
        · have hg' : ¬ 255 < 2 * (A : Int) := by omega
          have hd : Hid (Gf.dbl A = 2 * A) := by show Gf.dbl A = _; simp [Gf.dbl, hg]
          go_wp2
          go_round
          case rel => exact ⟨Gf.dbl A, B / 2, X ^^^ A, j, hdl.out, hlt.out, by omega, hB2.out, by have h := HP.out; rw [pea_step, if_pos ho] at h; exact h, by rw [hd.out]; go_num, by go_num, rfl⟩
          case measure => simp [intOf]; omega
      · have ho' : ((B : Int) % 2 == 1) = false := by simp; omega
        by_cases hg : 255 < 2 * A
        · have hg' : 255 < 2 * (A : Int) := by omega
          have hd : Hid (Gf.dbl A = (2 * A) ^^^ 285) := by show Gf.dbl A = _; simp [Gf.dbl, hg]
          go_wp2
          go_round
          case rel => exact ⟨Gf.dbl A, B / 2, X, j, hdl.out, hX, by omega, hB2.out, by have h := HP.out; rw [pea_step, if_neg ho] at h; exact h, by rw [hd.out], by go_num, rfl⟩
          case measure => simp [intOf]; omega
        · have hg' : ¬ 255 < 2 * (A : Int) := by omega
          have hd : Hid (Gf.dbl A = 2 * A) := by show Gf.dbl A = _; simp [Gf.dbl, hg]
          go_wp2
          go_round
          case rel => exact ⟨Gf.dbl A, B / 2, X, j, hdl.out, hX, by omega, hB2.out, by have h := HP.out; rw [pea_step, if_neg ho] at h; exact h, by rw [hd.out]; go_num, by go_num, rfl⟩
          case measure => simp [intOf]; omega

set_option maxHeartbeats 400000 in
theorem sMul_any (a b : Int) (w : World) : Calls Try.prog 111 #[.int .i64 a, .int .i64 b] w fun e w' => e = .returned (.int .i64 (mulI a b)) ∧ w' = w := by
  by_cases ha : isB a = true
  · by_cases hb : isB b = true
    · obtain ⟨A, hA, rfl⟩ := isB_nat ha
      obtain ⟨B, hB, rfl⟩ := isB_nat hb
      refine (sMul_nat A B w hA hB).mono ?_
      rintro e w' ⟨rfl, rfl⟩
      exact ⟨ret_int (by simp [mulI, ha, hb]), rfl⟩
    · have hb' : isB b = false := by simpa using hb
      go_enter Try.func111, Try.ntmps111
      go_wp2_with (go_at_call 112; refine (sIs_any _ _).mono ?_; rintro e w' ⟨rfl, rfl⟩)
      go_ret
      exact ⟨ret_int (by simp [mulI, hb]), rfl⟩
  · have ha' : isB a = false := by simpa using ha
    go_enter Try.func111, Try.ntmps111
    go_wp2_with (go_at_call 112; refine (sIs_any _ _).mono ?_; rintro e w' ⟨rfl, rfl⟩)
    go_ret
    exact ⟨ret_int (by simp [mulI, ha]), rfl⟩

set_option maxHeartbeats 1000000 in
theorem sPow_nat (a n : Nat) (w : World) (ha : a < 256) (hn : n ≤ 1000000) :
    Calls Try.prog 117 #[.int .i64 (a : Int), .int .i64 (n : Int)] w fun e w' => e = .returned (.int .i64 (Gf.gpow a n : Nat)) ∧ w' = w := by
  have ia := isB_ofNat ha
  have ib : inB (n : Int) 0 1000000 = true := by simp [inB]; omega
  go_enter Try.func117, Try.ntmps117
  go_wp2_with (first | (go_at_call 112; refine (sIs_any _ _).mono ?_; rintro e w' ⟨rfl, rfl⟩) | (go_at_call 75; refine (sIn_any _ _ _ _).mono ?_; rintro e w' ⟨rfl, rfl⟩))
  go_loop [0, 1, 5] (fun p q r => ∃ A N X : Nat, A < 256 ∧ X < 256 ∧ N ≤ 1000000 ∧ Hid (Gf.mul X (Gf.gpow A N) = Gf.gpow a n) ∧ p = .int .i64 A ∧ q = .int .i64 N ∧ r = .int .i64 X) (fun _ q _ => (intOf q).toNat)
  case atStart => exact ⟨a, n, 1, ha, by omega, hn, Gf.one_mul (Gf.gpow_lt _ _), rfl, rfl, rfl⟩
  case round =>
    obtain ⟨A, N, X, hA, hX, hN, HP, rfl, rfl, rfl⟩ := hrel
    clear ia ib
    by_cases hz : N = 0
    · subst hz
      go_wp2
      go_ret
      exact ⟨ret_int (by rw [← HP.out, Gf.gpow_zero, Gf.mul_one hX]), rfl⟩
    · have hpos : 0 < (N : Int) := by omega
      have hr : Hid (Gf.mul (if N % 2 = 1 then Gf.mul X A else X) (Gf.gpow (Gf.mul A A) (N / 2)) = Gf.gpow a n) := by
        show _ = _
        rw [Gf.gpow_round hA hX (by omega)]; exact HP.out
      have h1 : Hid (Gf.mul A A < 256) := Gf.mul_lt hA hA
      have h2 : Hid (Gf.mul X A < 256) := Gf.mul_lt hX hA
      by_cases ho : N % 2 = 1
      · have ho' : ((N : Int) % 2 == 1) = true := by simp; omega
        go_wp2_with fail
        refine (sMul_nat X A _ hX hA).mono ?_
        rintro e w1 ⟨rfl, rfl⟩
        go_wp2_with fail
        refine (sMul_nat A A _ hA hA).mono ?_
        rintro e w1 ⟨rfl, rfl⟩
        go_wp2
        go_round
        case rel => exact ⟨Gf.mul A A, N / 2, Gf.mul X A, h1.out, h2.out, by omega, by have h := hr.out; rw [if_pos ho] at h; exact h, rfl, by go_num, rfl⟩
        case measure => simp [intOf]; omega
      · have ho' : ((N : Int) % 2 == 1) = false := by simp; omega
        go_wp2_with fail
        refine (sMul_nat A A _ hA hA).mono ?_
        rintro e w1 ⟨rfl, rfl⟩
        go_wp2
        go_round
        case rel => exact ⟨Gf.mul A A, N / 2, X, h1.out, hX, by omega, by have h := hr.out; rw [if_neg ho] at h; exact h, rfl, by go_num, rfl⟩
        case measure => simp [intOf]; omega

set_option maxHeartbeats 400000 in
theorem sPow_any (a n : Int) (w : World) : Calls Try.prog 117 #[.int .i64 a, .int .i64 n] w fun e w' => e = .returned (.int .i64 (powI a n)) ∧ w' = w := by
  by_cases ha : isB a = true
  · by_cases hb : inB n 0 1000000 = true
    · obtain ⟨A, hA, rfl⟩ := isB_nat ha
      simp [inB] at hb
      obtain ⟨M, rfl⟩ := Int.eq_ofNat_of_zero_le hb.1
      refine (sPow_nat A M w hA (by omega)).mono ?_
      rintro e w' ⟨rfl, rfl⟩
      exact ⟨ret_int (by simp only [powI]; rw [if_pos ⟨ha, by omega, by omega⟩]; simp), rfl⟩
    · have hb' : inB n 0 1000000 = false := by simpa using hb
      have hb2 : ¬ (0 ≤ n ∧ n ≤ 1000000) := by simpa [inB] using hb
      go_enter Try.func117, Try.ntmps117
      go_wp2_with (first | (go_at_call 112; refine (sIs_any _ _).mono ?_; rintro e w' ⟨rfl, rfl⟩) | (go_at_call 75; refine (sIn_any _ _ _ _).mono ?_; rintro e w' ⟨rfl, rfl⟩))
      go_ret
      exact ⟨ret_int (by simp only [powI]; rw [if_neg (fun h => hb2 h.2)]), rfl⟩
  · have ha' : isB a = false := by simpa using ha
    go_enter Try.func117, Try.ntmps117
    go_wp2_with (first | (go_at_call 112; refine (sIs_any _ _).mono ?_; rintro e w' ⟨rfl, rfl⟩) | (go_at_call 75; refine (sIn_any _ _ _ _).mono ?_; rintro e w' ⟨rfl, rfl⟩))
    go_ret
    exact ⟨ret_int (by simp [powI, ha]), rfl⟩

set_option maxHeartbeats 400000 in
theorem sInv_any (a : Int) (w : World) : Calls Try.prog 89 #[.int .i64 a] w fun e w' => e = .returned (.int .i64 (invI a)) ∧ w' = w := by
  by_cases h : 1 ≤ a ∧ a ≤ 255
  · have hi : inB a 1 255 = true := by simp [inB, h]
    have hv : Hid (powI a 254 = invI a) := by
      show _ = _
      simp only [powI, invI]
      rw [if_pos ⟨by simp [isB]; omega, by omega, by omega⟩, if_pos h, show Int.toNat 254 = 254 from rfl, Gf.gpow_inv (by omega) (by omega)]
    go_enter Try.func89, Try.ntmps89
    go_wp2_with (first | (go_at_call 75; refine (sIn_any _ _ _ _).mono ?_; rintro e w' ⟨rfl, rfl⟩) | (go_at_call 117; refine (sPow_any _ _ _).mono ?_; rintro e w' ⟨rfl, rfl⟩))
    go_ret
    exact ⟨ret_int hv.out, rfl⟩
  · have hi : inB a 1 255 = false := by simp [inB]; omega
    go_enter Try.func89, Try.ntmps89
    go_wp2_with (go_at_call 75; refine (sIn_any _ _ _ _).mono ?_; rintro e w' ⟨rfl, rfl⟩)
    go_ret
    exact ⟨ret_int (by simp only [invI]; rw [if_neg h]), rfl⟩

theorem expI_nat {k : Nat} (h : k < 255) : expI (k : Int) = ((Gf.ex k : Nat) : Int) := by
  unfold expI
  congr 2
  omega

end Go.Proofs.Ytmggogdnfgkljaa

/- The sum of products of two lists, in the program and in its model, and the laws' test of two lists. Condition: lists of at most 2^20 numbers. -/
namespace Go.Proofs.Ytmggogdnfgkljaa
open Go.ChangeShapes Go.WideShapes Go.ChangeAt Go.RowKit

def dotGo (xs ys : List Int) : Nat → Nat → Nat → Int
  | 0, _, x => (x : Int)
  | m + 1, k, x => if isB (xs.getD k 0) = true ∧ isB (ys.getD k 0) = true then dotGo xs ys m (k + 1) (x ^^^ Gf.mul (xs.getD k 0).toNat (ys.getD k 0).toNat) else -1
def dotI (xs ys : List Int) : Int := if xs.length = ys.length then dotGo xs ys xs.length 0 0 else -1

theorem dotGo_yes {xs ys : List Int} {n k X : Nat} (hk : k < n) {x y : Nat} (hx : (x : Int) = xs.getD k 0) (hy : (y : Int) = ys.getD k 0) (bx : x < 256) (bY : y < 256) :
    dotGo xs ys (n - k) k X = dotGo xs ys (n - (k + 1)) (k + 1) (X ^^^ Gf.mul x y) := by
  rw [show n - k = (n - (k + 1)) + 1 by omega]
  simp only [dotGo]
  rw [← hx, ← hy, if_pos ⟨isB_ofNat bx, isB_ofNat bY⟩]
  simp
theorem dotGo_no {xs ys : List Int} {n k X : Nat} (hk : k < n) (h : isB (xs.getD k 0) = false ∨ isB (ys.getD k 0) = false) : dotGo xs ys (n - k) k X = -1 := by
  rw [show n - k = (n - (k + 1)) + 1 by omega]
  simp only [dotGo]
  rw [if_neg]
  rintro ⟨h1, h2⟩
  rcases h with h | h
  · rw [h] at h1; cases h1
  · rw [h] at h2; cases h2

set_option maxHeartbeats 1000000 in
theorem eqIntS_same (a b : Option Addr) (n ca cb : Nat) (zs : List Int) (w : World) (ha : IntsAt w a n zs) (hb : IntsAt w b n zs) (hn : n ≤ 1048576) :
    Calls Try.prog 60 #[.slice a n ca, .slice b n cb] w fun e w' => e = .returned (.bool true) ∧ Below w.heap.size w w' := by
  go_enter Try.func60, Try.ntmps60
  go_wp2
  go_loopw [5] (fun i wr => ∃ k : Nat, k ≤ n ∧ i = .int .i64 k ∧ Below w.heap.size w wr) (fun i _ => n - (intOf i).toNat)
  case atStart => exact ⟨0, Nat.zero_le _, rfl, Below.refl _ _⟩
  case round =>
    obtain ⟨k, hk, rfl, hbel⟩ := hrel
    have ha' := ha.below hbel
    have hb' := hb.below hbel
    clear ha hb
    by_cases hlt : k < n
    · obtain ⟨ba, oa, rfl, hca⟩ := ha'.2 k hlt
      obtain ⟨bb, ob, rfl, hcb⟩ := hb'.2 k hlt
      clear ha' hb'
      obtain ⟨x, HX⟩ : ∃ x, x = zs.getD k 0 := ⟨_, rfl⟩
      rw [← HX] at hca hcb
      clear HX
      go_wp2
      go_quiet (fail)
      go_wp2
      go_roundw
      case rel => exact ⟨k + 1, by omega, by go_num, below_drewN hbel _⟩
      case measure => simp [intOf]; omega
    · go_wp2
      go_ret
      exact ⟨rfl, hbel⟩

set_option maxHeartbeats 1000000 in
theorem sDot_same (a b : Option Addr) (n ca cb : Nat) (xs ys : List Int) (w : World) (ha : IntsAt w a n xs) (hb : IntsAt w b n ys) (hn : n ≤ 1048576) :
    Calls Try.prog 84 #[.slice a n ca, .slice b n cb] w fun e w' => e = .returned (.int .i64 (dotGo xs ys n 0 0)) ∧ Below w.heap.size w w' := by
  go_enter Try.func84, Try.ntmps84
  go_wp2
  go_loopw [5, 6] (fun s i wr => ∃ k X : Nat, k ≤ n ∧ X < 256 ∧ s = .int .i64 X ∧ i = .int .i64 k ∧ Hid (dotGo xs ys (n - k) k X = dotGo xs ys n 0 0) ∧ Below w.heap.size w wr) (fun _ i _ => n - (intOf i).toNat)
  case atStart => exact ⟨0, 0, Nat.zero_le _, by omega, rfl, rfl, rfl, Below.refl _ _⟩
  case round =>
    obtain ⟨k, X, hk, hX, rfl, rfl, HD, hbel⟩ := hrel
    have ha' := ha.below hbel
    have hb' := hb.below hbel
    clear ha hb
    by_cases hlt : k < n
    · obtain ⟨ba, oa, rfl, hca⟩ := ha'.2 k hlt
      obtain ⟨bb, ob, rfl, hcb⟩ := hb'.2 k hlt
      clear ha' hb'
      obtain ⟨x, HX⟩ : ∃ x, Hid (x = xs.getD k 0) := ⟨_, rfl⟩
      obtain ⟨y, HY⟩ : ∃ y, Hid (y = ys.getD k 0) := ⟨_, rfl⟩
      rw [← HX.out] at hca
      rw [← HY.out] at hcb
      by_cases hq : isB x = true ∧ isB y = true
      · obtain ⟨A, hA, rfl⟩ := isB_nat hq.1
        obtain ⟨B, hB, rfl⟩ := isB_nat hq.2
        have hm : mulI (A : Int) (B : Int) = ((Gf.mul A B : Nat) : Int) := by simp [mulI, hq]
        have hml := Gf.mul_lt hA hB
        have hst : Hid (dotGo xs ys (n - (k + 1)) (k + 1) (X ^^^ Gf.mul A B) = dotGo xs ys n 0 0) := by
          show _ = _
          rw [← HD.out, dotGo_yes hlt HX.out HY.out hA hB]
        have hxl : Hid (X ^^^ Gf.mul A B < 256) := Gf.xor_lt hX hml
        have hxr := xor_i64 X (Gf.mul A B) (by omega) (by omega)
        clear hq
        go_wp2
        go_quiet ((go_at_call 111; exact Calls.quiet_of_same (sMul_any _ _ _)))
        go_wp2
        go_roundw
        case rel => exact ⟨k + 1, X ^^^ Gf.mul A B, by omega, hxl.out, rfl, by go_num, hst.out, below_drewN hbel _⟩
        case measure => simp [intOf]; omega
      · have hm : mulI x y = -1 := by simp only [mulI]; rw [if_neg hq]
        have hno : Hid (dotGo xs ys (n - k) k X = -1) := by
          refine dotGo_no hlt ?_
          rw [← HX.out, ← HY.out]
          by_cases h1 : isB x = true
          · right
            simpa [h1] using hq
          · left
            simpa using h1
        clear hq
        go_wp2
        go_quiet ((go_at_call 111; exact Calls.quiet_of_same (sMul_any _ _ _)))
        go_wp2
        go_ret
        exact ⟨ret_int (by rw [← HD.out, hno.out]), below_drewN hbel _⟩
    · have e : k = n := by omega
      subst e
      go_wp2
      go_ret
      exact ⟨ret_int (by rw [← HD.out, Nat.sub_self]; rfl), hbel⟩

theorem sDot_any (a b : Option Addr) (n m ca cb : Nat) (xs ys : List Int) (w : World) (ha : IntsAt w a n xs) (hb : IntsAt w b m ys) (hn : n ≤ 1048576) (hm : m ≤ 1048576) :
    Calls Try.prog 84 #[.slice a n ca, .slice b m cb] w fun e w' => e = .returned (.int .i64 (dotI xs ys)) ∧ Below w.heap.size w w' := by
  by_cases h : n = m
  · subst h
    refine (sDot_same a b n ca cb xs ys w ha hb hn).mono ?_
    rintro e w' ⟨rfl, hbel⟩
    exact ⟨ret_int (by simp [dotI, ha.1, hb.1]), hbel⟩
  · have hne : ((n : Int) != (m : Int)) = true := by simp; omega
    have hd : Hid (dotI xs ys = -1) := by show _ = _; simp [dotI, ha.1, hb.1, h]
    clear ha hb h
    go_enter Try.func84, Try.ntmps84
    go_wp2
    go_ret
    exact ⟨ret_int hd.out.symm, Below.refl _ _⟩
end Go.Proofs.Ytmggogdnfgkljaa

/- Rows of byte numbers in memory, as the program's polynomials lie there; and the program's small functions over them: reading, trimming, numbers, putting one scaled on top of another, values. Conditions: lists of at most 2^20 numbers. -/
namespace Go.Proofs.Ytmggogdnfgkljaa
open Go.ChangeShapes Go.WideShapes Go.ChangeAt Go.RowKit

theorem Try.infoElem : (Try.prog.info? 77).map (fun i => (i.zero, i.size, i.bytes)) = some (some (.int .u8 0), 1, 1) := by kernel_rfl

/-- The first 'n' numbers of 'f'. -/
def eI (f : Nat → Nat) (n : Nat) : List Int := (List.range n).map fun i => ((f i : Nat) : Int)
theorem eI_len (f : Nat → Nat) (n : Nat) : (eI f n).length = n := by simp [eI]
theorem eI_get (f : Nat → Nat) (n i : Nat) (h : i < n) : (eI f n)[i]? = some ((f i : Nat) : Int) := by simp [eI, h]
theorem eI_getD (f : Nat → Nat) (n i : Nat) (h : i < n) : (eI f n).getD i 0 = ((f i : Nat) : Int) := by simp [List.getD, eI_get f n i h]
theorem eI_congr {f g : Nat → Nat} {n : Nat} (h : ∀ i, i < n → f i = g i) : eI f n = eI g n := by
  unfold eI
  apply List.map_congr_left
  intro i hi
  rw [h i (List.mem_range.1 hi)]
theorem eI_ext {zs : List Int} {f : Nat → Nat} {n : Nat} (hl : zs.length = n) (h : ∀ i, i < n → zs.getD i 0 = ((f i : Nat) : Int)) : zs = eI f n := by
  apply List.ext_getElem?
  intro i
  by_cases hi : i < n
  · have h1 := h i hi
    rw [eI_get f n i hi]
    have h2 : i < zs.length := by omega
    rw [List.getElem?_eq_getElem h2]
    simp [List.getD, List.getElem?_eq_getElem h2] at h1
    rw [h1]
  · rw [List.getElem?_eq_none (by omega), List.getElem?_eq_none (by rw [eI_len]; omega)]
theorem eI_take (f : Nat → Nat) (n k : Nat) (h : k ≤ n) : (eI f n).take k = eI f k := by
  apply eI_ext
  · rw [List.length_take, eI_len]; omega
  · intro i hi
    rw [← eI_getD f n i (by omega)]
    simp [List.getD, hi]
theorem eI_set (f : Nat → Nat) (n k v : Nat) (d : IntKind) (h : k < n) : ((eI f n).map (Value.int d)).set k (.int d (v : Int)) = (eI (fun i => if i = k then v else f i) n).map (Value.int d) := by
  apply List.ext_getElem?
  intro i
  rw [List.getElem?_set]
  by_cases hi : i < n
  · by_cases e : k = i
    · subst e
      simp [eI, h]
    · simp [eI, hi, e, Ne.symm e]
  · by_cases e : k = i
    · omega
    · rw [if_neg e, List.getElem?_eq_none (by simp [eI_len]; omega), List.getElem?_eq_none (by simp [eI_len]; omega)]
theorem eI_const {f : Nat → Nat} (n v : Nat) (h : ∀ i, i < n → f i = v) : eI f n = List.replicate n (v : Int) := by
  symm
  apply eI_ext
  · simp
  · intro i hi
    rw [h i hi]
    simp [List.getD, hi]
/-- A list's numbers, as a polynomial's. -/
def coP (zs : List Int) (i : Nat) : Nat := (zs.getD i 0).toNat

/-- A slice of byte numbers that holds 'f'. -/
def Els (w : World) (a : Option Addr) (n cap : Nat) (f : Nat → Nat) : Prop :=
  n ≤ cap ∧ ((a = none ∧ n = 0 ∧ cap = 0) ∨ ∃ b, a = some ⟨b, 0, none⟩ ∧ b < w.heap.size ∧ ∀ i, i < n → w.cell? ⟨b, i, none⟩ = some (.int .u8 ((f i : Nat) : Int)))
theorem Els.below {w w' : World} {a : Option Addr} {n cap : Nat} {f : Nat → Nat} (h : Els w a n cap f) (hb : Below w.heap.size w w') : Els w' a n cap f := by
  refine ⟨h.1, ?_⟩
  rcases h.2 with h' | ⟨b, e, hl, hc⟩
  · exact .inl h'
  · exact .inr ⟨b, e, Nat.lt_of_lt_of_le hl hb.size, fun i hi => (hb.cell (p := ⟨b, i, none⟩) (block_lt_of_cell (hc i hi))).trans (hc i hi)⟩
theorem Els.grown {w w' : World} {a : Option Addr} {n cap g : Nat} {f : Nat → Nat} (h : Els w a n cap f) (hg : w.grownBy w' (some g)) (hn : ∀ b, a = some ⟨b, 0, none⟩ → b ≠ g) : Els w' a n cap f := by
  refine ⟨h.1, ?_⟩
  rcases h.2 with h' | ⟨b, e, hl, hc⟩
  · exact .inl h'
  · exact .inr ⟨b, e, Nat.lt_of_lt_of_le hl hg.size, fun i hi => hg.cell (hc i hi) (by simpa using hn b e)⟩
theorem Els.at {w : World} {a : Option Addr} {n cap i : Nat} {f : Nat → Nat} (h : Els w a n cap f) (hi : i < n) : ∃ b, a = some ⟨b, 0, none⟩ ∧ w.cell? ⟨b, i, none⟩ = some (.int .u8 ((f i : Nat) : Int)) := by
  rcases h.2 with h' | ⟨b, e, _, hc⟩
  · omega
  · exact ⟨b, e, hc i hi⟩
theorem Els.lt {w : World} {a : Option Addr} {n cap : Nat} {f : Nat → Nat} (h : Els w a n cap f) : ∀ b, a = some ⟨b, 0, none⟩ → b < w.heap.size := by
  intro b e
  rcases h.2 with ⟨h', _⟩ | ⟨b', e', hl, _⟩
  · rw [h'] at e; cases e
  · rw [e'] at e; cases e; exact hl
theorem Els.off {w : World} {a : Option Addr} {n cap g : Nat} {f : Nat → Nat} (h : Els w a n cap f) (hg : w.heap.size ≤ g) : ∀ b, a = some ⟨b, 0, none⟩ → b ≠ g := fun b e => by
  have := h.lt b e
  omega
theorem Els.less {w : World} {a : Option Addr} {n cap k : Nat} {f : Nat → Nat} (h : Els w a n cap f) (hk : k ≤ n) : Els w a k cap f := by
  refine ⟨Nat.le_trans hk h.1, ?_⟩
  rcases h.2 with ⟨h1, h2, h3⟩ | ⟨b, e, hl, hc⟩
  · exact .inl ⟨h1, by omega, h3⟩
  · exact .inr ⟨b, e, hl, fun i hi => hc i (by omega)⟩
theorem Els.nil (w : World) (f : Nat → Nat) : Els w none 0 0 f := ⟨Nat.le_refl _, .inl ⟨rfl, rfl, rfl⟩⟩
theorem Els.congr {w : World} {a : Option Addr} {n cap : Nat} {f g : Nat → Nat} (h : Els w a n cap f) (e : ∀ i, i < n → f i = g i) : Els w a n cap g := by
  refine ⟨h.1, ?_⟩
  rcases h.2 with h' | ⟨b, ea, hl, hc⟩
  · exact .inl h'
  · exact .inr ⟨b, ea, hl, fun i hi => by rw [hc i hi, e i hi]⟩
/-- A row of ours. -/
def OwnU (w : World) (B g n cap : Nat) (f : Nat → Nat) : Prop := w.ownsRow B 77 1 (.slice (some ⟨g, 0, none⟩) n cap) n ((eI f n).map (Value.int .u8))
theorem OwnU.els {w : World} {B g n cap : Nat} {f : Nat → Nat} (h : OwnU w B g n cap f) : Els w (some ⟨g, 0, none⟩) n cap f := by
  have hc : n ≤ cap := by
    rcases h.2 with h' | ⟨g', cap', cur, e, _, _, hn, _⟩
    · cases h'.1
    · cases e; exact hn
  refine ⟨hc, .inr ⟨g, rfl, (World.ownsRow.lt h g rfl).2, fun i hi => ?_⟩⟩
  rw [World.ownsRow.cellAt h i (by omega)]
  simp [eI, hi]
theorem OwnU.lt {w : World} {B g n cap : Nat} {f : Nat → Nat} (h : OwnU w B g n cap f) : B ≤ g ∧ g < w.heap.size := World.ownsRow.lt h g rfl
theorem OwnU.below {w w' : World} {B g n cap : Nat} {f : Nat → Nat} (h : OwnU w B g n cap f) (hb : Below w.heap.size w w') : OwnU w' B g n cap f := ownsRow_below h hb
theorem OwnU.other {w w' : World} {B g n cap r : Nat} {f : Nat → Nat} (h : OwnU w B g n cap f) (hg : w.grownBy w' (some r)) (hr : g ≠ r) : OwnU w' B g n cap f :=
  World.ownsRow.kept h hg (.inr (by simp [Value.ownBlock]; exact hr))
theorem OwnU.congr {w : World} {B g n cap : Nat} {f h : Nat → Nat} (ho : OwnU w B g n cap f) (e : ∀ i, i < n → f i = h i) : OwnU w B g n cap h := by
  unfold OwnU at *
  rw [← eI_congr e]
  exact ho
theorem OwnU.set {w : World} {B g n cap k v : Nat} {f : Nat → Nat} (h : OwnU w B g n cap f) (hk : k < n) :
    OwnU (w.setCell ⟨g, k, none⟩ (.int .u8 (v : Int))) B g n cap (fun i => if i = k then v else f i) ∧ w.grownBy (w.setCell ⟨g, k, none⟩ (.int .u8 (v : Int))) (some g) := by
  have hs := World.ownsRow.stored h k (.int .u8 (v : Int))
  rw [eI_set f n k v .u8 hk] at hs
  exact ⟨hs.1, ⟨rfl, rfl, rfl, by simp, fun j _ hj => heap_setCell_other w ⟨g, k, none⟩ j _ (fun e => hj (by simp [e]))⟩⟩
/-- A row of ours, of whole numbers. -/
def OwnI (w : World) (B : Nat) (v : Value) (zs : List Int) : Prop := w.ownsRow B 3 1 v zs.length (zs.map (Value.int .i64))
theorem OwnI.view {w : World} {B : Nat} {v : Value} {zs : List Int} (h : OwnI w B v zs) : ∃ a cap, v = .slice a zs.length cap ∧ IntsAt w a zs.length zs ∧ ∀ x, a = some x → B ≤ x.block ∧ x.block < w.heap.size := by
  rcases h.2 with ⟨e, hn⟩ | ⟨g, cap, cur, e, hB, hg, rest⟩
  · exact ⟨none, 0, by rw [e, hn], ⟨rfl, fun i hi => by omega⟩, fun x hx => by cases hx⟩
  · refine ⟨some ⟨g, 0, none⟩, cap, e, ?_, fun x hx => ?_⟩
    · subst e; exact ownsRow.ints h
    · cases hx; exact ⟨hB, (Array.getElem?_eq_some_iff.1 hg).1⟩
theorem OwnI.below {w w' : World} {B : Nat} {v : Value} {zs : List Int} (h : OwnI w B v zs) (hb : Below w.heap.size w w') : OwnI w' B v zs := ownsRow_below h hb
theorem OwnI.nil (w : World) (B : Nat) : OwnI w B (.slice none 0 0) [] := World.ownsRow_nil w B _ _

/-! ### Reading -/
set_option maxHeartbeats 1000000 in
theorem readE_yes (a : Option Addr) (n cap : Nat) (zs : List Int) (w : World) (h : IntsAt w a n zs) (hn : n ≤ 1048576) (hz : ∀ i, i < n → isB (zs.getD i 0) = true) :
    Calls Try.prog 108 #[.slice a n cap] w fun e w' => e = .returned (.tuple #[.slice (some ⟨w.heap.size, 0, none⟩) n n, .bool true]) ∧ OwnU w' w.heap.size w.heap.size n n (coP zs) ∧ Below w.heap.size w w' := by
  obtain ⟨i0, hi, hz0, hz1, hz2⟩ := info_parts Try.infoElem
  obtain ⟨hlen, hcells⟩ := h
  clear hlen
  go_enter Try.func108, Try.ntmps108
  go_wp2_with (at_make; refine wpList_make_full _ rfl _ _ 76 rfl w.heap.size 77 i0 (.int .u8 0) 1 Try.underlying76 hi hz0 hz1 .i64 .i64 _ _ n rfl rfl rfl rfl (by rw [hz2]; omega) (by unfold maxLen; omega) (Nat.le_refl _) ?_; intro w1 hown hgrow)
  have hb1 : Below w.heap.size w w1 := (Below.refl _ _).grown hgrow (Nat.le_refl _) (by simp)
  have ho1 : OwnU w1 w.heap.size w.heap.size n n (fun i => if i < 0 then coP zs i else 0) := by
    unfold OwnU
    rw [eI_const n 0 (fun i _ => if_neg (by omega))]
    simpa [Value.cells, toList_madeCells_one] using hown
  clear hown hgrow
  go_loopw [12] (fun i wr => ∃ k : Nat, k ≤ n ∧ i = .int .i64 k ∧ OwnU wr w.heap.size w.heap.size n n (fun i => if i < k then coP zs i else 0) ∧ Below w.heap.size w wr) (fun i _ => n - (intOf i).toNat)
  case atStart => exact ⟨0, Nat.zero_le _, rfl, ho1, hb1⟩
  case round =>
    obtain ⟨k, hk, rfl, hown, hbel⟩ := hrel
    clear ho1 hb1
    by_cases hlt : k < n
    · obtain ⟨b, off, rfl, hc⟩ := hcells k hlt
      have hzk := hz k hlt
      have hcx : wr.cell? ⟨b, off + k, none⟩ = some (.int .i64 (zs.getD k 0)) := (hbel.cell (p := ⟨b, off + k, none⟩) (block_lt_of_cell hc)).trans hc
      obtain ⟨X, hX, hx⟩ := isB_nat hzk
      have HX : Hid (coP zs k = X) := by show _ = _; unfold coP; rw [hx]; simp
      rw [hx] at hcx hzk
      have hold := (OwnU.els hown).2
      obtain ⟨old, hold⟩ : ∃ v, wr.cell? ⟨w.heap.size, k, none⟩ = some v := by
        rw [World.ownsRow.cellAt hown k (by omega)]
        exact ⟨_, List.getElem?_eq_getElem (by rw [hown.1]; omega)⟩
      have hfr := World.ownsRow.frozenAt hown k
      have hst := hown.set (k := k) (v := X) hlt
      have hne : Below w.heap.size w (wr.setCell ⟨w.heap.size, k, none⟩ (.int .u8 (X : Int))) := hbel.setCell (Nat.le_refl _) _
      have HO : Hid _ := hst.1
      clear hst hown hcells hc hz hx
      go_wp2_with (go_at_call 121; refine (isByte_any _ _).mono ?_; rintro e w' ⟨rfl, hw⟩; obtain rfl := hw.symm)
      go_roundw
      case rel => exact ⟨k + 1, by omega, by go_num, OwnU.congr HO.out (fun i hi => by
        by_cases e : i = k
        · subst e; rw [if_pos rfl, if_pos (by omega), HX.out]
        · rw [if_neg e]
          by_cases h2 : i < k
          · rw [if_pos h2, if_pos (by omega)]
          · rw [if_neg h2, if_neg (by omega)]), hne⟩
      case measure => simp [intOf]; omega
    · have e : k = n := by omega
      subst e
      go_wp2
      go_ret2
      exact ⟨rfl, hown.congr (fun i hi => by rw [if_pos hi]), hbel⟩
set_option maxHeartbeats 1000000 in
theorem readE_no (a : Option Addr) (n cap : Nat) (zs : List Int) (w : World) (h : IntsAt w a n zs) (hn : n ≤ 1048576) (hz : ∃ i, i < n ∧ isB (zs.getD i 0) = false) :
    Calls Try.prog 108 #[.slice a n cap] w fun e w' => e = .returned (.tuple #[.slice none 0 0, .bool false]) ∧ Below w.heap.size w w' := by
  obtain ⟨i0, hi, hz0, hz1, hz2⟩ := info_parts Try.infoElem
  obtain ⟨hlen, hcells⟩ := h
  clear hlen
  go_enter Try.func108, Try.ntmps108
  go_wp2_with (at_make; refine wpList_make_full _ rfl _ _ 76 rfl w.heap.size 77 i0 (.int .u8 0) 1 Try.underlying76 hi hz0 hz1 .i64 .i64 _ _ n rfl rfl rfl rfl (by rw [hz2]; omega) (by unfold maxLen; omega) (Nat.le_refl _) ?_; intro w1 hown hgrow)
  have hb1 : Below w.heap.size w w1 := (Below.refl _ _).grown hgrow (Nat.le_refl _) (by simp)
  have ho1 : OwnU w1 w.heap.size w.heap.size n n (fun _ => 0) := by
    unfold OwnU
    rw [eI_const n 0 (fun i _ => rfl)]
    simpa [Value.cells, toList_madeCells_one] using hown
  clear hown hgrow
  obtain ⟨q, hq, hzq⟩ := hz
  go_loopw [12] (fun i wr => ∃ k f, k ≤ q ∧ i = .int .i64 ((k : Nat) : Int) ∧ OwnU wr w.heap.size w.heap.size n n f ∧ Below w.heap.size w wr) (fun i _ => n - (intOf i).toNat)
  case atStart => exact ⟨0, _, Nat.zero_le _, rfl, ho1, hb1⟩
  case round =>
    obtain ⟨k, f, hk, rfl, hown, hbel⟩ := hrel
    clear ho1 hb1
    have hlt : k < n := by omega
    have hlti : (k : Int) < (n : Int) := by omega
    obtain ⟨b, off, rfl, hc⟩ := hcells k hlt
    have hcx : wr.cell? ⟨b, off + k, none⟩ = some (.int .i64 (zs.getD k 0)) := (hbel.cell (p := ⟨b, off + k, none⟩) (block_lt_of_cell hc)).trans hc
    have hzq' : k = q → isB (zs.getD k 0) = false := fun e => by rw [e]; exact hzq
    clear hzq
    generalize zs.getD k 0 = x at hcx hzq'
    clear hc
    by_cases hzk : isB x = true
    · obtain ⟨X, hX, hx⟩ := isB_nat hzk
      have hne : k ≠ q := by
        intro e
        have := hzq' e
        rw [hzk] at this
        cases this
      rw [hx] at hcx hzk
      obtain ⟨old, hold⟩ : ∃ v, wr.cell? ⟨w.heap.size, k, none⟩ = some v := by
        rw [World.ownsRow.cellAt hown k (by omega)]
        exact ⟨_, List.getElem?_eq_getElem (by rw [hown.1]; omega)⟩
      have hfr := World.ownsRow.frozenAt hown k
      have hst := hown.set (k := k) (v := X) hlt
      have hbn : Below w.heap.size w (wr.setCell ⟨w.heap.size, k, none⟩ (.int .u8 (X : Int))) := hbel.setCell (Nat.le_refl _) _
      have HO : Hid _ := hst.1
      clear hst hown hcells hx hzq'
      go_wp2_with (go_at_call 121; refine (isByte_any _ _).mono ?_; rintro e w' ⟨rfl, hw⟩; obtain rfl := hw.symm)
      go_roundw
      case rel => exact ⟨k + 1, _, by omega, by go_num, HO.out, hbn⟩
      case measure => simp [intOf]; omega
    · have hzk' : isB x = false := by simpa using hzk
      clear hcells hzk hzq'
      go_wp2_with (go_at_call 121; refine (isByte_any _ _).mono ?_; rintro e w' ⟨rfl, hw⟩; obtain rfl := hw.symm)
      go_ret2
      exact ⟨rfl, hbel⟩
end Go.Proofs.Ytmggogdnfgkljaa

/- The program's small functions over polynomials: reading, trimming, numbers, putting one scaled on top of another, values. Conditions: lists of at most 2^20 numbers, byte numbers. -/
namespace Go.Proofs.Ytmggogdnfgkljaa
open Go.ChangeShapes Go.WideShapes Go.ChangeAt Go.RowKit

/-- A polynomial in a list. -/
def okB (zs : List Int) : Bool := decide (zs.length ≤ 40) && (decide (zs.length = 0) || decide (zs.getD (zs.length - 1) 0 ≠ 0)) && zs.all isB
theorem okB_parts {zs : List Int} (h : okB zs = true) : zs.length ≤ 40 ∧ (zs.length = 0 ∨ coP zs (zs.length - 1) ≠ 0) ∧ Gp.Pol (coP zs) zs.length ∧ zs = eI (coP zs) zs.length ∧ ∀ i, i < zs.length → isB (zs.getD i 0) = true := by
  simp only [okB, Bool.and_eq_true, decide_eq_true_eq, Bool.or_eq_true, List.all_eq_true] at h
  obtain ⟨⟨h1, h2⟩, h3⟩ := h
  have h4 : ∀ i, i < zs.length → isB (zs.getD i 0) = true := fun i hi => h3 _ (by simp [List.getD, hi])
  have h5 : ∀ i, i < zs.length → zs.getD i 0 = ((coP zs i : Nat) : Int) := fun i hi => by
    obtain ⟨X, hX, hx⟩ := isB_nat (h4 i hi)
    unfold coP
    rw [hx]
    simp
  refine ⟨h1, ?_, ⟨fun i => ?_, fun i hi => ?_⟩, eI_ext rfl h5, h4⟩
  · rcases h2 with h2 | h2
    · exact .inl h2
    · by_cases e : zs.length = 0
      · exact .inl e
      · right
        intro h
        have h6 := h5 (zs.length - 1) (by omega)
        rw [h] at h6
        exact h2 h6
  · by_cases hi : i < zs.length
    · obtain ⟨X, hX, hx⟩ := isB_nat (h4 i hi)
      unfold coP
      rw [hx]
      simpa using hX
    · unfold coP
      simp [List.getD, List.getElem?_eq_none (show zs.length ≤ i by omega)]
  · unfold coP
    simp [List.getD, List.getElem?_eq_none hi]
theorem okB_no {zs : List Int} (h : okB zs = false) : 40 < zs.length ∨ (zs.length ≤ 40 ∧ 0 < zs.length ∧ zs.getD (zs.length - 1) 0 = 0) ∨ (zs.length ≤ 40 ∧ (zs.length = 0 ∨ zs.getD (zs.length - 1) 0 ≠ 0) ∧ ∃ i, i < zs.length ∧ isB (zs.getD i 0) = false) := by
  by_cases h1 : zs.length ≤ 40
  · by_cases h2 : zs.length = 0 ∨ zs.getD (zs.length - 1) 0 ≠ 0
    · right; right
      refine ⟨h1, h2, ?_⟩
      have h3 : zs.all isB = false := by
        unfold okB at h
        rw [decide_eq_true h1, Bool.true_and] at h
        have e : (decide (zs.length = 0) || decide (zs.getD (zs.length - 1) 0 ≠ 0)) = true := by simpa using h2
        rw [e, Bool.true_and] at h
        exact h
      rw [List.all_eq_false] at h3
      obtain ⟨x, hx, hb⟩ := h3
      obtain ⟨i, hi, rfl⟩ := List.mem_iff_getElem.1 hx
      exact ⟨i, hi, by simpa [List.getD, hi] using hb⟩
    · right; left
      refine ⟨h1, by omega, ?_⟩
      by_cases e : zs.getD (zs.length - 1) 0 = 0
      · exact e
      · exact absurd (.inr e) h2
  · left; omega

end Go.Proofs.Ytmggogdnfgkljaa

/- The program's functions over polynomials that write or call in an open order: numbers, putting one scaled on top of another, values. Conditions: lists of at most 2^20 numbers, byte numbers. -/
namespace Go.Proofs.Ytmggogdnfgkljaa
open Go.ChangeShapes Go.WideShapes Go.ChangeAt Go.RowKit

theorem ownI_of {w : World} {B g n : Nat} {f : Nat → Nat} (h : w.ownsRow B 3 1 (.slice (some ⟨g, 0, none⟩) n n) n ((eI f n).map (Value.int .i64))) : OwnI w B (.slice (some ⟨g, 0, none⟩) n n) (eI f n) := by
  unfold OwnI
  rw [eI_len]
  exact h

theorem below_of_drew {w w1 : World} (h : Below w.drew.heap.size w.drew w1) : Below w.heap.size w w1 := ⟨h.os, h.tape, h.output, h.size, h.block⟩
/-- Behind 'k' numbers: 'o' scaled stands on top of 'f' from 'shift' on. -/
def onTop (f o : Nat → Nat) (scale shift k i : Nat) : Nat := if shift ≤ i ∧ i < shift + k then f i ^^^ Gp.m (o (i - shift)) scale else f i

theorem onTop_step {f o : Nat → Nat} {scale shift k j : Nat} (ho : o k < 256) (hs : scale < 256) (hj : shift + k = j) (i : Nat) : (if i = j then f j ^^^ Gf.mul (o k) scale else onTop f o scale shift k i) = onTop f o scale shift (k + 1) i := by
  subst hj
  unfold onTop
  by_cases e : i = shift + k
  · subst e
    rw [if_pos rfl, if_pos (by omega), Gp.m_nat ho hs, show shift + k - shift = k by omega]
  · rw [if_neg e]
    by_cases h : shift ≤ i ∧ i < shift + k
    · rw [if_pos h, if_pos (by omega)]
    · rw [if_neg h, if_neg (by omega)]
theorem onTop_sh {f o : Nat → Nat} {scale shift n : Nat} (ho : ∀ i, n ≤ i → o i = 0) (i : Nat) : onTop f o scale shift n i = f i ^^^ Gp.m (Gp.sh shift o i) scale := by
  unfold onTop Gp.sh
  by_cases h : shift ≤ i
  · by_cases h2 : i < shift + n
    · rw [if_pos ⟨h, h2⟩, if_pos h]
    · rw [if_neg (by omega), if_pos h, ho _ (by omega), Gp.zero_m, Nat.xor_zero]
  · rw [if_neg (by omega), if_neg h, Gp.zero_m, Nat.xor_zero]
theorem grown_step {w w1 w2 : World} {g : Nat} {v : Value} {k : Nat} (h0 : w.grownBy w1 (some g)) (hb : Below w1.heap.size w1 w2) (h2 : w2.grownBy (w2.setCell ⟨g, k, none⟩ v) (some g)) : w.grownBy (w2.setCell ⟨g, k, none⟩ v) (some g) :=
  ⟨h2.os.trans (hb.os.trans h0.os), h2.tape.trans (hb.tape.trans h0.tape), h2.output.trans (hb.output.trans h0.output), Nat.le_trans h0.size (Nat.le_trans hb.size h2.size), fun j hj hn => ((h2.block j (Nat.lt_of_lt_of_le hj (Nat.le_trans h0.size hb.size)) hn).trans (hb.block j (Nat.lt_of_lt_of_le hj h0.size))).trans (h0.block j hj hn)⟩

end Go.Proofs.Ytmggogdnfgkljaa

/- The drawing of inputs: a cursor over bytes gives numbers within their bounds, writes into itself alone, and leaves all else as it was. Condition: at most 2^20 bytes. -/
namespace Go.Proofs.Ytmggogdnfgkljaa
open Go.ChangeShapes Go.WideShapes Go.ChangeAt Go.RowKit

theorem and255 (n : Int) : bits .and .i64 n 255 = n % 256 := by
  show IntKind.i64.wrap ((BitVec.ofInt 64 n &&& BitVec.ofInt 64 255).toNat : Int) = _
  have h1 : (BitVec.ofInt 64 255) = BitVec.ofNat 64 255 := by decide
  have h2 : (BitVec.ofInt 64 n).toNat = (n % 18446744073709551616).toNat := by simp
  rw [BitVec.toNat_and, h1, h2, BitVec.toNat_ofNat, show (255 % 2 ^ 64 : Nat) = 2 ^ 8 - 1 from rfl, Nat.and_two_pow_sub_one_eq_mod, IntKind.wrap_i64]
  omega

theorem grownBy_trans {a b c : World} {row : Option Nat} (h : a.grownBy b row) (k : b.grownBy c row) : a.grownBy c row :=
  ⟨k.os.trans h.os, k.tape.trans h.tape, k.output.trans h.output, Nat.le_trans h.size k.size, fun j hj hn => (k.block j (Nat.lt_of_lt_of_le hj h.size) hn).trans (h.block j hj hn)⟩
theorem grownBy_below {a b : World} {g : Nat} (h : Below a.heap.size a b) : a.grownBy b (some g) :=
  ⟨h.os, h.tape, h.output, h.size, fun j hj _ => h.block j hj⟩
theorem below_of_grownBy {B g : Nat} {a b : World} (h : a.grownBy b (some g)) (hB : B ≤ g) (hs : B ≤ a.heap.size) : Below B a b :=
  ⟨h.os, h.tape, h.output, h.size, fun j hj => h.block j (by omega) (by simp; omega)⟩

/-- The 'n' cells behind the address hold bytes, in another block than 'g'. -/
def BytesAt (w : World) (a : Option Addr) (n g : Nat) : Prop :=
  ∀ j, j < n → ∃ b off x, a = some ⟨b, off, none⟩ ∧ b ≠ g ∧ w.cell? ⟨b, off + j, none⟩ = some (.int .u8 x) ∧ 0 ≤ x ∧ x ≤ 255
theorem BytesAt.grown {w w' : World} {a : Option Addr} {n g : Nat} (h : BytesAt w a n g) (hg : w.grownBy w' (some g)) : BytesAt w' a n g := by
  intro j hj
  obtain ⟨b, off, x, e, hb, hc, hx⟩ := h j hj
  exact ⟨b, off, x, e, hb, hg.cell hc (by simpa using hb), hx⟩
/-- The cursor that lies in block 'g'. -/
def Cur (w : World) (g : Nat) (a : Option Addr) (n cap : Nat) : Prop :=
  n ≤ 1048576 ∧ (∃ (i : Nat) (h : Int), i ≤ n ∧ w.heap[g]? = some (.cells #[.slice a n cap, .int .i64 i, .int .i64 h] 106 (0, 0))) ∧ BytesAt w a n g
theorem Cur.kept {w w' : World} {g n cap : Nat} {a : Option Addr} {row : Option Nat} (h : Cur w g a n cap) (hg : w.grownBy w' row) (hr : row ≠ some g) (hb : ∀ b off, a = some ⟨b, off, none⟩ → row ≠ some b) : Cur w' g a n cap := by
  obtain ⟨hn, ⟨i, hh, hi, hblk⟩, hby⟩ := h
  refine ⟨hn, ⟨i, hh, hi, ?_⟩, ?_⟩
  · rw [hg.block g (Array.getElem?_eq_some_iff.1 hblk).1 (Ne.symm hr)]; exact hblk
  · intro j hj
    obtain ⟨b, off, x, e, hbg, hc, hx⟩ := hby j hj
    exact ⟨b, off, x, e, hbg, hg.cell hc (Ne.symm (hb b off e)), hx⟩

theorem cur_cells {w : World} {g : Nat} {x y z : Value} {ty : TypeId} (h : w.heap[g]? = some (.cells #[x, y, z] ty (0, 0))) :
    w.cell? ⟨g, 0, none⟩ = some x ∧ w.cell? ⟨g, 1, none⟩ = some y ∧ w.cell? ⟨g, 2, none⟩ = some z ∧ w.frozen? ⟨g, 1, none⟩ = false ∧ w.frozen? ⟨g, 2, none⟩ = false := by
  refine ⟨?_, ?_, ?_, ?_, ?_⟩ <;> first | (rw [cell_of_row w g _ _ ty _ h]; rfl) | exact frozen_of_row w g _ _ ty h

theorem cur_set2 {w : World} {g : Nat} {x y z v : Value} {ty : TypeId} (h : w.heap[g]? = some (.cells #[x, y, z] ty (0, 0))) :
    (w.setCell ⟨g, 2, none⟩ v).heap[g]? = some (.cells #[x, y, v] ty (0, 0)) ∧ w.grownBy (w.setCell ⟨g, 2, none⟩ v) (some g) :=
  ⟨by rw [heap_setCell_same w g 2 _ ty v h]; rfl, ⟨rfl, rfl, rfl, by simp, fun k _ hk => heap_setCell_other w ⟨g, 2, none⟩ k v (fun e => hk (by simp [e]))⟩⟩
theorem cur_set1 {w : World} {g : Nat} {x y z v : Value} {ty : TypeId} (h : w.heap[g]? = some (.cells #[x, y, z] ty (0, 0))) :
    (w.setCell ⟨g, 1, none⟩ v).heap[g]? = some (.cells #[x, v, z] ty (0, 0)) ∧ w.grownBy (w.setCell ⟨g, 1, none⟩ v) (some g) :=
  ⟨by rw [heap_setCell_same w g 1 _ ty v h]; rfl, ⟨rfl, rfl, rfl, by simp, fun k _ hk => heap_setCell_other w ⟨g, 1, none⟩ k v (fun e => hk (by simp [e]))⟩⟩
theorem grownBy_drewN {w w' : World} {row : Option Nat} (h : w.grownBy w' row) (m : Nat) : w.grownBy (w'.drewN m) row := ⟨h.os, h.tape, h.output, h.size, h.block⟩
theorem cur_set21 {w : World} {g : Nat} {x y z v u : Value} {ty : TypeId} (m : Nat) (h : w.heap[g]? = some (.cells #[x, y, z] ty (0, 0))) :
    w.grownBy (((w.setCell ⟨g, 2, none⟩ v).drewN m).setCell ⟨g, 1, none⟩ u) (some g) ∧ (((w.setCell ⟨g, 2, none⟩ v).drewN m).setCell ⟨g, 1, none⟩ u).heap[g]? = some (.cells #[x, u, v] ty (0, 0)) := by
  have h2 := cur_set2 (v := v) h
  have h3 : ((w.setCell ⟨g, 2, none⟩ v).drewN m).heap[g]? = some (.cells #[x, y, v] ty (0, 0)) := h2.1
  exact ⟨grownBy_trans (grownBy_drewN h2.2 m) (cur_set1 (v := u) h3).2, (cur_set1 (v := u) h3).1⟩

set_option maxHeartbeats 1000000 in
theorem byte_out (g n cap i : Nat) (hh : Int) (a : Option Addr) (w : World) (hi : ¬ i < n)
    (hblk : w.heap[g]? = some (.cells #[.slice a n cap, .int .i64 i, .int .i64 hh] 106 (0, 0))) :
    Calls Try.prog 115 #[.pointer (some ⟨g, 0, none⟩)] w fun e w' => ∃ x hv : Int, 0 ≤ x ∧ x ≤ 255 ∧ e = .returned (.int .i64 x) ∧ w.grownBy w' (some g) ∧ w'.heap[g]? = some (.cells #[.slice a n cap, .int .i64 i, .int .i64 hv] 106 (0, 0)) := by
  obtain ⟨c0, c1, c2, f1, f2⟩ := cur_cells hblk
  have HB : Hid (w.heap[g]? = some (.cells #[.slice a n cap, .int .i64 i, .int .i64 hh] 106 (0, 0))) := hblk
  have hand := and255
  clear hblk
  go_enter Try.func115, Try.ntmps115
  go_wp2
  go_quiet (fail)
  go_wp2
  go_quiet (fail)
  go_wp2
  go_ret
  exact ⟨_, _, Int.emod_nonneg _ (by decide), Int.le_of_lt_add_one (Int.emod_lt_of_pos _ (by decide)), rfl, grownBy_drewN (grownBy_drewN (cur_set2 HB.out).2 _) _, (cur_set2 HB.out).1⟩

set_option maxHeartbeats 1000000 in
theorem byte_in (g n cap i b off : Nat) (hh y : Int) (w : World) (hn : n ≤ 1048576) (hi : i < n) (hbg : b ≠ g) (hy : w.cell? ⟨b, off + i, none⟩ = some (.int .u8 y)) (y0 : 0 ≤ y) (y1 : y ≤ 255)
    (hblk : w.heap[g]? = some (.cells #[.slice (some ⟨b, off, none⟩) n cap, .int .i64 i, .int .i64 hh] 106 (0, 0))) :
    Calls Try.prog 115 #[.pointer (some ⟨g, 0, none⟩)] w fun e w' => ∃ x hv : Int, 0 ≤ x ∧ x ≤ 255 ∧ e = .returned (.int .i64 x) ∧ w.grownBy w' (some g) ∧ w'.heap[g]? = some (.cells #[.slice (some ⟨b, off, none⟩) n cap, .int .i64 ((i + 1 : Nat) : Int), .int .i64 hv] 106 (0, 0)) := by
  obtain ⟨c0, c1, c2, f1, f2⟩ := cur_cells hblk
  have HB : Hid (w.heap[g]? = some (.cells #[.slice (some ⟨b, off, none⟩) n cap, .int .i64 i, .int .i64 hh] 106 (0, 0))) := hblk
  have hand := and255
  have hii : (i : Int) < (n : Int) := by omega
  have hyy : ∀ v, (w.setCell ⟨g, 2, none⟩ v).cell? ⟨b, off + i, none⟩ = some (.int .u8 y) := fun v => ((cur_set2 (v := v) hblk).2.cell hy (by simpa using hbg))
  clear hblk
  go_enter Try.func115, Try.ntmps115
  go_wp2
  go_quiet (fail)
  go_wp2
  go_quiet (fail)
  go_wp2
  go_quiet (fail)
  go_wp2
  go_ret
  exact ⟨_, _, Int.emod_nonneg _ (by decide), Int.le_of_lt_add_one (Int.emod_lt_of_pos _ (by decide)), rfl, (cur_set21 _ HB.out).1, (cur_set21 _ HB.out).2⟩

theorem byte_any (g n cap : Nat) (a : Option Addr) (w : World) (hc : Cur w g a n cap) :
    Calls Try.prog 115 #[.pointer (some ⟨g, 0, none⟩)] w fun e w' => ∃ x : Int, 0 ≤ x ∧ x ≤ 255 ∧ e = .returned (.int .i64 x) ∧ w.grownBy w' (some g) ∧ Cur w' g a n cap := by
  obtain ⟨hn, ⟨i, hh, hi, hblk⟩, hby⟩ := hc
  by_cases hlt : i < n
  · obtain ⟨b, off, y, rfl, hbg, hy, y0, y1⟩ := hby i hlt
    refine (byte_in g n cap i b off hh y w hn hlt hbg hy y0 y1 hblk).mono ?_
    rintro e w' ⟨x, hv, x0, x1, rfl, hg, hb'⟩
    exact ⟨x, x0, x1, rfl, hg, hn, ⟨i + 1, hv, hlt, hb'⟩, hby.grown hg⟩
  · refine (byte_out g n cap i hh a w hlt hblk).mono ?_
    rintro e w' ⟨x, hv, x0, x1, rfl, hg, hb'⟩
    exact ⟨x, x0, x1, rfl, hg, hn, ⟨i, hv, hi, hb'⟩, hby.grown hg⟩

set_option maxHeartbeats 1000000 in
theorem belowN_any (g n cap : Nat) (a : Option Addr) (m : Int) (w : World) (hc : Cur w g a n cap) :
    Calls Try.prog 81 #[.pointer (some ⟨g, 0, none⟩), .int .i64 m] w fun e w' => ∃ x : Int, 0 ≤ x ∧ (0 < m → x < m) ∧ (m ≤ 0 → x = 0) ∧ e = .returned (.int .i64 x) ∧ w.grownBy w' (some g) ∧ Cur w' g a n cap := by
  by_cases h0 : m ≤ 0
  · go_enter Try.func81, Try.ntmps81
    go_wp2
    go_ret
    exact ⟨0, by omega, by omega, by omega, rfl, World.grownBy.refl _ _, hc⟩
  · by_cases h1 : m ≤ 256
    · go_enter Try.func81, Try.ntmps81
      go_wp2_with fail
      refine (byte_any g n cap a _ hc).mono ?_
      rintro e w1 ⟨x, x0, x1, rfl, hg, hc1⟩
      go_wp2
      go_ret
      exact ⟨_, Int.emod_nonneg _ (by omega), fun _ => Int.emod_lt_of_pos _ (by omega), fun h => by omega, rfl, hg, hc1⟩
    · go_enter Try.func81, Try.ntmps81
      go_wp2_with fail
      refine (byte_any g n cap a _ hc).mono ?_
      rintro e w1 ⟨x, x0, x1, rfl, hg1, hc1⟩
      go_wp2_with fail
      refine (byte_any g n cap a _ hc1).mono ?_
      rintro e w2 ⟨y, y0, y1, rfl, hg2, hc2⟩
      go_wp2_with fail
      refine (byte_any g n cap a _ hc2).mono ?_
      rintro e w3 ⟨z, z0, z1, rfl, hg3, hc3⟩
      go_wp2_with fail
      refine (byte_any g n cap a _ hc3).mono ?_
      rintro e w4 ⟨u, u0, u1, rfl, hg4, hc4⟩
      go_wp2
      go_ret
      exact ⟨_, Int.emod_nonneg _ (by omega), fun _ => Int.emod_lt_of_pos _ (by omega), fun h => by omega, rfl, grownBy_trans (grownBy_trans (grownBy_trans hg1 hg2) hg3) hg4, hc4⟩

set_option maxHeartbeats 400000 in
theorem once_any (g n cap : Nat) (a : Option Addr) (m : Int) (w : World) (hc : Cur w g a n cap) :
    Calls Try.prog 63 #[.pointer (some ⟨g, 0, none⟩), .int .i64 m] w fun e w' => ∃ x : Bool, e = .returned (.bool x) ∧ w.grownBy w' (some g) ∧ Cur w' g a n cap := by
  go_enter Try.func63, Try.ntmps63
  go_wp2_with fail
  refine (belowN_any g n cap a _ _ hc).mono ?_
  rintro e w1 ⟨x, _, _, _, rfl, hg, hc1⟩
  go_wp2
  go_ret
  exact ⟨_, rfl, hg, hc1⟩

set_option maxHeartbeats 400000 in
theorem pick_any (g n cap : Nat) (a : Option Addr) (lb off m lc : Nat) (w : World) (hc : Cur w g a n cap) (hm : 0 < m) (hm2 : m ≤ 256) (hl : lb ≠ g)
    (hcell : ∀ i, i < m → ∃ z, w.cell? ⟨lb, off + i, none⟩ = some (.int .i64 z)) :
    Calls Try.prog 116 #[.pointer (some ⟨g, 0, none⟩), .slice (some ⟨lb, off, none⟩) m lc] w fun e w' => ∃ x : Int, e = .returned (.int .i64 x) ∧ w.grownBy w' (some g) ∧ Cur w' g a n cap := by
  go_enter Try.func116, Try.ntmps116
  go_wp2_with fail
  refine (belowN_any g n cap a _ _ hc).mono ?_
  rintro e w1 ⟨x, x0, x1, _, rfl, hg, hc1⟩
  have x2 := x1 (by omega)
  obtain ⟨k, rfl⟩ := Int.eq_ofNat_of_zero_le x0
  obtain ⟨z, hz⟩ := hcell k (by omega)
  have hz1 := hg.cell hz (by simpa using hl)
  clear hcell hz x1
  go_wp2
  go_ret
  exact ⟨_, rfl, hg, hc1⟩

theorem lit_cells {w : World} {cs : List Int} {ty : TypeId} : ∀ i, i < cs.length → ∃ z, (w.alloc (.cells (cs.map (Value.int .i64)).toArray ty)).cell? ⟨w.heap.size, 0 + i, none⟩ = some (.int .i64 z) := by
  intro i hi
  rw [Nat.zero_add, cell_of_row _ _ _ _ ty _ (heap_alloc_new w _)]
  exact ⟨cs[i], by simp [hi]⟩
theorem Cur.lt {w : World} {g n cap : Nat} {a : Option Addr} (h : Cur w g a n cap) : g < w.heap.size := by
  obtain ⟨_, ⟨i, hh, _, hblk⟩, _⟩ := h
  exact (Array.getElem?_eq_some_iff.1 hblk).1
theorem Cur.alloc {w : World} {g n cap : Nat} {a : Option Addr} (h : Cur w g a n cap) (o : Obj) : Cur (w.alloc o) g a n cap :=
  h.kept (World.grownBy_alloc w o none) (by simp) (by simp)

set_option maxRecDepth 100000 in
set_option maxHeartbeats 1000000 in
theorem new_any (a : Option Addr) (n cap : Nat) (w : World) (hn : n ≤ 1048576) (hby : ∀ g, w.heap.size ≤ g → BytesAt w a n g) :
    Calls Try.prog 62 #[.slice a n cap] w fun e w' => ∃ g, e = .returned (.pointer (some ⟨g, 0, none⟩)) ∧ w.heap.size ≤ g ∧ Below w.heap.size w w' ∧ Cur w' g a n cap := by
  go_enter Try.func62, Try.ntmps62
  go_wp2
  go_loopw [3, 4] (fun h i wr => ∃ (k : Nat) (hh : Int), k ≤ n ∧ h = .int .i64 hh ∧ i = .int .i64 k ∧ wr = w) (fun _ i _ => n - (intOf i).toNat)
  case atStart => exact ⟨0, _, Nat.zero_le _, rfl, rfl, rfl⟩
  case round =>
    obtain ⟨k, hh, hk, rfl, rfl, rfl⟩ := hrel
    by_cases hlt : k < n ∧ k < 4000
    · obtain ⟨b, off, x, rfl, hbg, hc, x0, x1⟩ := hby _ (Nat.le_refl _) k hlt.1
      have h1 : (k : Int) < (n : Int) := by omega
      have h2 : (k : Int) < 4000 := by omega
      clear hby
      go_wp2
      go_roundw
      case rel => exact ⟨k + 1, _, by omega, rfl, by go_num, trivial⟩
      case measure => simp [intOf]; omega
    · have fin : ∀ hv : Int, Below wr.heap.size wr (wr.alloc (.cells #[.slice a n cap, .int .i64 0, .int .i64 hv] 106)) ∧ Cur (wr.alloc (.cells #[.slice a n cap, .int .i64 0, .int .i64 hv] 106)) wr.heap.size a n cap := fun hv =>
        ⟨(Below.refl _ _).alloc (Nat.le_refl _) _, hn, ⟨0, hv, Nat.zero_le _, heap_alloc_new wr _⟩, (hby _ (Nat.le_refl _)).grown (World.grownBy_alloc wr _ _)⟩
      have F : Hid (∀ hv : Int, Below wr.heap.size wr (wr.alloc (.cells #[.slice a n cap, .int .i64 0, .int .i64 hv] 106)) ∧ Cur (wr.alloc (.cells #[.slice a n cap, .int .i64 0, .int .i64 hv] 106)) wr.heap.size a n cap) := fin
      clear fin hby
      by_cases h1 : k < n
      · have h1' : (k : Int) < (n : Int) := by omega
        have h2 : ¬ (k : Int) < 4000 := by omega
        go_wp2
        go_ret
        exact ⟨_, rfl, Nat.le_refl _, (F.out hh).1, (F.out hh).2⟩
      · go_wp2
        go_ret
        exact ⟨_, rfl, Nat.le_refl _, (F.out hh).1, (F.out hh).2⟩
end Go.Proofs.Ytmggogdnfgkljaa

/- The program's division of polynomials: what the quotient and the rest are, and where they lie. Conditions: byte numbers, the divisor's last number not 0, lists of at most 2^20 numbers. -/
namespace Go.Proofs.Ytmggogdnfgkljaa
open Go.ChangeShapes Go.WideShapes Go.ChangeAt Go.RowKit

theorem add_none (b j : Nat) : (⟨b, 0, none⟩ : Addr).add j = ⟨b, j, none⟩ := by unfold Addr.add; split <;> simp_all
theorem Els.news {w : World} {b n cap : Nat} {f : Nat → Nat} (h : Els w (some ⟨b, 0, none⟩) n cap f) : ∀ j u, ((eI f n).map (Value.int .u8))[j]? = some u → w.cell? ((⟨b, 0, none⟩ : Addr).add j) = some u := by
  intro j u hu
  rw [add_none]
  by_cases hj : j < n
  · obtain ⟨b', e, hc⟩ := h.at (i := j) hj
    cases e
    rw [hc]
    simpa [eI, hj] using hu
  · rw [List.getElem?_eq_none (by simp [eI_len]; omega)] at hu
    cases hu
theorem one_cell {d : IntKind} {xs : List Int} : ∀ u ∈ xs.map (Value.int d), u.oneCell' = true := by
  intro u hu
  obtain ⟨x, _, rfl⟩ := List.mem_map.1 hu
  rfl
theorem els_of_owns {w : World} {B n : Nat} {v : Value} {f : Nat → Nat} (h : w.ownsRow B 77 1 v n ((eI f n).map (Value.int .u8))) : ∃ ar cr, v = .slice ar n cr ∧ Els w ar n cr f := by
  rcases h.2 with ⟨e, hn⟩ | ⟨g, cap, cur, e, _⟩
  · subst hn; exact ⟨none, 0, e, Els.nil _ _⟩
  · subst e
    exact ⟨_, _, rfl, OwnU.els (B := B) h⟩

end Go.Proofs.Ytmggogdnfgkljaa

/- The program's product of polynomials, and the polynomials that are 0 at places. Conditions: byte numbers, at most 100 factors of at most 1000 numbers. -/
namespace Go.Proofs.Ytmggogdnfgkljaa
open Go.ChangeShapes Go.WideShapes Go.ChangeAt Go.RowKit

/-- The product of the first factors, and its length. -/
def pf (F : Nat → Nat → Nat) (N : Nat → Nat) : Nat → (Nat → Nat) × Nat
  | 0 => (Gp.one, 1)
  | i + 1 => (Gp.cv (pf F N i).1 (F i) (pf F N i).2, Gp.tl (Gp.cv (pf F N i).1 (F i) (pf F N i).2) ((pf F N i).2 + N i))
theorem pf_pol {F : Nat → Nat → Nat} {N : Nat → Nat} {k : Nat} (h : ∀ i, i < k → Gp.Pol (F i) (N i)) : ∀ i, i ≤ k → Gp.Pol (pf F N i).1 (pf F N i).2 := by
  intro i
  induction i with
  | zero => intro _; exact Gp.one_pol
  | succ i ih => intro hi; exact (Gp.cv_pol (h i (by omega))).tl
theorem pf_len {F : Nat → Nat → Nat} {N : Nat → Nat} {k : Nat} (h : ∀ i, i < k → N i ≤ 1000) : ∀ i, i ≤ k → (pf F N i).2 ≤ 1 + 1000 * i := by
  intro i
  induction i with
  | zero => intro _; exact Nat.le_refl _
  | succ i ih =>
    intro hi
    have h1 := ih (by omega)
    have h2 := h i (by omega)
    have h3 := Gp.tl_le (Gp.cv (pf F N i).1 (F i) (pf F N i).2) ((pf F N i).2 + N i)
    show Gp.tl _ _ ≤ _
    omega
theorem pf_succ (F : Nat → Nat → Nat) (N : Nat → Nat) (i : Nat) : pf F N (i + 1) = (Gp.cv (pf F N i).1 (F i) (pf F N i).2, Gp.tl (Gp.cv (pf F N i).1 (F i) (pf F N i).2) ((pf F N i).2 + N i)) := rfl

/-- A row of polynomials. -/
def Facs (w : World) (g k : Nat) (A : Nat → Option Addr) (N C : Nat → Nat) (F : Nat → Nat → Nat) : Prop :=
  ∀ i, i < k → w.cell? ⟨g, i, none⟩ = some (.slice (A i) (N i) (C i)) ∧ Els w (A i) (N i) (C i) (F i)
theorem Facs.below {w w' : World} {g k : Nat} {A : Nat → Option Addr} {N C : Nat → Nat} {F : Nat → Nat → Nat} (h : Facs w g k A N C F) (hb : Below w.heap.size w w') : Facs w' g k A N C F := fun i hi =>
  ⟨(hb.cell (p := ⟨g, i, none⟩) (block_lt_of_cell (h i hi).1)).trans (h i hi).1, (h i hi).2.below hb⟩

theorem one_els (w : World) : Els (w.alloc (.cells #[.int .u8 1] 77)) (some ⟨w.heap.size, 0, none⟩) 1 1 Gp.one := by
  refine ⟨Nat.le_refl _, .inr ⟨_, rfl, by simp, fun i hi => ?_⟩⟩
  obtain rfl : i = 0 := by omega
  rw [cell_of_row _ _ _ _ _ _ (heap_alloc_new w _)]
  rfl

end Go.Proofs.Ytmggogdnfgkljaa

/- The program's polynomials that are 0 at places. Conditions: byte numbers, at most 100 places. -/
namespace Go.Proofs.Ytmggogdnfgkljaa
open Go.ChangeShapes Go.WideShapes Go.ChangeAt Go.RowKit

def rowP (G : Nat → Nat) (n k : Nat) : List Value := (List.range n).map fun i => if i < k then .slice (some ⟨G i, 0, none⟩) 2 2 else .slice none 0 0
theorem rowP_len (G : Nat → Nat) (n k : Nat) : (rowP G n k).length = n := by simp [rowP]
theorem rowP_zero (G : Nat → Nat) (n : Nat) : rowP G n 0 = List.replicate n (.slice none 0 0) := by
  apply List.ext_getElem?
  intro i
  by_cases hi : i < n
  · simp [rowP, hi]
  · rw [List.getElem?_eq_none (by rw [rowP_len]; omega), List.getElem?_eq_none (by simp; omega)]
theorem rowP_set (G : Nat → Nat) (n k v : Nat) (h : k < n) : (rowP G n k).set k (.slice (some ⟨v, 0, none⟩) 2 2) = rowP (fun i => if i = k then v else G i) n (k + 1) := by
  apply List.ext_getElem?
  intro i
  rw [List.getElem?_set]
  by_cases hi : i < n
  · by_cases e : k = i
    · subst e
      simp [rowP, h]
    · by_cases h2 : i < k
      · simp [rowP, hi, e, h2, Ne.symm e, show i < k + 1 by omega]
      · simp [rowP, hi, e, h2, show ¬ i < k + 1 by omega]
  · by_cases e : k = i
    · omega
    · rw [if_neg e, List.getElem?_eq_none (by rw [rowP_len]; omega), List.getElem?_eq_none (by rw [rowP_len]; omega)]
theorem l2_els (w : World) (x : Nat) : Els (w.alloc (.cells #[.int .u8 (x : Int), .int .u8 1] 77)) (some ⟨w.heap.size, 0, none⟩) 2 2 (Gp.l2 x) := by
  refine ⟨Nat.le_refl _, .inr ⟨_, rfl, by simp, fun i hi => ?_⟩⟩
  rw [cell_of_row _ _ _ _ _ _ (heap_alloc_new w _)]
  match i, hi with
  | 0, _ => rfl
  | 1, _ => rfl
theorem Els.alloc {w : World} {a : Option Addr} {n cap : Nat} {f : Nat → Nat} (h : Els w a n cap f) (o : Obj) : Els (w.alloc o) a n cap f :=
  h.below ((Below.refl _ _).alloc (Nat.le_refl _) _)

theorem alloc_set_swap (w : World) (o : Obj) {g k : Nat} (v : Value) (h : g < w.heap.size) : (w.alloc o).setCell ⟨g, k, none⟩ v = (w.setCell ⟨g, k, none⟩ v).alloc o := by
  exact World.setCell_alloc_past o g k v h
end Go.Proofs.Ytmggogdnfgkljaa

/- The program's functions over polynomials as they are called: what each answers at any lists of at most 2^20 numbers, in memory of its own; nothing that was there turns. -/
namespace Go.Proofs.Ytmggogdnfgkljaa
open Go.ChangeShapes Go.WideShapes Go.ChangeAt Go.RowKit

def addP (xs ys : List Int) : List Int × Bool :=
  if okB xs = true ∧ okB ys = true then (eI (Gp.ad (coP xs) (coP ys)) (Gp.tl (Gp.ad (coP xs) (coP ys)) (max xs.length ys.length)), true) else ([], false)
def mulP (xs ys : List Int) : List Int × Bool :=
  if okB xs = true ∧ okB ys = true ∧ Gp.tl (Gp.cv (coP xs) (coP ys) xs.length) (xs.length + ys.length) ≤ 40 then (eI (Gp.cv (coP xs) (coP ys) xs.length) (Gp.tl (Gp.cv (coP xs) (coP ys) xs.length) (xs.length + ys.length)), true) else ([], false)
def divQ (xs ys : List Int) : Nat → Nat := Gp.dq (coP xs) (coP ys) (Gf.inv (coP ys (ys.length - 1))) ys.length (xs.length - ys.length + 1) (xs.length - ys.length + 1)
def divR (xs ys : List Int) : Nat → Nat := Gp.dr (coP xs) (coP ys) (Gf.inv (coP ys (ys.length - 1))) ys.length (xs.length - ys.length + 1) (xs.length - ys.length + 1)
def divP (xs ys : List Int) : List Int × List Int × Bool :=
  if okB xs = true ∧ okB ys = true ∧ 0 < ys.length then
    if ys.length ≤ xs.length then (eI (divQ xs ys) (Gp.tl (divQ xs ys) (xs.length - ys.length + 1)), eI (divR xs ys) (Gp.tl (divR xs ys) xs.length), true)
    else ([], eI (coP xs) (Gp.tl (coP xs) xs.length), true)
  else ([], [], false)
def atP (xs : List Int) (x : Int) : Int := if okB xs = true ∧ isB x = true then ((Gp.ev (coP xs) x.toNat xs.length : Nat) : Int) else -1

end Go.Proofs.Ytmggogdnfgkljaa

/- A list without the noughts at its end, in the program and in its model; byte numbers and polynomials in the model. Conditions: lists of at most 2^20 numbers. -/
namespace Go.Proofs.Ytmggogdnfgkljaa
open Go.ChangeShapes Go.WideShapes Go.ChangeAt Go.RowKit

def nz (zs : List Int) (i : Nat) : Nat := if zs.getD i 0 = 0 then 0 else 1
def trimI (zs : List Int) : List Int := zs.take (Gp.tl (nz zs) zs.length)
theorem tl_iff {f g : Nat → Nat} (n : Nat) (h : ∀ i, i < n → (f i = 0 ↔ g i = 0)) : Gp.tl f n = Gp.tl g n := by
  induction n with
  | zero => rfl
  | succ n ih =>
    unfold Gp.tl
    rw [ih (fun i hi => h i (by omega))]
    by_cases e : f n = 0
    · rw [if_pos e, if_pos ((h n (by omega)).1 e)]
    · rw [if_neg e, if_neg (fun e' => e ((h n (by omega)).2 e'))]
theorem trimI_len (zs : List Int) : (trimI zs).length = Gp.tl (nz zs) zs.length := by
  have := Gp.tl_le (nz zs) zs.length
  unfold trimI
  rw [List.length_take]
  omega
theorem trimI_eI (f : Nat → Nat) (n : Nat) : trimI (eI f n) = eI f (Gp.tl f n) := by
  have h : Gp.tl (nz (eI f n)) n = Gp.tl f n := tl_iff n (fun i hi => by
    unfold nz
    rw [eI_getD f n i hi]
    by_cases e : f i = 0
    · simp [e]
    · rw [if_neg (by omega)]
      simp [e])
  unfold trimI
  rw [eI_len, h, eI_take f n _ (Gp.tl_le f n)]
theorem owns_takes {w : World} {B : Nat} {v : Value} {zs : List Int} {t : Nat} (ht : t ≤ zs.length) (h : w.ownsRow B 3 1 v (0 + t) ([] ++ (zs.take t).map (Value.int .i64))) : OwnI w B v (zs.take t) := by
  rw [Nat.zero_add, List.nil_append] at h
  unfold OwnI
  rw [show (zs.take t).length = t by rw [List.length_take]; omega]
  exact h

theorem one_cellI {xs : List Int} : ∀ u ∈ xs.map (Value.int .i64), u.oneCell' = true := by
  intro u hu
  obtain ⟨x, _, rfl⟩ := List.mem_map.1 hu
  rfl
end Go.Proofs.Ytmggogdnfgkljaa

/- The program's sum, product and quotient of polynomials, at any lists of at most 2^20 numbers. -/
namespace Go.Proofs.Ytmggogdnfgkljaa
open Go.ChangeShapes Go.WideShapes Go.ChangeAt Go.RowKit

theorem OwnI.mono {w : World} {B B' : Nat} {v : Value} {zs : List Int} (h : OwnI w B v zs) (hb : B' ≤ B) : OwnI w B' v zs :=
  ⟨h.1, h.2.imp id fun ⟨g, cap, cur, h1, h2, h3⟩ => ⟨g, cap, cur, h1, Nat.le_trans hb h2, h3⟩⟩
theorem addP_no {xs ys : List Int} (h : ¬ (okB xs = true ∧ okB ys = true)) : addP xs ys = ([], false) := by unfold addP; rw [if_neg h]
theorem onTop_first {xs : List Int} (h : okB xs = true) (i : Nat) : onTop (fun _ => 0) (coP xs) 1 0 xs.length i = coP xs i := by
  have hp := (okB_parts h).2.2.1
  rw [onTop_sh hp.2, Nat.zero_xor, show Gp.sh 0 (coP xs) i = coP xs i by unfold Gp.sh; rw [if_pos (Nat.zero_le _), Nat.sub_zero], Gp.m_one (hp.1 i)]
theorem onTop_second {ys : List Int} (h : okB ys = true) (f : Nat → Nat) (i : Nat) : onTop f (coP ys) 1 0 ys.length i = Gp.ad f (coP ys) i := by
  have hp := (okB_parts h).2.2.1
  rw [onTop_sh hp.2, show Gp.sh 0 (coP ys) i = coP ys i by unfold Gp.sh; rw [if_pos (Nat.zero_le _), Nat.sub_zero], Gp.m_one (hp.1 i)]
  rfl

def twoA (g1 g2 : Nat) (i : Nat) : Option Addr := if i = 0 then some ⟨g1, 0, none⟩ else some ⟨g2, 0, none⟩
def twoN (n m : Nat) (i : Nat) : Nat := if i = 0 then n else m
def twoF (f g : Nat → Nat) (i : Nat) : Nat → Nat := if i = 0 then f else g
theorem pf_two {f g : Nat → Nat} {n m : Nat} (hf : Gp.Pol f n) (hl : n = 0 ∨ f (n - 1) ≠ 0) : pf (twoF f g) (twoN n m) 2 = (Gp.cv f g n, Gp.tl (Gp.cv f g n) (n + m)) := by
  have e1 : pf (twoF f g) (twoN n m) 1 = (f, n) := by
    rw [pf_succ]
    show (Gp.cv Gp.one f 1, Gp.tl (Gp.cv Gp.one f 1) (1 + n)) = _
    have e : Gp.cv Gp.one f 1 = f := by funext i; exact Gp.cv_one hf.1 i
    rw [e, Gp.tl_is f (1 + n) n (by omega) (fun i h1 _ => hf.2 i h1) hl]
  rw [pf_succ, e1]
  rfl
theorem mulP_no {xs ys : List Int} (h : ¬ (okB xs = true ∧ okB ys = true)) : mulP xs ys = ([], false) := by unfold mulP; rw [if_neg (fun h' => h ⟨h'.1, h'.2.1⟩)]

theorem divP_no {xs ys : List Int} (h : ¬ (okB xs = true ∧ okB ys = true)) : divP xs ys = ([], [], false) := by unfold divP; rw [if_neg (fun h' => h ⟨h'.1, h'.2.1⟩)]
end Go.Proofs.Ytmggogdnfgkljaa

/- What the laws' walks carry of the rows of whole numbers in play: which numbers they hold and between which blocks they lie; and the laws' own helpers that mark a row and look at the marks. Condition: rows of at most 2^20 numbers. -/
namespace Go.Proofs.Ytmggogdnfgkljaa
open Go.ChangeShapes Go.WideShapes Go.ChangeAt Go.RowKit

/-- A row of ours that lies from block 'B' on, ahead of block 'E'. -/
def Row (w : World) (B E : Nat) (a : Option Addr) (n cap : Nat) (zs : List Int) : Prop := OwnI w B (.slice a n cap) zs ∧ n = zs.length ∧ n ≤ cap ∧ ∀ k, (Value.slice a n cap).ownBlock = some k → B ≤ k ∧ k < E
theorem OwnI.row {w : World} {B E : Nat} {v : Value} {zs : List Int} (h : OwnI w B v zs) (hE : ∀ k, v.ownBlock = some k → k < E) : ∃ a cap, v = .slice a zs.length cap ∧ Row w B E a zs.length cap zs := by
  rcases h.2 with ⟨e, hn⟩ | ⟨g, cap, cur, e, hB, hg, hcap, _⟩
  · refine ⟨none, 0, by rw [e, hn], ?_, rfl, by omega, fun k hk => by cases hk⟩
    rw [hn, ← e]
    exact h
  · subst e
    exact ⟨_, _, rfl, h, rfl, hcap, fun k hk => ⟨(World.ownsRow.lt h k hk).1, hE k hk⟩⟩
theorem OwnI.row' {w : World} {B : Nat} {v : Value} {zs : List Int} (h : OwnI w B v zs) : ∃ a cap, v = .slice a zs.length cap ∧ Row w B w.heap.size a zs.length cap zs :=
  h.row (fun k hk => (World.ownsRow.lt h k hk).2)
theorem Row.ints {w : World} {B E : Nat} {a : Option Addr} {n cap : Nat} {zs : List Int} (h : Row w B E a n cap zs) : IntsAt w a n zs := by
  obtain ⟨ho, rfl, _, _⟩ := h
  obtain ⟨a', cap', e, hi, _⟩ := ho.view
  cases e
  exact hi
theorem Row.below {w w' : World} {B E : Nat} {a : Option Addr} {n cap : Nat} {zs : List Int} (h : Row w B E a n cap zs) (hb : Below w.heap.size w w') : Row w' B E a n cap zs := ⟨h.1.below hb, h.2⟩
/-- At most one block has turned, one that lies from 'B' on, ahead of 'E'. -/
def Turned (w w' : World) (B E : Nat) : Prop := ∃ r, w.grownBy w' r ∧ ∀ g, r = some g → B ≤ g ∧ g < E
theorem Row.turned {w w' : World} {B E B' E' : Nat} {a : Option Addr} {n cap : Nat} {zs : List Int} (h : Row w B E a n cap zs) (ht : Turned w w' B' E') (hd : E ≤ B' ∨ E' ≤ B) : Row w' B E a n cap zs := by
  obtain ⟨r, hg, hr⟩ := ht
  refine ⟨World.ownsRow.kept h.1 hg ?_, h.2⟩
  cases hv : (Value.slice a n cap).ownBlock with
  | none => exact .inl rfl
  | some k =>
    right
    intro e
    have h1 := h.2.2.2 k hv
    have h2 := hr k e.symm
    omega
theorem Turned.below {w w' : World} {B E s : Nat} (h : Turned w w' B E) (hs : s ≤ B) (hw : s ≤ w.heap.size) : Below s w w' := by
  obtain ⟨r, hg, hr⟩ := h
  exact ⟨hg.os, hg.tape, hg.output, hg.size, fun j hj => hg.block j (by omega) (fun e => by have := hr j e.symm; omega)⟩
theorem Turned.size {w w' : World} {B E : Nat} (h : Turned w w' B E) : w.heap.size ≤ w'.heap.size := by
  obtain ⟨r, hg, _⟩ := h
  exact hg.size
/-- A list that was handed in: it lies ahead of block 's'. -/
def Arg (w : World) (s : Nat) (a : Option Addr) (n : Nat) (zs : List Int) : Prop := IntsAt w a n zs ∧ (0 < n → ∀ b off, a = some ⟨b, off, none⟩ → b < s)
theorem IntsAt.arg {w : World} {a : Option Addr} {n : Nat} {zs : List Int} (h : IntsAt w a n zs) : Arg w w.heap.size a n zs := by
  refine ⟨h, fun hn b off e => ?_⟩
  obtain ⟨b', off', e', hc⟩ := h.2 0 hn
  rw [e] at e'
  cases e'
  exact block_lt_of_cell hc
theorem Arg.below {w w' : World} {s : Nat} {a : Option Addr} {n : Nat} {zs : List Int} (h : Arg w s a n zs) (hb : Below w.heap.size w w') : Arg w' s a n zs := ⟨h.1.below hb, h.2⟩
theorem Arg.turned {w w' : World} {s B E : Nat} {a : Option Addr} {n : Nat} {zs : List Int} (h : Arg w s a n zs) (ht : Turned w w' B E) (hs : s ≤ B) : Arg w' s a n zs := by
  obtain ⟨r, hg, hr⟩ := ht
  refine ⟨⟨h.1.1, fun i hi => ?_⟩, h.2⟩
  obtain ⟨b, off, e, hc⟩ := h.1.2 i hi
  refine ⟨b, off, e, hg.cell hc (fun e' => ?_)⟩
  have h1 := h.2 (by omega) b off e
  have h2 := hr b e'.symm
  omega
/-- The copies that the laws make. -/
theorem row_toIntS {w : World} {g n : Nat} {zs : List Int} (hl : zs.length = n) (h : w.ownsRow g 3 1 (.slice (some ⟨g, 0, none⟩) n n) n (zs.map (Value.int .i64))) : Row w g (g + 1) (some ⟨g, 0, none⟩) n n zs := by
  refine ⟨?_, hl.symm, Nat.le_refl _, fun k hk => ?_⟩
  · unfold OwnI
    rw [hl]
    exact h
  · cases hk
    exact ⟨Nat.le_refl _, Nat.lt_succ_self _⟩

/-- The marks from 'k' on. -/
def marks (k n : Nat) : List Int := eI (fun i => k + i) n

theorem marks_step (k n c : Nat) (zs : List Int) (hl : zs.length = n) (hc : c < n) : ((marks k c ++ zs.drop c).map (Value.int .i64)).set c (.int .i64 ((k + c : Nat) : Int)) = (marks k (c + 1) ++ zs.drop (c + 1)).map (Value.int .i64) := by
  have hm : (marks k c).length = c := eI_len _ _
  have e1 : zs.drop c = (zs.drop c).headD 0 :: zs.drop (c + 1) := by
    cases hd : zs.drop c with
    | nil =>
      have := congrArg List.length hd
      simp at this
      omega
    | cons x xs =>
      have : zs.drop (c + 1) = xs := by rw [← List.tail_drop, hd]; rfl
      rw [this]
      rfl
  have e2 : marks k (c + 1) = marks k c ++ [((k + c : Nat) : Int)] := by
    unfold marks eI
    rw [List.range_succ, List.map_append]
    rfl
  rw [e2, e1]
  simp only [List.map_append, List.map_cons, List.map_nil]
  rw [List.set_append_right _ _ (by simp [hm])]
  simp [hm]

set_option maxHeartbeats 1000000 in
theorem mark_any (B E : Nat) (a : Option Addr) (n cap k : Nat) (zs : List Int) (w : World) (h : Row w B E a n cap zs) (hn : n ≤ 1048576) (hk : k ≤ 10000000) :
    Calls Try.prog 61 #[.slice a n cap, .int .i64 (k : Int)] w fun e w' => e = .returned (.int .i64 ((k + n : Nat) : Int)) ∧ Row w' B E a n cap (marks k n) ∧ Turned w w' B E := by
  obtain ⟨ho, hl, hcap, hb⟩ := h
  rcases ho.2 with ⟨e, hz⟩ | ⟨g, cap', cur, e, hB, hg, _⟩
  · cases e
    rw [hl] at *
    clear hl
    have HM : Hid (Row w B E none 0 0 (marks k 0)) := ⟨World.ownsRow_nil w _ _ _, rfl, Nat.le_refl _, fun k hk => by cases hk⟩
    have HT : Hid (Turned w w B E) := ⟨none, World.grownBy.refl _ _, fun g hg => by cases hg⟩
    rw [hz]
    clear ho hb hz hn hcap
    go_enter Try.func61, Try.ntmps61
    go_wp2
    go_loopw [1, 5] (fun p i wr => p = .int .i64 (k : Int) ∧ i = .int .i64 0 ∧ wr = w) (fun _ _ _ => 0)
    case atStart => exact ⟨rfl, rfl, rfl⟩
    case round =>
      obtain ⟨rfl, rfl, rfl⟩ := hrel
      go_wp2
      go_ret
      exact ⟨rfl, HM.out, HT.out⟩
  · have hca : cap = cap' ∧ a = some ⟨g, 0, none⟩ := by cases e; exact ⟨rfl, rfl⟩
    obtain ⟨rfl, rfl⟩ := hca
    have hgE := hb g rfl
    have HL : Hid (zs.length = n) := hl.symm
    have ho' : w.ownsRow B 3 1 (.slice (some ⟨g, 0, none⟩) n cap) n ((marks k 0 ++ zs.drop 0).map (Value.int .i64)) := by
      have h2 := ho
      unfold OwnI at h2
      rw [← hl] at h2
      exact h2
    have H0 : Hid _ := ho'
    clear ho ho' hg e hl hb
    go_enter Try.func61, Try.ntmps61
    go_wp2
    go_loopw [1, 5] (fun p i wr => ∃ c : Nat, c ≤ n ∧ p = .int .i64 ((k + c : Nat) : Int) ∧ i = .int .i64 c ∧ wr.ownsRow B 3 1 (.slice (some ⟨g, 0, none⟩) n cap) n ((marks k c ++ zs.drop c).map (Value.int .i64)) ∧ w.grownBy wr (some g)) (fun _ i _ => n - (intOf i).toNat)
    case atStart => exact ⟨0, Nat.zero_le _, rfl, rfl, H0.out, World.grownBy.refl _ _⟩
    case round =>
      obtain ⟨c, hc, rfl, rfl, hown, hgr⟩ := hrel
      clear H0
      by_cases hlt : c < n
      · have hltI : (c : Int) < (n : Int) := by omega
        obtain ⟨old, hold⟩ : ∃ v, wr.cell? ⟨g, c, none⟩ = some v := by
          rw [hown.cellAt c (by omega)]
          exact ⟨_, List.getElem?_eq_getElem (by rw [hown.1]; omega)⟩
        have hfr := hown.frozenAt c
        have hst := hown.stored c (.int .i64 ((k + c : Nat) : Int))
        rw [marks_step k n c zs HL.out hlt] at hst
        have hg2 : wr.grownBy (wr.setCell ⟨g, c, none⟩ (.int .i64 ((k + c : Nat) : Int))) (some g) := ⟨rfl, rfl, rfl, by simp, fun j _ hj => heap_setCell_other wr ⟨g, c, none⟩ j _ (fun e => hj (by simp [e]))⟩
        have HO : Hid _ := And.intro hst.1 (grownBy_trans hgr hg2)
        clear hst hg2 hown hgr
        obtain ⟨kc, hkc⟩ : ∃ kc, k + c = kc := ⟨_, rfl⟩
        rw [hkc] at HO
        rw [hkc]
        go_wp2
        go_roundw
        case rel => exact ⟨c + 1, by omega, by rw [show k + (c + 1) = kc + 1 by omega]; go_num, by go_num, HO.out.1, HO.out.2⟩
        case measure => simp [intOf] <;> omega
      · obtain rfl : c = n := by omega
        have HR : Hid (Row wr B E (some ⟨g, 0, none⟩) c cap (marks k c)) := by
          have e : marks k c ++ zs.drop c = marks k c := by rw [List.drop_eq_nil_of_le (by rw [HL.out]; omega), List.append_nil]
          rw [e] at hown
          have hm : (marks k c).length = c := eI_len _ _
          refine ⟨?_, hm.symm, hcap, fun j hj => by cases hj; exact ⟨hB, hgE.2⟩⟩
          unfold OwnI
          rw [hm]
          exact hown
        have HT : Hid (Turned w wr B E) := ⟨some g, hgr, fun j hj => by cases hj; exact ⟨hB, hgE.2⟩⟩
        clear hown hgr
        go_wp2
        go_ret
        exact ⟨rfl, HR.out, HT.out⟩

set_option maxHeartbeats 1000000 in
theorem held_any (a : Option Addr) (n cap k : Nat) (w : World) (h : IntsAt w a n (marks k n)) (hn : n ≤ 1048576) (hk : k ≤ 10000000) :
    Calls Try.prog 106 #[.slice a n cap, .int .i64 (k : Int)] w fun e w' => e = .returned (.int .i64 ((k + n : Nat) : Int)) ∧ w' = w := by
  go_enter Try.func106, Try.ntmps106
  go_wp2
  go_loop [1, 5] (fun p i => ∃ c : Nat, c ≤ n ∧ p = .int .i64 ((k + c : Nat) : Int) ∧ i = .int .i64 c) (fun _ i => n - (intOf i).toNat)
  case atStart => exact ⟨0, Nat.zero_le _, rfl, rfl⟩
  case round =>
    obtain ⟨c, hc, rfl, rfl⟩ := hrel
    by_cases hlt : c < n
    · obtain ⟨b, off, rfl, hcell⟩ := h.2 c hlt
      rw [show (marks k n).getD c 0 = ((k + c : Nat) : Int) from eI_getD _ _ _ hlt] at hcell
      have hltI : (c : Int) < (n : Int) := by omega
      clear h
      obtain ⟨kc, hkc⟩ : ∃ kc, k + c = kc := ⟨_, rfl⟩
      rw [hkc] at hcell
      rw [hkc]
      go_wp2
      go_round
      case rel => exact ⟨c + 1, by omega, by rw [show k + (c + 1) = kc + 1 by omega]; go_num, by go_num⟩
      case measure => simp [intOf] <;> omega
    · obtain rfl : c = n := by omega
      clear h
      go_wp2
      go_ret
      exact ⟨rfl, rfl⟩
end Go.Proofs.Ytmggogdnfgkljaa

/- The laws' marks with the sums as letters; the lengths of the answers. -/
namespace Go.Proofs.Ytmggogdnfgkljaa
open Go.ChangeShapes Go.WideShapes Go.ChangeAt Go.RowKit

theorem mark_q (B E : Nat) (a : Option Addr) (n cap k q : Nat) (zs : List Int) (w : World) (h : Row w B E a n cap zs) (hn : n ≤ 1048576) (hk : k ≤ 10000000) (hq : k + n = q) :
    Calls Try.prog 61 #[.slice a n cap, .int .i64 (k : Int)] w fun e w' => e = .returned (.int .i64 (q : Int)) ∧ Row w' B E a n cap (marks k n) ∧ Turned w w' B E := by
  subst hq
  exact mark_any B E a n cap k zs w h hn hk
theorem held_q (a : Option Addr) (n cap k q : Nat) (w : World) (h : IntsAt w a n (marks k n)) (hn : n ≤ 1048576) (hk : k ≤ 10000000) (hq : k + n = q) :
    Calls Try.prog 106 #[.slice a n cap, .int .i64 (k : Int)] w fun e w' => e = .returned (.int .i64 (q : Int)) ∧ w' = w := by
  subst hq
  exact held_any a n cap k w h hn hk
theorem addP_len (xs ys : List Int) : (addP xs ys).1.length ≤ 1048576 := by
  unfold addP
  by_cases h : okB xs = true ∧ okB ys = true
  · rw [if_pos h]
    show (eI _ _).length ≤ _
    rw [eI_len]
    have h1 := (okB_parts h.1).1
    have h2 := (okB_parts h.2).1
    exact Nat.le_trans (Gp.tl_le _ _) (by omega)
  · rw [if_neg h]; exact Nat.zero_le _
theorem mulP_len (xs ys : List Int) : (mulP xs ys).1.length ≤ 1048576 := by
  unfold mulP
  by_cases h : okB xs = true ∧ okB ys = true ∧ Gp.tl (Gp.cv (coP xs) (coP ys) xs.length) (xs.length + ys.length) ≤ 40
  · rw [if_pos h]
    show (eI _ _).length ≤ _
    rw [eI_len]
    omega
  · rw [if_neg h]; exact Nat.zero_le _
theorem divP_len (xs ys : List Int) : (divP xs ys).1.length ≤ 1048576 ∧ (divP xs ys).2.1.length ≤ 1048576 := by
  unfold divP
  by_cases h : okB xs = true ∧ okB ys = true ∧ 0 < ys.length
  · rw [if_pos h]
    have h1 := (okB_parts h.1).1
    by_cases h2 : ys.length ≤ xs.length
    · rw [if_pos h2]
      exact ⟨by show (eI _ _).length ≤ _; rw [eI_len]; exact Nat.le_trans (Gp.tl_le _ _) (by omega), by show (eI _ _).length ≤ _; rw [eI_len]; exact Nat.le_trans (Gp.tl_le _ _) (by omega)⟩
    · rw [if_neg h2]
      exact ⟨Nat.zero_le _, by show (eI _ _).length ≤ _; rw [eI_len]; exact Nat.le_trans (Gp.tl_le _ _) (by omega)⟩
  · rw [if_neg h]; exact ⟨Nat.zero_le _, Nat.zero_le _⟩
end Go.Proofs.Ytmggogdnfgkljaa

/- The model's functions over polynomials: what each answers, in memory of its own; nothing that was there turns. Conditions: lists of at most 2^20 numbers; byte numbers where sums and products are made. -/
namespace Go.Proofs.Ytmggogdnfgkljaa
open Go.ChangeShapes Go.WideShapes Go.ChangeAt Go.RowKit

/-- A row of whole numbers of ours. -/
def OwnR (w : World) (B g n cap : Nat) (f : Nat → Nat) : Prop := w.ownsRow B 3 1 (.slice (some ⟨g, 0, none⟩) n cap) n ((eI f n).map (Value.int .i64))
theorem OwnR.cap {w : World} {B g n cap : Nat} {f : Nat → Nat} (h : OwnR w B g n cap f) : n ≤ cap := by
  rcases h.2 with h' | ⟨g', cap', cur, e, _, _, hn, _⟩
  · cases h'.1
  · cases e; exact hn
theorem OwnR.cell {w : World} {B g n cap i : Nat} {f : Nat → Nat} (h : OwnR w B g n cap f) (hi : i < n) : w.cell? ⟨g, i, none⟩ = some (.int .i64 ((f i : Nat) : Int)) := by
  rw [World.ownsRow.cellAt h i (by omega)]
  simp [eI, hi]
theorem OwnR.ints {w : World} {B g n cap : Nat} {f : Nat → Nat} (h : OwnR w B g n cap f) : IntsAt w (some ⟨g, 0, none⟩) n (eI f n) := ownsRow.ints h
theorem OwnR.lt {w : World} {B g n cap : Nat} {f : Nat → Nat} (h : OwnR w B g n cap f) : B ≤ g ∧ g < w.heap.size := World.ownsRow.lt h g rfl
theorem OwnR.below {w w' : World} {B g n cap : Nat} {f : Nat → Nat} (h : OwnR w B g n cap f) (hb : Below w.heap.size w w') : OwnR w' B g n cap f := ownsRow_below h hb
theorem OwnR.other {w w' : World} {B g n cap r : Nat} {f : Nat → Nat} (h : OwnR w B g n cap f) (hg : w.grownBy w' (some r)) (hr : g ≠ r) : OwnR w' B g n cap f :=
  World.ownsRow.kept h hg (.inr (by simp [Value.ownBlock]; exact hr))
theorem OwnR.congr {w : World} {B g n cap : Nat} {f h : Nat → Nat} (ho : OwnR w B g n cap f) (e : ∀ i, i < n → f i = h i) : OwnR w B g n cap h := by
  unfold OwnR at *
  rw [← eI_congr e]
  exact ho
theorem OwnR.set {w : World} {B g n cap k v : Nat} {f : Nat → Nat} (h : OwnR w B g n cap f) (hk : k < n) :
    OwnR (w.setCell ⟨g, k, none⟩ (.int .i64 (v : Int))) B g n cap (fun i => if i = k then v else f i) ∧ w.grownBy (w.setCell ⟨g, k, none⟩ (.int .i64 (v : Int))) (some g) := by
  have hs := World.ownsRow.stored h k (.int .i64 (v : Int))
  rw [eI_set f n k v .i64 hk] at hs
  exact ⟨hs.1, ⟨rfl, rfl, rfl, by simp, fun j _ hj => heap_setCell_other w ⟨g, k, none⟩ j _ (fun e => hj (by simp [e]))⟩⟩
theorem eI_snoc (f : Nat → Nat) (k : Nat) : eI f (k + 1) = eI f k ++ [((f k : Nat) : Int)] := by
  unfold eI
  rw [List.range_succ, List.map_append]
  rfl
theorem OwnR.snoc {w : World} {B g k cap : Nat} {f : Nat → Nat} (h : w.ownsRow B 3 1 (.slice (some ⟨g, 0, none⟩) (k + 1) cap) (k + 1) ((eI f k).map (Value.int .i64) ++ [.int .i64 ((f k : Nat) : Int)])) : OwnR w B g (k + 1) cap f := by
  unfold OwnR
  rw [eI_snoc, List.map_append]
  exact h
theorem OwnR.ofI {w : World} {B g n cap : Nat} {f : Nat → Nat} (h : OwnR w B g n cap f) : OwnI w B (.slice (some ⟨g, 0, none⟩) n cap) (eI f n) := by
  unfold OwnI
  rw [eI_len]
  exact h
theorem intsE {w : World} {a : Option Addr} {n k : Nat} {f : Nat → Nat} (h : IntsAt w a n (eI f n)) (hk : k < n) : ∃ b off, a = some ⟨b, off, none⟩ ∧ w.cell? ⟨b, off + k, none⟩ = some (.int .i64 ((f k : Nat) : Int)) := by
  obtain ⟨b, off, e, hc⟩ := h.2 k hk
  rw [eI_getD f n k hk] at hc
  exact ⟨b, off, e, hc⟩

set_option maxHeartbeats 400000 in
theorem sBytes_any (a : Option Addr) (n cap : Nat) (zs : List Int) (w : World) (h : IntsAt w a n zs) (hn : n ≤ 1048576) :
    Calls Try.prog 76 #[.slice a n cap] w fun e w' => e = .returned (.bool (zs.all isB)) ∧ w' = w := by
  have HL : Hid (zs.length = n) := h.1
  go_enter Try.func76, Try.ntmps76
  go_wp2
  go_loop [3] (fun p => ∃ k : Nat, k ≤ n ∧ p = .int .i64 k ∧ Hid (∀ j : Nat, j < k → isB (zs.getD j 0) = true)) (fun p => n - (intOf p).toNat)
  case atStart => exact ⟨0, by omega, rfl, fun j hj => absurd hj (by omega)⟩
  case round =>
    obtain ⟨k, hk, rfl, HB⟩ := hrel
    by_cases hlt : k < n
    · obtain ⟨b, off, rfl, hc⟩ := h.2 k hlt
      have hltI : (k : Int) < (n : Int) := by omega
      clear h
      obtain ⟨x, HX⟩ : ∃ x, Hid (x = zs.getD k 0) := ⟨_, rfl⟩
      rw [← HX.out] at hc
      by_cases hx : isB x = true
      · go_wp2_with (go_at_call 112; refine (sIs_any _ _).mono ?_; rintro e w' ⟨rfl, rfl⟩)
        go_round
        case rel => exact ⟨k + 1, by omega, by go_num, fun j hj => by
          by_cases e : j = k
          · subst e; rw [← HX.out]; exact hx
          · exact HB.out j (by omega)⟩
        case measure => simp [intOf] <;> omega
      · have hx' : isB x = false := by simpa using hx
        have HR : Hid (zs.all isB = false) := by
          show _ = _
          rw [List.all_eq_false]
          refine ⟨x, ?_, hx⟩
          rw [HX.out]
          have := HL.out
          have hl : k < zs.length := by omega
          simp [List.getD, hl]
        go_wp2_with (go_at_call 112; refine (sIs_any _ _).mono ?_; rintro e w' ⟨rfl, rfl⟩)
        go_ret
        exact ⟨ret_bool HR.out.symm, rfl⟩
    · have HR : Hid (zs.all isB = true) := by
        show _ = _
        rw [List.all_eq_true]
        intro x hx
        obtain ⟨i, hi, rfl⟩ := List.mem_iff_getElem.1 hx
        have := HL.out
        have h2 := HB.out i (by omega)
        simpa [List.getD, hi] using h2
      clear h
      go_wp2
      go_ret
      exact ⟨ret_bool HR.out.symm, rfl⟩

theorem lit0 (w : World) (f : Nat → Nat) : OwnR (w.alloc (.cells #[] 3)) w.heap.size w.heap.size 0 0 f :=
  World.ownsRow_lit w #[] 0 (Nat.le_refl _) (by unfold maxLen; omega) rfl

end Go.Proofs.Ytmggogdnfgkljaa
