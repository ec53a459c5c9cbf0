import Derived.Test.YtodnodekheaacaaGreatDoorI2
import Derived.Test.YtodnodekheaacaaGreatDoorI9
import Derived.Test.YtodnodekheaacaaGreatDoorI7
set_option maxHeartbeats 8000000
set_option maxRecDepth 2000
namespace Go.Proofs.YtodnodekheaacaaGreatDoor
open Go.Proofs.YtodnodekheaacaaGreatDoor.Gp (m m_lt m_comm m_assoc m_xor xor_m m_zero zero_m m_one one_m m_nat m_ne xor_self xor_left xor_can xor_eq xor_lt)
def txt (f : Nat → Nat) (l : Nat) : ByteArray := strOfNums (eI f l)
theorem txt_size (f : Nat → Nat) (l : Nat) : (txt f l).size = l := by unfold txt; rw [strOfNums_size, eI_len]
theorem tat_txt {f : Nat → Nat} {l k : Nat} (hk : k < l) (hf : f k < 256) : tat (txt f l) k = f k := by
 unfold txt
 rw [tat_str, eI_getD _ _ _ hk, Int.toNat_natCast, Nat.mod_eq_of_lt hf]
theorem txt_congr {f g : Nat → Nat} {l : Nat} (h : ∀ i, i < l → f i = g i) : txt f l = txt g l := by unfold txt; rw [eI_congr h]
theorem txt_of (s : ByteArray) : txt (tat s) s.size = s := by
 refine str_ext (txt_size _ _) fun k => ?_
 by_cases hk : k < s.size
 ·exact tat_txt hk (tat_lt s k)
 ·rw [tat_out s k hk, tat_out _ k (by rw [txt_size]; exact hk)]
theorem txt_is {s : ByteArray} {f : Nat → Nat} {l : Nat} (hs : s.size = l) (h : ∀ k, k < l → tat s k = f k) : s = txt f l := by
 rw [← txt_of s, hs]
 exact txt_congr h
def blen (s k : Nat) : Nat := (s + 2 + k - 1) / k
theorem blen_ge {s k : Nat} (hk : 1 ≤ k) : s + 2 ≤ k * blen s k := by
 unfold blen
 have := Nat.div_add_mod (s + 2 + k - 1) k
 have h2 := Nat.mod_lt (s + 2 + k - 1) (show k > 0 by omega)
 omega
theorem blen_pos {s k : Nat} (hk : 1 ≤ k) : 1 ≤ blen s k := by
 have := blen_ge (s := s) hk
 rcases Nat.eq_zero_or_pos (blen s k) with h | h
 ·rw [h] at this; omega
 ·exact h
theorem blen_le {s k : Nat} (hk : 1 ≤ k) : blen s k ≤ s + 2 := by
 unfold blen
 rw [Nat.div_le_iff_le_mul_add_pred (by omega)]
 have : s + 2 ≤ k * (s + 2) := Nat.le_mul_of_pos_left _ (by omega)
 omega
def frm (s : ByteArray) (q : Nat) : Nat := if q = 0 then s.size / 256 else if q = 1 then s.size % 256 else tat s (q - 2)
theorem frm_lt {s : ByteArray} (hs : s.size < 65536) (q : Nat) : frm s q < 256 := by
 unfold frm
 split
 ·omega
 ·split
  ·omega
  ·exact tat_lt _ _
theorem frm_out {s : ByteArray} {q : Nat} (h : s.size + 2 ≤ q) : frm s q = 0 := by
 unfold frm
 rw [if_neg (by omega), if_neg (by omega), tat_out _ _ (by omega)]
def pcs (W : Nat → Nat) (l i p : Nat) : Nat := W (i * l + p)
def whl (T : Nat → Nat → Nat) (l q : Nat) : Nat := T (q / l) (q % l)
theorem whl_at {T : Nat → Nat → Nat} {l i p : Nat} (hp : p < l) : whl T l (i * l + p) = T i p := by
 unfold whl
 have h1 : (i * l + p) / l = i := by rw [Nat.mul_comm, Nat.mul_add_div (by omega), Nat.div_eq_of_lt hp, Nat.add_zero]
 have h2 : (i * l + p) % l = p := by rw [Nat.mul_comm, Nat.mul_add_mod, Nat.mod_eq_of_lt hp]
 rw [h1, h2]
theorem whl_byt {T : Nat → Nat → Nat} (h : Gm.Byt T) (l q : Nat) : whl T l q < 256 := h _ _
def bod (k : Nat) (F T : Nat → Nat → Nat) (l i : Nat) : ByteArray := txt (Gm.mp k F T i) l
theorem bod_size (k : Nat) (F T : Nat → Nat → Nat) (l i : Nat) : (bod k F T l i).size = l := txt_size _ _
theorem tat_bod {k : Nat} {F T : Nat → Nat → Nat} {l i p : Nat} (hp : p < l) : tat (bod k F T l i) p = Gm.mp k F T i p := tat_txt hp (Gm.mp_byt _ _ _ _ _)
theorem bod_congr {k : Nat} {F F' T T' : Nat → Nat → Nat} {l i : Nat} (h1 : ∀ t, t < k → F i t = F' i t) (h2 : ∀ t p, t < k → p < l → T t p = T' t p) : bod k F T l i = bod k F' T' l i :=
 txt_congr (fun p hp => Gm.mp_congr h1 (fun t ht => h2 t p ht hp))
def enc (s : ByteArray) (k i p : Nat) : Nat := pcs (frm s) (blen s.size k) i p
theorem bod_first {k : Nat} {T : Nat → Nat → Nat} (hT : Gm.Byt T) {i p : Nat} (hi : i < k) : Gm.mp k (Gm.sprd k) T i p = T i p :=
 Gm.mp_row hi (hT i p) (fun t _ => by unfold Gm.sprd; rw [if_pos hi])
theorem back_first {k : Nat} {p : Nat → Nat} (hk : k ≤ 256) (hp : ∀ t, p t < 256) (hd : ∀ i j, i < k → j < k → i ≠ j → p i ≠ p j) {T : Nat → Nat → Nat} (hT : Gm.Byt T) {i q : Nat} (hi : i < k) :
  Gm.mp k (Gm.iv (fun t j => Gm.sprd k (p t) j) k) (fun t q => Gm.mp k (Gm.sprd k) T (p t) q) i q = T i q := by
 have hA : Gm.Byt (fun t j => Gm.sprd k (p t) j) := fun _ _ => Gm.sprd_byt k _ _
 have hr := Gm.spread_rk hk hp hd
 have e : Gm.mp k (Gm.iv (fun t j => Gm.sprd k (p t) j) k) (fun t q => Gm.mp k (Gm.sprd k) T (p t) q) i q = Gm.mp k (Gm.iv (fun t j => Gm.sprd k (p t) j) k) (Gm.mp k (fun t j => Gm.sprd k (p t) j) T) i q := rfl
 rw [e, ← Gm.mp_assoc]
 rw [Gm.mp_congr (A' := Gm.dl) (B' := T) (fun t ht => (Gm.iv_both hA hr i t hi ht).2) (fun _ _ => rfl)]
 exact Gm.mp_dl hi (hT i q)
theorem iv_dl {n i j : Nat} {A : Nat → Nat → Nat} (hA : Gm.Byt A) (h : ∀ i j, i < n → j < n → A i j = Gm.dl i j) (hr : Gm.rk A n n = n) (hi : i < n) (hj : j < n) : Gm.iv A n i j = Gm.dl i j := by
 have h1 := (Gm.iv_both hA hr i j hi hj).1
 rw [Gm.mp_congr (A' := Gm.dl) (B' := Gm.iv A n) (fun t ht => h i t hi ht) (fun _ _ => rfl), Gm.mp_dl hi (Gm.iv_byt hA n i j)] at h1
 exact h1
def tells (W : Nat → Nat) (N k : Nat) : Prop := 2 ≤ N ∧ W 0 * 256 + W 1 ≤ 2000 ∧ N = k * blen (W 0 * 256 + W 1) k ∧ ∀ q, W 0 * 256 + W 1 + 2 ≤ q → q < N → W q = 0
def told (W : Nat → Nat) : ByteArray := txt (fun q => W (q + 2)) (W 0 * 256 + W 1)
theorem frm_told {W : Nat → Nat} {N k : Nat} (hW : ∀ q, W q < 256) (h : tells W N k) {q : Nat} (hq : q < N) : frm (told W) q = W q := by
 obtain ⟨_, h2, h3, h4⟩ := h
 have hs : (told W).size = W 0 * 256 + W 1 := txt_size _ _
 have hw0 := hW 0
 have hw1 := hW 1
 unfold frm
 by_cases e0 : q = 0
 ·subst e0
  rw [if_pos rfl, hs]
  omega
 ·rw [if_neg e0]
  by_cases e1 : q = 1
  ·subst e1
   rw [if_pos rfl, hs]
   omega
  ·rw [if_neg e1]
   by_cases e2 : q < W 0 * 256 + W 1 + 2
   ·unfold told
    rw [tat_txt (f := fun q => W (q + 2)) (by omega) (hW _)]
    show W (q - 2 + 2) = W q
    rw [show q - 2 + 2 = q by omega]
   ·have hno : ¬ q - 2 < W 0 * 256 + W 1 := by clear h3 h4 hs; omega
    have hge : W 0 * 256 + W 1 + 2 ≤ q := Nat.le_of_not_lt e2
    rw [tat_out (told W) (q - 2) (by rw [hs]; exact hno), h4 q hge hq]
theorem tells_iff {W : Nat → Nat} {l k : Nat} (hW : ∀ q, W q < 256) (hk : 1 ≤ k) (h0 : 2 ≤ k * l) (h1 : W 0 * 256 + W 1 ≤ 2000) :
  tells W (k * l) k ↔ (blen (W 0 * 256 + W 1) k = l ∧ ∀ q, q < k * l → frm (told W) q = W q) := by
 constructor
 ·intro h
  refine ⟨?_, fun q hq => frm_told hW h hq⟩
  have := h.2.2.1
  exact (Nat.eq_of_mul_eq_mul_left (by omega) this).symm
 ·rintro ⟨h3, h4⟩
  refine ⟨h0, h1, by rw [h3], fun q hq hq2 => ?_⟩
  rw [← h4 q hq2]
  exact frm_out (by unfold told; rw [txt_size]; omega)
end Go.Proofs.YtodnodekheaacaaGreatDoor
