import Derived.Test.YtihklfkhjpnjkaaGreatDoorJ18
import Derived.Test.YtihklfkhjpnjkaaGreatDoorJ16
import Derived.Test.YtihklfkhjpnjkaaGreatDoorJ25
import Derived.Lib.CountLaws
import Derived.Lib.Split
import Derived.Lib.AtoiAll
set_option maxHeartbeats 8000000
set_option maxRecDepth 2000
namespace Go.Proofs.YtihklfkhjpnjkaaGreatDoor
def wd : List UInt8 → List UInt8 → List (List UInt8)
 | acc, [] => [acc]
 | acc, c :: l => if c = 32 then acc :: wd [] l else wd (acc ++ [c]) l
theorem wd_app (u : List UInt8) : ∀ acc y, wd acc (u ++ 32 :: y) = wd acc u ++ wd [] y := by
 induction u with
 | nil => intro acc y; simp [wd]
 | cons c u ih =>
  intro acc y
  show (if c = 32 then acc :: wd [] (u ++ 32 :: y) else wd (acc ++ [c]) (u ++ 32 :: y)) = (if c = 32 then acc :: wd [] u else wd (acc ++ [c]) u) ++ _
  split
  ·rw [ih]; rfl
  ·rw [ih]
theorem wd_no (l : List UInt8) : ∀ acc, (32 : UInt8) ∉ l → wd acc l = [acc ++ l] := by
 induction l with
 | nil => intro acc _; simp [wd]
 | cons c l ih =>
  intro acc h
  have hc : ¬ c = 32 := fun e => h (by simp [e])
  show (if c = 32 then _ else _) = _
  rw [if_neg hc, ih _ (fun e => h (by simp [e]))]
  simp
theorem wd_sum (l : List UInt8) : ∀ acc, ((wd acc l).map List.length).sum + (wd acc l).length = acc.length + l.length + 1 := by
 induction l with
 | nil => intro acc; simp [wd]
 | cons c l ih =>
  intro acc
  show (((if c = 32 then acc :: wd [] l else wd (acc ++ [c]) l)).map List.length).sum + (if c = 32 then acc :: wd [] l else wd (acc ++ [c]) l).length = _
  split
  ·have := ih []
   simp at this ⊢
   omega
  ·have := ih (acc ++ [c])
   simp at this ⊢
   omega
theorem idx_no (l : List UInt8) (h : (32 : UInt8) ∉ l) : Lib.indexByte l 32 = -1 := by
 induction l with
 | nil => rfl
 | cons c l ih =>
  have hc : ¬ (c == 32) = true := fun e => h (by simp [eq_of_beq e])
  unfold Lib.indexByte
  rw [if_neg hc, ih (fun e => h (by simp [e]))]
  rfl
theorem idx_hit (x r : List UInt8) (h : (32 : UInt8) ∉ x) : Lib.indexByte (x ++ 32 :: r) 32 = (x.length : Int) := by
 induction x with
 | nil => simp [Lib.indexByte]
 | cons c x ih =>
  have hc : ¬ (c == 32) = true := fun e => h (by simp [eq_of_beq e])
  have := ih (fun e => h (by simp [e]))
  show Lib.indexByte (c :: (x ++ 32 :: r)) 32 = _
  unfold Lib.indexByte
  have hn : ¬ ((x.length : Int) == -1) = true := fun e => by have := eq_of_beq e; omega
  rw [if_neg hc, this, if_neg hn]
  simp
theorem split_wd : ∀ (n : Nat) (l : List UInt8), l.length ≤ n → Lib.splitK [32] 0 (Lib.count l [32]) l = wd [] l ∧ (wd [] l).length = Lib.count l [32] + 1 := by
 intro n
 induction n with
 | zero =>
  intro l hl
  have : l = [] := List.length_eq_zero_iff.1 (by omega)
  subst this
  have h1 : Lib.index ([] : List UInt8) [32] = -1 := by rw [Lib.index_one]; rfl
  rw [Lib.count_miss h1]
  exact ⟨rfl, rfl⟩
 | succ n ih =>
  intro l hl
  by_cases h : (32 : UInt8) ∈ l
  ·obtain ⟨x, r, rfl, hx⟩ := List.eq_append_cons_of_mem h
   have h1 : Lib.index (x ++ 32 :: r) [32] = (x.length : Int) := by rw [Lib.index_one, idx_hit _ _ hx]
   have hd : (x ++ 32 :: r).drop (x.length + 1) = r := by
    rw [List.drop_append]
    simp
   rw [Lib.count_hit (by simp) h1, wd_app, wd_no _ _ hx]
   have hd' : (x ++ 32 :: r).drop (x.length + [(32 : UInt8)].length) = r := hd
   rw [hd', Nat.add_comm 1]
   obtain ⟨i1, i2⟩ := ih r (by simp at hl; omega)
   have hne : ¬ (Lib.index (x ++ 32 :: r) [32] == -1) = true := fun e => by have := eq_of_beq e; omega
   have ht : (x ++ 32 :: r).take (((x.length : Int)).toNat + 0) = x := by simp
   refine ⟨?_, by simp [i2]⟩
   show (if _ then _ else _) = _
   rw [if_neg hne, h1, ht]
   have hd2 : (x ++ 32 :: r).drop (((x.length : Int)).toNat + [(32 : UInt8)].length) = r := hd
   rw [hd2, i1]
   simp
  ·have h1 : Lib.index l [32] = -1 := by rw [Lib.index_one, idx_no l h]
   rw [Lib.count_miss h1, wd_no l [] h]
   exact ⟨rfl, rfl⟩
def wds (s : ByteArray) : List ByteArray := (wd [] s.data.toList).map fun l => ⟨l.toArray⟩
def wn (s : ByteArray) : Nat := (wds s).length
def wq (s : ByteArray) (i : Nat) : ByteArray := (wds s).getD i ByteArray.empty
theorem split_wds (s : ByteArray) : Lib.splitB ⟨#[32]⟩ 0 (Lib.countB s ⟨#[32]⟩) s = wds s ∧ Lib.countB s ⟨#[32]⟩ + 1 = wn s := by
 obtain ⟨h1, h2⟩ := split_wd s.data.toList.length s.data.toList (Nat.le_refl _)
 have h3 := Lib.splitB_data ⟨#[32]⟩ 0 (Lib.countB s ⟨#[32]⟩) s
 have h4 : Lib.countB s ⟨#[32]⟩ = Lib.count s.data.toList [32] := rfl
 refine ⟨?_, by unfold wn wds; rw [h4]; simp [h2]⟩
 have h5 : (Lib.splitB ⟨#[32]⟩ 0 (Lib.countB s ⟨#[32]⟩) s).map (·.data.toList) = wd [] s.data.toList := by rw [h3, h4]; exact h1
 have h6 := congrArg (List.map fun l : List UInt8 => (⟨l.toArray⟩ : ByteArray)) h5
 rw [List.map_map] at h6
 have h7 : ((fun l : List UInt8 => (⟨l.toArray⟩ : ByteArray)) ∘ fun x : ByteArray => x.data.toList) = id := by funext x; rfl
 rw [h7, List.map_id] at h6
 exact h6
theorem tot_list (L : List ByteArray) : tot (fun i => (L.getD i ByteArray.empty).size) L.length = (L.map ByteArray.size).sum := by
 have key : ∀ k, k ≤ L.length → tot (fun i => (L.getD i ByteArray.empty).size) k = ((L.take k).map ByteArray.size).sum := by
  intro k
  induction k with
  | zero => intro _; simp [tot]
  | succ k ih =>
   intro hk
   show tot _ k + _ = _
   rw [ih (by omega), List.take_add_one, List.getElem?_eq_getElem (show k < L.length by omega), List.map_append, List.sum_append]
   congr 1
   simp [List.getElem?_eq_getElem (show k < L.length by omega)]
 have := key L.length (Nat.le_refl _)
 simpa using this
theorem wq_sum (s : ByteArray) : tot (fun i => (wq s i).size) (wn s) + wn s = s.size + 1 := by
 have h := wd_sum s.data.toList []
 have h1 := tot_list (wds s)
 have h2 : (wds s).map ByteArray.size = (wd [] s.data.toList).map List.length := by
  unfold wds
  rw [List.map_map]
  rfl
 unfold wq wn
 rw [h1, h2]
 have h3 : (wds s).length = (wd [] s.data.toList).length := by simp [wds]
 have h4 : s.size = s.data.toList.length := rfl
 rw [h3, h4]
 simpa using h
theorem tot_six (L : Nat → Nat) (m : Nat) : tot L (m + 6) = L 0 + L 1 + L 2 + L 3 + L 4 + L 5 + tot (fun j => L (j + 6)) m := by
 induction m with
 | zero => simp [tot]
 | succ m ih =>
  show tot L (m + 6) + L (m + 6) = _ + (tot (fun j => L (j + 6)) m + L (m + 6))
  rw [ih]; omega
theorem wq_le (s : ByteArray) (i : Nat) : (wq s i).size ≤ s.size := by
 by_cases h : i < wn s
 ·have h1 := tot_le (fun i => (wq s i).size) h
  have h2 := wq_sum s
  omega
 ·unfold wq
  rw [List.getD_eq_getElem?_getD, List.getElem?_eq_none (by unfold wn at h; omega)]
  exact Nat.zero_le _
theorem tot_mon (L L' : Nat → Nat) (h : ∀ i, L i ≤ L' i) (m : Nat) : tot L m ≤ tot L' m := by
 induction m with
 | zero => exact Nat.le_refl _
 | succ m ih =>
  have := h m
  show tot L m + L m ≤ tot L' m + L' m
  omega
theorem read_sum (s : ByteArray) (f : ByteArray → ByteArray) (hf : ∀ u, (f u).size ≤ u.size) (h6 : 6 ≤ wn s) : (f (wq s 0)).size + (f (wq s 4)).size + ((wn s - 6) + tot (fun j => (f (wq s (j + 6))).size) (wn s - 6)) ≤ s.size := by
 have h1 := wq_sum s
 have h2 := tot_six (fun i => (wq s i).size) (wn s - 6)
 rw [show wn s - 6 + 6 = wn s by omega] at h2
 have h3 := tot_mon (fun j => (f (wq s (j + 6))).size) (fun j => (wq s (j + 6)).size) (fun i => hf _) (wn s - 6)
 have h4 := hf (wq s 0)
 have h5 := hf (wq s 4)
 omega
theorem wd_jp (P : Nat → ByteArray) (n : Nat) (h : ∀ i, i ≤ n → (32 : UInt8) ∉ (P i).data.toList) : wds (jp P (n + 1)) = (List.range (n + 1)).map P := by
 induction n with
 | zero =>
  show wds (P 0) = [P 0]
  unfold wds
  rw [wd_no _ _ (h 0 (Nat.le_refl _))]
  rfl
 | succ n ih =>
  rw [jp_s P (n + 1) (by omega)]
  have e : (jp P (n + 1) ++ ⟨#[32]⟩ ++ P (n + 1)).data.toList = (jp P (n + 1)).data.toList ++ 32 :: (P (n + 1)).data.toList := by simp [ByteArray.data_append]
  unfold wds at ih ⊢
  rw [e, wd_app, wd_no _ [] (h (n + 1) (Nat.le_refl _)), List.map_append, ih (fun i hi => h i (by omega)), List.range_succ (n := n + 1), List.map_append]
  rfl
theorem its_small (v : Int) (h0 : 0 ≤ v) (h1 : v ≤ 16) : (32 : UInt8) ∉ (its v).data.toList ∧ Lib.atoiAll (its v).data.toList = .ok v := by
 obtain ⟨n, rfl⟩ := Int.eq_ofNat_of_zero_le h0
 have hn : n ≤ 16 := by omega
 have e : (its (n : Int)).data.toList = Lib.decDigits n := by
  show Lib.itoa (n : Int) = _
  unfold Lib.itoa
  rw [if_neg (by omega)]
  rfl
 rw [e]
 by_cases h : n < 10
 ·rw [Lib.decDigits_one h]
  match n, h with
  | 0, _ | 1, _ | 2, _ | 3, _ | 4, _ | 5, _ | 6, _ | 7, _ | 8, _ | 9, _ => exact ⟨by decide, by decide⟩
 ·rw [Lib.decDigits_two h (by omega)]
  match n, hn, h with
  | 10, _, _ | 11, _, _ | 12, _, _ | 13, _, _ | 14, _, _ | 15, _, _ | 16, _, _ => exact ⟨by decide, by decide⟩
  | n + 17, hn, _ => omega
theorem hexT_free (s : ByteArray) : (32 : UInt8) ∉ (hexT s).data.toList := fun hm => by
 obtain ⟨i, hi, he⟩ := List.getElem_of_mem hm
 have hsz : (hexT s).data.toList.length = 2 * s.size := hexT_size s
 have h1 := hexT_at s i (by omega)
 have h2 : tat (hexT s) i = 32 := by
  unfold tat
  rw [List.getD_eq_getElem?_getD, List.getElem?_eq_getElem hi, he]
  rfl
 rw [h2] at h1
 unfold hxAt dg at h1
 split at h1 <;> split at h1 <;> omega
theorem hxd_free (s : ByteArray) : (32 : UInt8) ∉ (hxd s).data.toList := by
 unfold hxd
 split
 ·decide
 ·exact hexT_free s
theorem okP_parts {r : ByteArray} {k n i : Int} {b : ByteArray} {m : Nat} {S : Nat → ByteArray} (h : okP r k n i b m S = true) : (1 ≤ k ∧ k ≤ n ∧ n ≤ 16 ∧ 1 ≤ b.size ∧ b.size ≤ 2002) ∧ 0 ≤ i ∧ i < n ∧ r.size = 16 ∧ m ≤ 6 ∧ ∀ j, j < m → (S j).size = 16 := by
 have hk : kOk k n b := Classical.byContradiction fun hno => by rw [okP_no hno] at h; cases h
 rw [okP_yes hk] at h
 obtain ⟨h1, h2, _, h3, h4, h5⟩ := pvB_parts h
 exact ⟨hk, h1, h2, h3, h4, h5⟩
theorem words_of {r : ByteArray} {k n i : Int} {b : ByteArray} {m : Nat} {S : Nat → ByteArray} (h : okP r k n i b m S = true) : wn (pieceT r k n i b m S) = 6 + m ∧ ∀ j, j < 6 + m → wq (pieceT r k n i b m S) j = pts r k n i b m S j := by
 obtain ⟨⟨hk1, hk2, hk3, _, _⟩, hi0, hi1, _, hm, _⟩ := okP_parts h
 have hfree : ∀ j, j ≤ 5 + m → (32 : UInt8) ∉ (pts r k n i b m S j).data.toList := fun j _ => by
  match j with
  | 0 => exact hxd_free r
  | 1 => exact (its_small k (by omega) (by omega)).1
  | 2 => exact (its_small n (by omega) (by omega)).1
  | 3 => exact (its_small i (by omega) (by omega)).1
  | 4 => exact hxd_free b
  | 5 => exact (its_small (m : Int) (by omega) (by omega)).1
  | j + 6 => exact hxd_free (S j)
 have e : wds (pieceT r k n i b m S) = (List.range (6 + m)).map (pts r k n i b m S) := by
  unfold pieceT
  rw [show 6 + m = (5 + m) + 1 by omega]
  exact wd_jp _ _ hfree
 refine ⟨by unfold wn; rw [e]; simp, fun j hj => ?_⟩
 unfold wq
 rw [e, List.getD_eq_getElem?_getD, List.getElem?_map, List.getElem?_range hj]
 rfl
theorem text_short {r : ByteArray} {k n i : Int} {b : ByteArray} {m : Nat} {S : Nat → ByteArray} (h : okP r k n i b m S = true) : (pieceT r k n i b m S).size ≤ 9000 := by
 obtain ⟨⟨hk1, hk2, hk3, hb1, hb2⟩, hi0, hi1, hr, hm, hS⟩ := okP_parts h
 have h1 := jp_size (r := r) (b := b) (S := S) (its_size k (by omega) (by omega)).1 (its_size n (by omega) (by omega)).1 (its_size i (by omega) (by omega)).1 (its_size (m : Int) (by omega) (by omega)).1 m
 have key : ∀ c, c ≤ m → tot (fun j => (S j).size) c ≤ c * 16 := fun c => by
  induction c with
  | zero => intro _; exact Nat.le_refl _
  | succ c ih =>
   intro hc
   have a1 := ih (by omega)
   have a2 := hS c (by omega)
   show tot _ c + (S c).size ≤ _
   omega
 have h2 := key m (Nat.le_refl _)
 unfold pieceT
 omega
def atv (u : ByteArray) : Int := match Lib.atoiAll u.data.toList with
 | .ok v => v
 | .«syntax» => 0
 | .range => Lib.atoiSat u.data.toList
def atb (u : ByteArray) : Bool := match Lib.atoiAll u.data.toList with
 | .ok _ => true
 | _ => false
theorem atv_its (v : Int) (h0 : 0 ≤ v) (h1 : v ≤ 16) : atv (its v) = v ∧ atb (its v) = true := by
 have h := (its_small v h0 h1).2
 unfold atv atb
 rw [h]
 exact ⟨rfl, rfl⟩
theorem hxd_back (s : ByteArray) (h : 1 ≤ s.size) : hbS (hxd s) = s ∧ hbF (hxd s) = true := by
 have e : hxd s = hexT s := if_neg (by omega)
 rw [e]
 exact ⟨hex_back s, hex_ok s⟩
noncomputable def hyv (u : ByteArray) : ByteArray := if u = ⟨#[45]⟩ then ByteArray.empty else hbS u
theorem hyv_le (u : ByteArray) : (hyv u).size ≤ u.size := by
 unfold hyv
 split
 ·exact Nat.zero_le _
 ·exact hbS_le u
theorem hyv_back (s : ByteArray) (h : 1 ≤ s.size) : hyv (hxd s) = s := by
 have e : hxd s = hexT s := if_neg (by omega)
 unfold hyv
 rw [e, if_neg, hex_back]
 intro h1
 have h2 := congrArg ByteArray.size h1
 rw [hexT_size] at h2
 have h3 : (⟨#[45]⟩ : ByteArray).size = 1 := rfl
 omega
def dgB (l : List UInt8) : Bool := l.all fun c => decide (48 ≤ c.toNat) && decide (c.toNat ≤ 57)
def nmf (l : List UInt8) : Nat := l.foldl (fun v c => 10 * v + (c.toNat - 48)) 0
def nmv (u : ByteArray) : Int := if u.size = 0 ∨ 9 < u.size ∨ dgB u.data.toList = false then -1 else if its ((nmf u.data.toList : Nat) : Int) = u then ((nmf u.data.toList : Nat) : Int) else -1
theorem nmv_its (v : Int) (h0 : 0 ≤ v) (h1 : v ≤ 16) : nmv (its v) = v := by
 obtain ⟨n, rfl⟩ := Int.eq_ofNat_of_zero_le h0
 have hn : n ≤ 16 := by omega
 have e : (its (n : Int)).data.toList = Lib.decDigits n := by
  show Lib.itoa (n : Int) = _
  unfold Lib.itoa
  rw [if_neg (by omega)]
  rfl
 have key : dgB (Lib.decDigits n) = true ∧ nmf (Lib.decDigits n) = n ∧ (Lib.decDigits n).length ≠ 0 ∧ (Lib.decDigits n).length ≤ 9 := by
  by_cases h : n < 10
  ·rw [Lib.decDigits_one h]
   match n, h with
   | 0, _ | 1, _ | 2, _ | 3, _ | 4, _ | 5, _ | 6, _ | 7, _ | 8, _ | 9, _ => exact ⟨by decide, by decide, by decide, by decide⟩
  ·rw [Lib.decDigits_two h (by omega)]
   match n, hn, h with
   | 10, _, _ | 11, _, _ | 12, _, _ | 13, _, _ | 14, _, _ | 15, _, _ | 16, _, _ => exact ⟨by decide, by decide, by decide, by decide⟩
   | n + 17, hn, _ => omega
 have hs : (its (n : Int)).size = (Lib.decDigits n).length := by rw [← e]; rfl
 obtain ⟨k1, k2, k3, k4⟩ := key
 have hno : ¬ ((its (n : Int)).size = 0 ∨ 9 < (its (n : Int)).size ∨ dgB (its (n : Int)).data.toList = false) := by
  rw [hs, e, k1]
  rintro (h | h | h)
  ·exact k3 h
  ·omega
  ·cases h
 unfold nmv
 rw [if_neg hno, e, k2, if_pos rfl]
def rdP (s : ByteArray) : Pc := ⟨hbS (wq s 0), atv (wq s 1), atv (wq s 2), atv (wq s 3), hbS (wq s 4), wn s - 6, fun j => hbS (wq s (j + 6))⟩
noncomputable def rdM (s : ByteArray) : Pc := ⟨hyv (wq s 0), nmv (wq s 1), nmv (wq s 2), nmv (wq s 3), hyv (wq s 4), wn s - 6, fun j => hyv (wq s (j + 6))⟩
noncomputable def okQ (p : Pc) : Bool := okP p.r p.k p.n p.i p.b p.m p.S
noncomputable def txQ (p : Pc) : ByteArray := pieceT p.r p.k p.n p.i p.b p.m p.S
def sameQ (p q : Pc) : Prop := p.r = q.r ∧ p.k = q.k ∧ p.n = q.n ∧ p.i = q.i ∧ p.b = q.b ∧ p.m = q.m ∧ ∀ j, j < q.m → p.S j = q.S j
def rdOk (s : ByteArray) : Prop := 6 ≤ wn s ∧ hbF (wq s 0) = true ∧ atb (wq s 1) = true ∧ atb (wq s 2) = true ∧ atb (wq s 3) = true ∧ hbF (wq s 4) = true ∧ ∀ j, j < wn s - 6 → hbF (wq s (j + 6)) = true
theorem reads_back (q : Pc) (h : okQ q = true) : rdOk (txQ q) ∧ sameQ (rdP (txQ q)) q ∧ sameQ (rdM (txQ q)) q := by
 obtain ⟨⟨hk1, hk2, hk3, hb1, hb2⟩, hi0, hi1, hr, hm, hS⟩ := okP_parts h
 obtain ⟨h1, h2⟩ := words_of h
 have h1' : wn (txQ q) = 6 + q.m := h1
 have w0 : wq (txQ q) 0 = hxd q.r := h2 0 (by omega)
 have w1 : wq (txQ q) 1 = its q.k := h2 1 (by omega)
 have w2 : wq (txQ q) 2 = its q.n := h2 2 (by omega)
 have w3 : wq (txQ q) 3 = its q.i := h2 3 (by omega)
 have w4 : wq (txQ q) 4 = hxd q.b := h2 4 (by omega)
 have w6 : ∀ j, j < q.m → wq (txQ q) (j + 6) = hxd (q.S j) := fun j hj => h2 (j + 6) (by omega)
 have e6 : wn (txQ q) - 6 = q.m := by omega
 have s6 : ∀ j, j < q.m → 1 ≤ (q.S j).size := fun j hj => by have := hS j hj; omega
 refine ⟨⟨by omega, ?_, ?_, ?_, ?_, ?_, fun j hj => ?_⟩, ⟨?_, ?_, ?_, ?_, ?_, e6, fun j hj => ?_⟩, ⟨?_, ?_, ?_, ?_, ?_, e6, fun j hj => ?_⟩⟩
 ·rw [w0]; exact (hxd_back _ (by omega)).2
 ·rw [w1]; exact (atv_its _ (by omega) (by omega)).2
 ·rw [w2]; exact (atv_its _ (by omega) (by omega)).2
 ·rw [w3]; exact (atv_its _ (by omega) (by omega)).2
 ·rw [w4]; exact (hxd_back _ hb1).2
 ·rw [w6 j (by omega)]; exact (hxd_back _ (s6 j (by omega))).2
 ·show hbS (wq (txQ q) 0) = _; rw [w0]; exact (hxd_back _ (by omega)).1
 ·show atv (wq (txQ q) 1) = _; rw [w1]; exact (atv_its _ (by omega) (by omega)).1
 ·show atv (wq (txQ q) 2) = _; rw [w2]; exact (atv_its _ (by omega) (by omega)).1
 ·show atv (wq (txQ q) 3) = _; rw [w3]; exact (atv_its _ (by omega) (by omega)).1
 ·show hbS (wq (txQ q) 4) = _; rw [w4]; exact (hxd_back _ hb1).1
 ·show hbS (wq (txQ q) (j + 6)) = _; rw [w6 j hj]; exact (hxd_back _ (s6 j hj)).1
 ·show hyv (wq (txQ q) 0) = _; rw [w0]; exact hyv_back _ (by omega)
 ·show nmv (wq (txQ q) 1) = _; rw [w1]; exact nmv_its _ (by omega) (by omega)
 ·show nmv (wq (txQ q) 2) = _; rw [w2]; exact nmv_its _ (by omega) (by omega)
 ·show nmv (wq (txQ q) 3) = _; rw [w3]; exact nmv_its _ (by omega) (by omega)
 ·show hyv (wq (txQ q) 4) = _; rw [w4]; exact hyv_back _ hb1
 ·show hyv (wq (txQ q) (j + 6)) = _; rw [w6 j hj]; exact hyv_back _ (s6 j hj)
end Go.Proofs.YtihklfkhjpnjkaaGreatDoor
namespace Go.Proofs.YtihklfkhjpnjkaaGreatDoor
open Gt (pl pr_congr)
theorem aS_congr {m : Nat} {S S' : Nat → ByteArray} (h : ∀ j, j < m → S j = S' j) : aS m S = aS m S' := by
 have key : ∀ {S S' : Nat → ByteArray}, (∀ j, j < m → S j = S' j) → aS m S = true → aS m S' = true := fun {S S'} h h1 => by
  refine aS_yes fun i hi => ?_
  unfold aS at h1
  have h2 : ∀ i, i < m → (S i).size = 16 := by simpa using h1
  rw [← h i hi]
  exact h2 i hi
 cases h1 : aS m S <;> cases h2 : aS m S'
 ·rfl
 ·rw [key (fun j hj => (h j hj).symm) h2] at h1; cases h1
 ·rw [key h h1] at h2; cases h2
 ·rfl
theorem prB_congr {x : ByteArray} {i n : Int} {m : Nat} {S S' : Nat → ByteArray} (h : ∀ j, j < m → S j = S' j) : prB x i n m S = prB x i n m S' := by
 unfold prB
 rw [aS_congr h]
theorem pvB_congr {r x : ByteArray} {i n : Int} {m : Nat} {S S' : Nat → ByteArray} (h : ∀ j, j < m → S j = S' j) : pvB r x i n m S = pvB r x i n m S' := by
 unfold pvB
 rw [prB_congr h]
 cases hb : prB x i n m S'
 ·rw [Bool.false_and, Bool.false_and]
 ·have hb' : prB x i n m S = true := by rw [prB_congr h]; exact hb
  have hm : m = pl i.toNat n.toNat := by
   have h1 := hb
   unfold prB at h1
   simp only [Bool.and_eq_true, decide_eq_true_eq] at h1
   have h2 := h1.1.2
   unfold plI at h2
   split at h2 <;> omega
  have e : prS x i n m S = prS x i n m S' := by
   unfold prS
   rw [if_pos hb', if_pos hb]
   refine pr_congr x i.toNat 0 0 fun j hj => ?_
   simpa using h j (by omega)
  rw [e]
theorem okP_congr {r : ByteArray} {k n i : Int} {b : ByteArray} {m : Nat} {S S' : Nat → ByteArray} (h : ∀ j, j < m → S j = S' j) : okP r k n i b m S = okP r k n i b m S' := by
 by_cases hk : kOk k n b
 ·rw [okP_yes hk, okP_yes hk, pvB_congr h]
 ·rw [okP_no hk, okP_no hk]
theorem jp_congr {P P' : Nat → ByteArray} : ∀ n, (∀ j, j < n → P j = P' j) → jp P n = jp P' n
 | 0, _ => rfl
 | n + 1, h => by
  by_cases hn : n = 0
  ·subst hn
   exact h 0 (by omega)
  ·rw [jp_s P n hn, jp_s P' n hn, jp_congr n (fun j hj => h j (by omega)), h n (by omega)]
theorem pieceT_congr {r : ByteArray} {k n i : Int} {b : ByteArray} {m : Nat} {S S' : Nat → ByteArray} (h : ∀ j, j < m → S j = S' j) : pieceT r k n i b m S = pieceT r k n i b m S' := by
 unfold pieceT
 refine jp_congr _ fun j hj => ?_
 match j with
 | 0 | 1 | 2 | 3 | 4 | 5 => rfl
 | j + 6 => show hxd (S j) = hxd (S' j); rw [h j (by omega)]
theorem sameQ.eqs {p q : Pc} (h : sameQ p q) : okQ p = okQ q ∧ txQ p = txQ q := by
 obtain ⟨r, k, n, i, b, m, S⟩ := p
 obtain ⟨r', k', n', i', b', m', S'⟩ := q
 obtain ⟨h1, h2, h3, h4, h5, h6, h7⟩ := h
 dsimp only at h1 h2 h3 h4 h5 h6 h7
 subst h1; subst h2; subst h3; subst h4; subst h5; subst h6
 exact ⟨okP_congr h7, pieceT_congr h7⟩
def NoQ (s : ByteArray) : Prop := ∀ q, okQ q = true → txQ q ≠ s
theorem no_words {s : ByteArray} (h : ¬ rdOk s) : NoQ s := fun q hq e => h (e ▸ (reads_back q hq).1)
theorem no_prog {s : ByteArray} (h : ¬ (okQ (rdP s) = true ∧ txQ (rdP s) = s)) : NoQ s := fun q hq e => by
 have h1 := (reads_back q hq).2.1
 rw [e] at h1
 obtain ⟨h2, h3⟩ := h1.eqs
 exact h ⟨h2.trans hq, h3.trans e⟩
theorem no_model {s : ByteArray} (h : ¬ (okQ (rdM s) = true ∧ txQ (rdM s) = s)) : NoQ s := fun q hq e => by
 have h1 := (reads_back q hq).2.2
 rw [e] at h1
 obtain ⟨h2, h3⟩ := h1.eqs
 exact h ⟨h2.trans hq, h3.trans e⟩
theorem no_long {s : ByteArray} (h : 9000 < s.size) : NoQ s := fun q hq e => by
 have h1 : (txQ q).size ≤ 9000 := text_short hq
 rw [e] at h1
 omega
theorem no_few {s : ByteArray} (h : wn s < 6) : NoQ s := no_words fun h1 => by have := h1.1; omega
def pz : Pc := ⟨ByteArray.empty, 0, 0, 0, ByteArray.empty, 0, fun _ => ByteArray.empty⟩
def RdS (s : ByteArray) (p : Pc) (b : Bool) : Prop := (b = true ∧ okQ p = true ∧ txQ p = s) ∨ (b = false ∧ p = pz ∧ NoQ s)
theorem RdS.one {s : ByteArray} {p p' : Pc} {b b' : Bool} (h : RdS s p b) (h' : RdS s p' b') : b = b' ∧ sameQ p p' := by
 rcases h with ⟨hb, h1, h2⟩ | ⟨hb, h1, h2⟩
 ·rcases h' with ⟨hb', h1', h2'⟩ | ⟨hb', h1', h2'⟩
  ·refine ⟨hb.trans hb'.symm, ?_⟩
   have a := (reads_back p h1).2.1
   have a' := (reads_back p' h1').2.1
   rw [h2] at a
   rw [h2'] at a'
   obtain ⟨c1, c2, c3, c4, c5, c6, c7⟩ := a
   obtain ⟨d1, d2, d3, d4, d5, d6, d7⟩ := a'
   exact ⟨c1.symm.trans d1, c2.symm.trans d2, c3.symm.trans d3, c4.symm.trans d4, c5.symm.trans d5, c6.symm.trans d6, fun j hj => (c7 j (by omega)).symm.trans (d7 j hj)⟩
  ·exact absurd h2 (h2' p h1)
 ·rcases h' with ⟨hb', h1', h2'⟩ | ⟨hb', h1', h2'⟩
  ·exact absurd h2' (h2 p' h1')
  ·subst h1; subst h1'
   exact ⟨hb.trans hb'.symm, rfl, rfl, rfl, rfl, rfl, rfl, fun _ _ => rfl⟩
end Go.Proofs.YtihklfkhjpnjkaaGreatDoor
