import Derived.Test.YtihklfkhjpnjkaaGreatDoorU19
import Derived.Test.YtihklfkhjpnjkaaGreatDoorU25
import Derived.Test.YtihklfkhjpnjkaaGreatDoorU26
import Derived.Test.YtihklfkhjpnjkaaGreatDoorU10
import Derived.Test.YtihklfkhjpnjkaaGreatDoorU16
import Derived.Test.YtihklfkhjpnjkaaGreatDoorU13
import Derived.Lib.CountLaws
import Derived.Lib.Split
import Derived.Lib.AtoiAll
set_option maxHeartbeats 8000000
set_option maxRecDepth 2000
open Go.ChangeShapes Go.WideShapes Go.ChangeAt Go.RowKit
namespace Go.Proofs.YtihklfkhjpnjkaaGreatDoor
def kOk (k n : Int) (b : ByteArray) : Prop := 1 ≤ k ∧ k ≤ n ∧ n ≤ 16 ∧ 1 ≤ b.size ∧ b.size ≤ 2002
instance (k n : Int) (b : ByteArray) : Decidable (kOk k n b) := by unfold kOk; exact inferInstance
noncomputable def okP (r : ByteArray) (k n i : Int) (b : ByteArray) (m : Nat) (S : Nat → ByteArray) : Bool := if kOk k n b then pvB r (plf k n i b) i n m S else false
theorem okP_no {r : ByteArray} {k n i : Int} {b : ByteArray} {m : Nat} {S : Nat → ByteArray} (h : ¬ kOk k n b) : okP r k n i b m S = false := if_neg h
theorem okP_yes {r : ByteArray} {k n i : Int} {b : ByteArray} {m : Nat} {S : Nat → ByteArray} (h : kOk k n b) : okP r k n i b m S = pvB r (plf k n i b) i n m S := if_pos h
theorem pvB_parts {r x : ByteArray} {i n : Int} {m : Nat} {S : Nat → ByteArray} (h : pvB r x i n m S = true) : 0 ≤ i ∧ i < n ∧ n ≤ 64 ∧ r.size = 16 ∧ m ≤ 6 ∧ ∀ j, j < m → (S j).size = 16 := by
 unfold pvB at h
 rw [Bool.and_eq_true] at h
 obtain ⟨h1, h2⟩ := h
 obtain ⟨h3, h4, h5⟩ := prB_parts h1
 have h6 := plI_in (i := i) (n := n) (by omega)
 have h7 : 0 ≤ i ∧ i < n ∧ n ≤ 64 := by simp [inT] at h6; omega
 have h8 : plI i n ≤ 6 := by
  unfold plI
  rw [if_pos h6]
  have := Gt.pl_le 6 i.toNat n.toNat (by omega)
  omega
 refine ⟨h7.1, h7.2.1, h7.2.2, ?_, by omega, h5⟩
 have h9 := of_decide_eq_true h2
 rw [← h9]
 unfold prS
 rw [if_pos h1]
 exact Gt.pr_size _ _ _ h3
theorem pieceOk_any (r : ByteArray) (k n i : Int) (b : ByteArray) (a : Option Addr) (m cap : Nat) (S : Nat → ByteArray) (w : World) (h : TxtAt w a m S) (hm : m ≤ 1048576) (hL : ∀ i, i < m → (S i).size ≤ maxLen) :
  Calls Tryz.prog 13 #[pcV r k n i b (.slice a m cap)] w fun e w' => e = .returned (.bool (okP r k n i b m S)) ∧ Below w.heap.size w w' := by
 obtain ⟨sz, hsz⟩ : ∃ sz, b.size = sz := ⟨_, rfl⟩
 have hb0 : Below w.heap.size w (w.alloc (.cells (pcC r k n i b (.slice a m cap)) 33)) := (Below.refl _ _).alloc (Nat.le_refl _) _
 have HB0 : Hid (Below w.heap.size w (w.alloc (.cells (pcC r k n i b (.slice a m cap)) 33))) := hb0
 by_cases c1 : k < 1
 ·rw [okP_no (by unfold kOk; omega)]
  clear h hL hb0
  go_enter Tryz.func13, Tryz.ntmps13
  go_wp2
  go_ret
  exact ⟨rfl, HB0.out⟩
 by_cases c2 : n < k
 ·rw [okP_no (by unfold kOk; omega)]
  clear h hL hb0
  go_enter Tryz.func13, Tryz.ntmps13
  go_wp2
  go_ret
  exact ⟨rfl, HB0.out⟩
 by_cases c3 : 16 < n
 ·rw [okP_no (by unfold kOk; omega)]
  clear h hL hb0
  go_enter Tryz.func13, Tryz.ntmps13
  go_wp2
  go_ret
  exact ⟨rfl, HB0.out⟩
 by_cases c4 : (sz : Int) < 1
 ·rw [okP_no (by unfold kOk; omega)]
  clear h hL hb0
  go_enter Tryz.func13, Tryz.ntmps13
  go_wp2
  go_ret
  exact ⟨rfl, HB0.out⟩
 by_cases c5 : 2002 < (sz : Int)
 ·rw [okP_no (by unfold kOk; omega)]
  clear h hL hb0
  go_enter Tryz.func13, Tryz.ntmps13
  go_wp2
  go_ret
  exact ⟨rfl, HB0.out⟩
 rw [okP_yes (by unfold kOk; omega)]
 obtain ⟨w0, HW0⟩ : ∃ x, Hid (x = w.alloc (.cells (pcC r k n i b (.slice a m cap)) 33)) := ⟨_, rfl⟩
 obtain ⟨B, HB⟩ : ∃ x, Hid (x = w.heap.size) := ⟨_, rfl⟩
 rw [← HW0.out] at HB0 hb0
 have HR : Hid (Row w0 B 33 (pcC r k n i b (.slice a m cap))) := by show Row _ _ _ _; rw [HW0.out, HB.out]; exact Row.new w _ _
 have KL : Hid (∀ W, Calls Tryz.prog 17 #[.int .i64 k, .int .i64 n, .int .i64 i, .string b] W fun e w' => e = .returned (.string (plf k n i b)) ∧ Below W.heap.size W w') := fun W => pieceLeaf_any k n i b W (by omega)
 have KP : Hid (∀ W, Below w0.heap.size w0 W → Calls Tryz.prog 36 #[.string r, .string (plf k n i b), .int .i64 i, .int .i64 n, .slice a m cap] W fun e w' => e = .returned (.bool (pvB r (plf k n i b) i n m S)) ∧ Below W.heap.size W w') := fun W hW => proved_any r (plf k n i b) i n a m cap S W ((h.below hb0).below hW) hm hL
 generalize plf k n i b = x at KL KP ⊢
 generalize pvB r x i n m S = ans at KP ⊢
 have q0 := HR.out.cell 0
 have q1 := HR.out.cell 1
 have q2 := HR.out.cell 2
 have q3 := HR.out.cell 3
 have q4 := HR.out.cell 4
 have q5 := HR.out.cell 5
 have lB := HR.out.lt
 simp at q0 q1 q2 q3 q4 q5
 clear h hL hb0
 go_enter Tryz.func13, Tryz.ntmps13
 go_wp2_with fail
 rw [← HW0.out, ← HB.out]
 go_region_held3 (fun w' => w'.cell? ⟨B, 0, none⟩ = some (.string r) ∧ w'.cell? ⟨B, 1, none⟩ = some (.int .i64 k) ∧ w'.cell? ⟨B, 2, none⟩ = some (.int .i64 n) ∧ w'.cell? ⟨B, 3, none⟩ = some (.int .i64 i) ∧ w'.cell? ⟨B, 4, none⟩ = some (.string b) ∧ w'.cell? ⟨B, 5, none⟩ = some (.slice a m cap)) (go_keep) ((first | (go_at_call 17; refine Calls.mono (KL.out _) ?_; rintro e w5 ⟨rfl, hb5'⟩; have hb5 := below_of_drew hb5'; clear hb5'; have p0 := (hb5.cell (p := ⟨B, 0, none⟩) lB).trans q0; have p1 := (hb5.cell (p := ⟨B, 1, none⟩) lB).trans q1; have p2 := (hb5.cell (p := ⟨B, 2, none⟩) lB).trans q2; have p3 := (hb5.cell (p := ⟨B, 3, none⟩) lB).trans q3; have p4 := (hb5.cell (p := ⟨B, 4, none⟩) lB).trans q4; have p5 := (hb5.cell (p := ⟨B, 5, none⟩) lB).trans q5) | (guard_hyp hb5; go_at_call 36; refine Calls.mono (KP.out _ hb5) ?_; rintro e w6 ⟨rfl, hb6⟩; have hb56 := below2 hb5 hb6; have u0 := (hb56.cell (p := ⟨B, 0, none⟩) lB).trans q0; have u1 := (hb56.cell (p := ⟨B, 1, none⟩) lB).trans q1; have u2 := (hb56.cell (p := ⟨B, 2, none⟩) lB).trans q2; have u3 := (hb56.cell (p := ⟨B, 3, none⟩) lB).trans q3; have u4 := (hb56.cell (p := ⟨B, 4, none⟩) lB).trans q4; have u5 := (hb56.cell (p := ⟨B, 5, none⟩) lB).trans q5)))
 all_goals
  go_wp2
  go_ret
  exact ⟨rfl, HB0.out.trans ((below2 hb5 hb6).mono HB0.out.size)⟩
def wd : List UInt8 → List UInt8 → List (List UInt8)
 | acc, [] => [acc]
 | acc, c :: l => if c = 32 then acc :: wd [] l else wd (acc ++ [c]) l
theorem wd_app (u : List UInt8) : ∀ acc y, wd acc (u ++ 32 :: y) = wd acc u ++ wd [] y := by
 induction u with
 | nil => intro acc y; simp [wd]
 | cons c u ih =>
  intro acc y
  show (if c = 32 then acc :: wd [] (u ++ 32 :: y) else wd (acc ++ [c]) (u ++ 32 :: y)) = (if c = 32 then acc :: wd [] u else wd (acc ++ [c]) u) ++ _
  split
  ·rw [ih]; rfl
  ·rw [ih]
theorem wd_no (l : List UInt8) : ∀ acc, (32 : UInt8) ∉ l → wd acc l = [acc ++ l] := by
 induction l with
 | nil => intro acc _; simp [wd]
 | cons c l ih =>
  intro acc h
  have hc : ¬ c = 32 := fun e => h (by simp [e])
  show (if c = 32 then _ else _) = _
  rw [if_neg hc, ih _ (fun e => h (by simp [e]))]
  simp
theorem wd_sum (l : List UInt8) : ∀ acc, ((wd acc l).map List.length).sum + (wd acc l).length = acc.length + l.length + 1 := by
 induction l with
 | nil => intro acc; simp [wd]
 | cons c l ih =>
  intro acc
  show (((if c = 32 then acc :: wd [] l else wd (acc ++ [c]) l)).map List.length).sum + (if c = 32 then acc :: wd [] l else wd (acc ++ [c]) l).length = _
  split
  ·have := ih []
   simp at this ⊢
   omega
  ·have := ih (acc ++ [c])
   simp at this ⊢
   omega
theorem idx_no (l : List UInt8) (h : (32 : UInt8) ∉ l) : Lib.indexByte l 32 = -1 := by
 induction l with
 | nil => rfl
 | cons c l ih =>
  have hc : ¬ (c == 32) = true := fun e => h (by simp [eq_of_beq e])
  unfold Lib.indexByte
  rw [if_neg hc, ih (fun e => h (by simp [e]))]
  rfl
theorem idx_hit (x r : List UInt8) (h : (32 : UInt8) ∉ x) : Lib.indexByte (x ++ 32 :: r) 32 = (x.length : Int) := by
 induction x with
 | nil => simp [Lib.indexByte]
 | cons c x ih =>
  have hc : ¬ (c == 32) = true := fun e => h (by simp [eq_of_beq e])
  have := ih (fun e => h (by simp [e]))
  show Lib.indexByte (c :: (x ++ 32 :: r)) 32 = _
  unfold Lib.indexByte
  have hn : ¬ ((x.length : Int) == -1) = true := fun e => by have := eq_of_beq e; omega
  rw [if_neg hc, this, if_neg hn]
  simp
theorem split_wd : ∀ (n : Nat) (l : List UInt8), l.length ≤ n → Lib.splitK [32] 0 (Lib.count l [32]) l = wd [] l ∧ (wd [] l).length = Lib.count l [32] + 1 := by
 intro n
 induction n with
 | zero =>
  intro l hl
  have : l = [] := List.length_eq_zero_iff.1 (by omega)
  subst this
  have h1 : Lib.index ([] : List UInt8) [32] = -1 := by rw [Lib.index_one]; rfl
  rw [Lib.count_miss h1]
  exact ⟨rfl, rfl⟩
 | succ n ih =>
  intro l hl
  by_cases h : (32 : UInt8) ∈ l
  ·obtain ⟨x, r, rfl, hx⟩ := List.eq_append_cons_of_mem h
   have h1 : Lib.index (x ++ 32 :: r) [32] = (x.length : Int) := by rw [Lib.index_one, idx_hit _ _ hx]
   have hd : (x ++ 32 :: r).drop (x.length + 1) = r := by
    rw [List.drop_append]
    simp
   rw [Lib.count_hit (by simp) h1, wd_app, wd_no _ _ hx]
   have hd' : (x ++ 32 :: r).drop (x.length + [(32 : UInt8)].length) = r := hd
   rw [hd', Nat.add_comm 1]
   obtain ⟨i1, i2⟩ := ih r (by simp at hl; omega)
   have hne : ¬ (Lib.index (x ++ 32 :: r) [32] == -1) = true := fun e => by have := eq_of_beq e; omega
   have ht : (x ++ 32 :: r).take (((x.length : Int)).toNat + 0) = x := by simp
   refine ⟨?_, by simp [i2]⟩
   show (if _ then _ else _) = _
   rw [if_neg hne, h1, ht]
   have hd2 : (x ++ 32 :: r).drop (((x.length : Int)).toNat + [(32 : UInt8)].length) = r := hd
   rw [hd2, i1]
   simp
  ·have h1 : Lib.index l [32] = -1 := by rw [Lib.index_one, idx_no l h]
   rw [Lib.count_miss h1, wd_no l [] h]
   exact ⟨rfl, rfl⟩
def wds (s : ByteArray) : List ByteArray := (wd [] s.data.toList).map fun l => ⟨l.toArray⟩
def wn (s : ByteArray) : Nat := (wds s).length
def wq (s : ByteArray) (i : Nat) : ByteArray := (wds s).getD i ByteArray.empty
theorem split_wds (s : ByteArray) : Lib.splitB ⟨#[32]⟩ 0 (Lib.countB s ⟨#[32]⟩) s = wds s ∧ Lib.countB s ⟨#[32]⟩ + 1 = wn s := by
 obtain ⟨h1, h2⟩ := split_wd s.data.toList.length s.data.toList (Nat.le_refl _)
 have h3 := Lib.splitB_data ⟨#[32]⟩ 0 (Lib.countB s ⟨#[32]⟩) s
 have h4 : Lib.countB s ⟨#[32]⟩ = Lib.count s.data.toList [32] := rfl
 refine ⟨?_, by unfold wn wds; rw [h4]; simp [h2]⟩
 have h5 : (Lib.splitB ⟨#[32]⟩ 0 (Lib.countB s ⟨#[32]⟩) s).map (·.data.toList) = wd [] s.data.toList := by rw [h3, h4]; exact h1
 have h6 := congrArg (List.map fun l : List UInt8 => (⟨l.toArray⟩ : ByteArray)) h5
 rw [List.map_map] at h6
 have h7 : ((fun l : List UInt8 => (⟨l.toArray⟩ : ByteArray)) ∘ fun x : ByteArray => x.data.toList) = id := by funext x; rfl
 rw [h7, List.map_id] at h6
 exact h6
theorem tot_list (L : List ByteArray) : tot (fun i => (L.getD i ByteArray.empty).size) L.length = (L.map ByteArray.size).sum := by
 have key : ∀ k, k ≤ L.length → tot (fun i => (L.getD i ByteArray.empty).size) k = ((L.take k).map ByteArray.size).sum := by
  intro k
  induction k with
  | zero => intro _; simp [tot]
  | succ k ih =>
   intro hk
   show tot _ k + _ = _
   rw [ih (by omega), List.take_add_one, List.getElem?_eq_getElem (show k < L.length by omega), List.map_append, List.sum_append]
   congr 1
   simp [List.getElem?_eq_getElem (show k < L.length by omega)]
 have := key L.length (Nat.le_refl _)
 simpa using this
theorem wq_sum (s : ByteArray) : tot (fun i => (wq s i).size) (wn s) + wn s = s.size + 1 := by
 have h := wd_sum s.data.toList []
 have h1 := tot_list (wds s)
 have h2 : (wds s).map ByteArray.size = (wd [] s.data.toList).map List.length := by
  unfold wds
  rw [List.map_map]
  rfl
 unfold wq wn
 rw [h1, h2]
 have h3 : (wds s).length = (wd [] s.data.toList).length := by simp [wds]
 have h4 : s.size = s.data.toList.length := rfl
 rw [h3, h4]
 simpa using h
theorem tot_six (L : Nat → Nat) (m : Nat) : tot L (m + 6) = L 0 + L 1 + L 2 + L 3 + L 4 + L 5 + tot (fun j => L (j + 6)) m := by
 induction m with
 | zero => simp [tot]
 | succ m ih =>
  show tot L (m + 6) + L (m + 6) = _ + (tot (fun j => L (j + 6)) m + L (m + 6))
  rw [ih]; omega
theorem wq_le (s : ByteArray) (i : Nat) : (wq s i).size ≤ s.size := by
 by_cases h : i < wn s
 ·have h1 := tot_le (fun i => (wq s i).size) h
  have h2 := wq_sum s
  omega
 ·unfold wq
  rw [List.getD_eq_getElem?_getD, List.getElem?_eq_none (by unfold wn at h; omega)]
  exact Nat.zero_le _
theorem tot_mon (L L' : Nat → Nat) (h : ∀ i, L i ≤ L' i) (m : Nat) : tot L m ≤ tot L' m := by
 induction m with
 | zero => exact Nat.le_refl _
 | succ m ih =>
  have := h m
  show tot L m + L m ≤ tot L' m + L' m
  omega
theorem read_sum (s : ByteArray) (f : ByteArray → ByteArray) (hf : ∀ u, (f u).size ≤ u.size) (h6 : 6 ≤ wn s) : (f (wq s 0)).size + (f (wq s 4)).size + ((wn s - 6) + tot (fun j => (f (wq s (j + 6))).size) (wn s - 6)) ≤ s.size := by
 have h1 := wq_sum s
 have h2 := tot_six (fun i => (wq s i).size) (wn s - 6)
 rw [show wn s - 6 + 6 = wn s by omega] at h2
 have h3 := tot_mon (fun j => (f (wq s (j + 6))).size) (fun j => (wq s (j + 6)).size) (fun i => hf _) (wn s - 6)
 have h4 := hf (wq s 0)
 have h5 := hf (wq s 4)
 omega
theorem wd_jp (P : Nat → ByteArray) (n : Nat) (h : ∀ i, i ≤ n → (32 : UInt8) ∉ (P i).data.toList) : wds (jp P (n + 1)) = (List.range (n + 1)).map P := by
 induction n with
 | zero =>
  show wds (P 0) = [P 0]
  unfold wds
  rw [wd_no _ _ (h 0 (Nat.le_refl _))]
  rfl
 | succ n ih =>
  rw [jp_s P (n + 1) (by omega)]
  have e : (jp P (n + 1) ++ ⟨#[32]⟩ ++ P (n + 1)).data.toList = (jp P (n + 1)).data.toList ++ 32 :: (P (n + 1)).data.toList := by simp [ByteArray.data_append]
  unfold wds at ih ⊢
  rw [e, wd_app, wd_no _ [] (h (n + 1) (Nat.le_refl _)), List.map_append, ih (fun i hi => h i (by omega)), List.range_succ (n := n + 1), List.map_append]
  rfl
theorem its_small (v : Int) (h0 : 0 ≤ v) (h1 : v ≤ 16) : (32 : UInt8) ∉ (its v).data.toList ∧ Lib.atoiAll (its v).data.toList = .ok v := by
 obtain ⟨n, rfl⟩ := Int.eq_ofNat_of_zero_le h0
 have hn : n ≤ 16 := by omega
 have e : (its (n : Int)).data.toList = Lib.decDigits n := by
  show Lib.itoa (n : Int) = _
  unfold Lib.itoa
  rw [if_neg (by omega)]
  rfl
 rw [e]
 by_cases h : n < 10
 ·rw [Lib.decDigits_one h]
  match n, h with
  | 0, _ | 1, _ | 2, _ | 3, _ | 4, _ | 5, _ | 6, _ | 7, _ | 8, _ | 9, _ => exact ⟨by decide, by decide⟩
 ·rw [Lib.decDigits_two h (by omega)]
  match n, hn, h with
  | 10, _, _ | 11, _, _ | 12, _, _ | 13, _, _ | 14, _, _ | 15, _, _ | 16, _, _ => exact ⟨by decide, by decide⟩
  | n + 17, hn, _ => omega
theorem hexT_free (s : ByteArray) : (32 : UInt8) ∉ (hexT s).data.toList := fun hm => by
 obtain ⟨i, hi, he⟩ := List.getElem_of_mem hm
 have hsz : (hexT s).data.toList.length = 2 * s.size := hexT_size s
 have h1 := hexT_at s i (by omega)
 have h2 : tat (hexT s) i = 32 := by
  unfold tat
  rw [List.getD_eq_getElem?_getD, List.getElem?_eq_getElem hi, he]
  rfl
 rw [h2] at h1
 unfold hxAt dg at h1
 split at h1 <;> split at h1 <;> omega
theorem hxd_free (s : ByteArray) : (32 : UInt8) ∉ (hxd s).data.toList := by
 unfold hxd
 split
 ·decide
 ·exact hexT_free s
theorem okP_parts {r : ByteArray} {k n i : Int} {b : ByteArray} {m : Nat} {S : Nat → ByteArray} (h : okP r k n i b m S = true) : (1 ≤ k ∧ k ≤ n ∧ n ≤ 16 ∧ 1 ≤ b.size ∧ b.size ≤ 2002) ∧ 0 ≤ i ∧ i < n ∧ r.size = 16 ∧ m ≤ 6 ∧ ∀ j, j < m → (S j).size = 16 := by
 have hk : kOk k n b := Classical.byContradiction fun hno => by rw [okP_no hno] at h; cases h
 rw [okP_yes hk] at h
 obtain ⟨h1, h2, _, h3, h4, h5⟩ := pvB_parts h
 exact ⟨hk, h1, h2, h3, h4, h5⟩
theorem words_of {r : ByteArray} {k n i : Int} {b : ByteArray} {m : Nat} {S : Nat → ByteArray} (h : okP r k n i b m S = true) : wn (pieceT r k n i b m S) = 6 + m ∧ ∀ j, j < 6 + m → wq (pieceT r k n i b m S) j = pts r k n i b m S j := by
 obtain ⟨⟨hk1, hk2, hk3, _, _⟩, hi0, hi1, _, hm, _⟩ := okP_parts h
 have hfree : ∀ j, j ≤ 5 + m → (32 : UInt8) ∉ (pts r k n i b m S j).data.toList := fun j _ => by
  match j with
  | 0 => exact hxd_free r
  | 1 => exact (its_small k (by omega) (by omega)).1
  | 2 => exact (its_small n (by omega) (by omega)).1
  | 3 => exact (its_small i (by omega) (by omega)).1
  | 4 => exact hxd_free b
  | 5 => exact (its_small (m : Int) (by omega) (by omega)).1
  | j + 6 => exact hxd_free (S j)
 have e : wds (pieceT r k n i b m S) = (List.range (6 + m)).map (pts r k n i b m S) := by
  unfold pieceT
  rw [show 6 + m = (5 + m) + 1 by omega]
  exact wd_jp _ _ hfree
 refine ⟨by unfold wn; rw [e]; simp, fun j hj => ?_⟩
 unfold wq
 rw [e, List.getD_eq_getElem?_getD, List.getElem?_map, List.getElem?_range hj]
 rfl
theorem text_short {r : ByteArray} {k n i : Int} {b : ByteArray} {m : Nat} {S : Nat → ByteArray} (h : okP r k n i b m S = true) : (pieceT r k n i b m S).size ≤ 9000 := by
 obtain ⟨⟨hk1, hk2, hk3, hb1, hb2⟩, hi0, hi1, hr, hm, hS⟩ := okP_parts h
 have h1 := jp_size (r := r) (b := b) (S := S) (its_size k (by omega) (by omega)).1 (its_size n (by omega) (by omega)).1 (its_size i (by omega) (by omega)).1 (its_size (m : Int) (by omega) (by omega)).1 m
 have key : ∀ c, c ≤ m → tot (fun j => (S j).size) c ≤ c * 16 := fun c => by
  induction c with
  | zero => intro _; exact Nat.le_refl _
  | succ c ih =>
   intro hc
   have a1 := ih (by omega)
   have a2 := hS c (by omega)
   show tot _ c + (S c).size ≤ _
   omega
 have h2 := key m (Nat.le_refl _)
 unfold pieceT
 omega
end Go.Proofs.YtihklfkhjpnjkaaGreatDoor
