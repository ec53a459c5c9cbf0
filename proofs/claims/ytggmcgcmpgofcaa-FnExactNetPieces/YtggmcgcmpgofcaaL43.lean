/- Seats of which some are left out (slices.IndexFunc, slices.DeleteFunc), in the program. Conditions: lists of at most 2^20. -/
import Derived.Test.YtggmcgcmpgofcaaL42
import Derived.Laws.IdiomCopy
namespace Go.Proofs.Ytggmcgcmpgofcaa
set_option maxRecDepth 2000
open Go.ChangeShapes Go.WideShapes Go.ChangeAt Go.RowKit

/-- The first place from k on, of n, that the test takes. -/
def ixF (p : Nat → Bool) : Nat → Nat → Option Nat
  | 0, _ => none
  | n + 1, k => if p k = true then some k else ixF p n (k + 1)
def ixX (p : Nat → Bool) (n : Nat) : Int := match ixF p n 0 with
  | some x => (x : Int)
  | none => -1
theorem ixF_some {p : Nat → Bool} : ∀ {n k x : Nat}, ixF p n k = some x → k ≤ x ∧ x < k + n ∧ p x = true ∧ ∀ i, k ≤ i → i < x → p i = false
  | 0, _, _, h => by cases h
  | n + 1, k, x, h => by
    unfold ixF at h
    by_cases e : p k = true
    · rw [if_pos e] at h
      cases h
      exact ⟨Nat.le_refl _, by omega, e, fun i h1 h2 => by omega⟩
    · rw [if_neg e] at h
      obtain ⟨h1, h2, h3, h4⟩ := ixF_some h
      refine ⟨by omega, by omega, h3, fun i hi hx => ?_⟩
      by_cases ei : i = k
      · rw [ei]; simpa using e
      · exact h4 i (by omega) hx
theorem ixF_none {p : Nat → Bool} : ∀ {n k : Nat}, ixF p n k = none → ∀ i, k ≤ i → i < k + n → p i = false
  | 0, _, _, i, h1, h2 => by omega
  | n + 1, k, h, i, h1, h2 => by
    unfold ixF at h
    by_cases e : p k = true
    · rw [if_pos e] at h; cases h
    · rw [if_neg e] at h
      by_cases ei : i = k
      · rw [ei]; simpa using e
      · exact ixF_none h i (by omega) (by omega)
/-- Those that are kept. -/
def kl (p : Nat → Bool) (n : Nat) : List Nat := (List.range n).filter fun i => !p i
theorem kl_succ (p : Nat → Bool) (n : Nat) : kl p (n + 1) = if p n = true then kl p n else kl p n ++ [n] := by
  unfold kl
  rw [List.range_succ, List.filter_append]
  by_cases h : p n = true <;> simp [h]
theorem kl_le (p : Nat → Bool) (n : Nat) : (kl p n).length ≤ n := by
  have := List.length_filter_le (fun i => !p i) (List.range n)
  simpa [kl] using this
theorem kl_all {p : Nat → Bool} {n : Nat} (h : ∀ i, i < n → p i = false) : kl p n = List.range n := by
  unfold kl
  rw [List.filter_eq_self]
  intro a ha
  simp [h a (List.mem_range.1 ha)]
theorem row_range {w : World} {B g n cap : Nat} {y : Nat → Nat → Value} (h : w.ownsRow B 89 5 (.slice (some ⟨g, 0, none⟩) n cap) n (cL 5 y n)) {k : Nat} (hk : k < n) : w.rangeAt g (k * 5) [y k 0, y k 1, y k 2, y k 3, y k 4] := by
  intro j v hv
  have hj : j < 5 := (List.getElem?_eq_some_iff.1 hv).1
  rw [World.ownsRow.cellAt h _ (mid_lt hk hj), cL_get _ _ _ _ _ hk hj, ← hv]
  match j, hj with
  | 0, _ | 1, _ | 2, _ | 3, _ | 4, _ => rfl
set_option maxHeartbeats 2000000 in
theorem ixS_any (B g n cap L : Nat) (y : Nat → Nat → Value) (p : Nat → Bool) (w : World) (hO : w.ownsRow B 89 5 (.slice (some ⟨g, 0, none⟩) n cap) n (cL 5 y n)) (hn : n ≤ 1048576)
    (hF : ∀ i, i < n → ∀ W, Below w.heap.size w W → Calls Try.prog 75 #[.agg #[y i 0, y i 1, y i 2, y i 3, y i 4], .pointer (some ⟨L, 0, none⟩)] W fun e w' => e = .returned (.bool (p i)) ∧ Below W.heap.size W w') :
    Calls Try.prog 86 #[.slice (some ⟨g, 0, none⟩) n cap, .func (.func 75) #[] #[.pointer (some ⟨L, 0, none⟩)]] w fun e w' => e = .returned (.int .i64 (ixX p n)) ∧ Below w.heap.size w w' := by
  have KO : Hid _ := hO
  have KF : Hid _ := hF
  clear hO hF
  go_enter Try.func86, Try.ntmps86
  go_wp2
  go_loopw [8] (fun vi wr => ∃ k : Nat, k ≤ n ∧ vi = .int .i64 (k : Int) ∧ Hid (ixF p (n - k) k = ixF p n 0) ∧ Below w.heap.size w wr) (fun vi _ => n - (intOf vi).toNat)
  case atStart => exact ⟨0, Nat.zero_le _, rfl, rfl, Below.refl _ _⟩
  case round =>
    obtain ⟨k, hk, rfl, HP, hbel⟩ := hrel
    by_cases hlt : k < n
    · have hki : (k : Int) < (n : Int) := by omega
      have R1 : Hid (wr.rangeAt g (k * 5) [y k 0, y k 1, y k 2, y k 3, y k 4]) := row_range (ownsRow_below KO.out hbel) hlt
      have KC : Hid _ := KF.out k hlt wr hbel
      have KB : Hid (Below w.heap.size w wr) := hbel
      have e2 : n - k = (n - (k + 1)) + 1 := by omega
      have HP' := HP.out
      rw [e2] at HP'
      rw [show ixF p (n - (k + 1) + 1) k = if p k = true then some k else ixF p (n - (k + 1)) (k + 1) from rfl] at HP'
      clear hbel HP e2
      cases hr : p k with
      | true =>
        rw [if_pos hr] at HP'
        have HI : Hid (ixX p n = (k : Int)) := by show _ = _; unfold ixX; rw [← HP']
        rw [hr] at KC
        clear HP' hr
        go_wp2_with (refine wpList_load_mid (by rfl) 89 _ (by rfl) g (k * 5) (by rfl) [y k 0, y k 1, y k 2, y k 3, y k 4] _ ?_ Try.underlying89 (by rfl) Try.infoSt ?_; exact R1.out)
        refine Calls.mono KC.out ?_
        rintro e w1 ⟨rfl, b1'⟩
        have KB1 : Hid (Below w.heap.size w w1) := below2 KB.out b1'
        clear b1'
        go_wp2
        go_ret
        exact ⟨ret_int HI.out.symm, KB1.out⟩
      | false =>
        rw [if_neg (by rw [hr]; decide)] at HP'
        have HP2 : Hid (ixF p (n - (k + 1)) (k + 1) = ixF p n 0) := HP'
        rw [hr] at KC
        clear HP' hr
        go_wp2_with (refine wpList_load_mid (by rfl) 89 _ (by rfl) g (k * 5) (by rfl) [y k 0, y k 1, y k 2, y k 3, y k 4] _ ?_ Try.underlying89 (by rfl) Try.infoSt ?_; exact R1.out)
        refine Calls.mono KC.out ?_
        rintro e w1 ⟨rfl, b1'⟩
        have KB1 : Hid (Below w.heap.size w w1) := below2 KB.out b1'
        clear b1' KC R1
        go_wp2
        go_roundw
        case rel => exact ⟨k + 1, by omega, by go_num, HP2, KB1.out⟩
        case measure => simp [intOf]; omega
    · obtain rfl : k = n := by omega
      have HI : Hid (ixX p k = -1) := by
        have := HP.out
        rw [Nat.sub_self] at this
        show _ = _
        unfold ixX
        rw [← this]
        rfl
      go_wp2
      go_ret
      exact ⟨ret_int HI.out.symm, hbel⟩
end Go.Proofs.Ytggmcgcmpgofcaa
/- Seats of which some are left out (slices.DeleteFunc), in the program. Conditions: lists of at most 2^20. -/
namespace Go.Proofs.Ytggmcgcmpgofcaa
set_option maxRecDepth 2000
open Go.ChangeShapes Go.WideShapes Go.ChangeAt Go.RowKit

/-- Cells of a row, from o on, written anew: those ahead stay. -/
theorem own_seg {B t sz g n cap : Nat} (hz : 0 < sz) : ∀ (vs : List Value) (o : Nat) (w : World) (z : Nat → Nat → Value), o + vs.length ≤ n * sz → w.ownsRow B t sz (.slice (some ⟨g, 0, none⟩) n cap) n (cL sz z n) →
    ∃ z', (w.setCells g o vs).ownsRow B t sz (.slice (some ⟨g, 0, none⟩) n cap) n (cL sz z' n) ∧ ∀ x q, x < n → q < sz → x * sz + q < o → z' x q = z x q
  | [], _, _, z, _, h => ⟨z, h, fun _ _ _ _ _ => rfl⟩
  | v :: r, o, w, z, hl, h => by
    have ho : o < n * sz := by simp at hl; omega
    have hd : o / sz < n := (Nat.div_lt_iff_lt_mul hz).2 ho
    have hm : o % sz < sz := Nat.mod_lt _ hz
    have h1 := (World.ownsRow.stored h o v).1
    have e : (cL sz z n).set o v = cL sz (fun i' q' => if i' = o / sz ∧ q' = o % sz then v else z i' q') n := by
      have := cL_set sz z n (o / sz) (o % sz) v hd hm
      rw [mid_eq] at this
      exact this
    rw [e] at h1
    obtain ⟨z', h2, h3⟩ := own_seg hz r (o + 1) (w.setCell ⟨g, o, none⟩ v) _ (by simp at hl; omega) h1
    refine ⟨z', h2, fun x q hx hq hlt => ?_⟩
    rw [h3 x q hx hq (by omega)]
    refine if_neg (fun he => ?_)
    have := @mid_eq sz o
    rw [← he.1, ← he.2] at this
    omega
theorem there_row {w : World} {B g n cap : Nat} {z : Nat → Nat → Value} (h : w.ownsRow B 89 5 (.slice (some ⟨g, 0, none⟩) n cap) n (cL 5 z n)) {j : Nat} (hj : j < n) : w.there g (j * 5) 5 := by
  intro q hq
  refine ⟨?_, World.ownsRow.frozenAt h _⟩
  rw [World.ownsRow.cellAt h _ (mid_lt hj hq), cL_get _ _ _ _ _ hj hq]
  rfl
/-- The end of a list of seats, cleared. -/
theorem clear_seats {w : World} {B g n j : Nat} {z : Nat → Nat → Value} (h : w.ownsRow B 89 5 (.slice (some ⟨g, 0, none⟩) n n) n (cL 5 z n)) (hj : j < n) :
    ∃ vs : List Value, j * 5 + vs.length = n * 5 ∧ ∀ ty, (Builtin.clear_ #[84] ty #[.slice (some ⟨g, j * 5, none⟩) (n - j) (n - j)]).run Try.prog w = .ok (.tuple #[]) (w.setCells g (j * 5) vs) := by
  have hzv : ∀ W : World, (zeroValue 89).run Try.prog W = .ok (.agg zcT.toArray) W := fun W => by rfl
  refine ⟨(Builtin.zeroCells zcT.toArray (n - j)).toList, ?_, fun ty => ?_⟩
  · simp [Builtin.zeroCells, zcT]; omega
  · have hlen : (Builtin.zeroCells zcT.toArray (n - j)).toList.length = (n - j) * 5 := by simp [Builtin.zeroCells, zcT]
    have hst := run_storeCells_cells (P := Try.prog) g (j * 5) (Builtin.zeroCells zcT.toArray (n - j)).toList 0 w (fun i hi => by
        rw [hlen] at hi
        rw [Nat.add_zero, World.ownsRow.cellAt h _ (by omega), List.getElem?_eq_getElem (by rw [cL_len]; omega)]
        rfl) (fun i _ => by rw [Nat.add_zero]; exact World.ownsRow.frozenAt h _) (fun v hv => by
        simp only [Builtin.zeroCells, Array.toList_map, List.mem_map] at hv
        obtain ⟨i, _, rfl⟩ := hv
        have hi : i % zcT.toArray.size < 5 := Nat.mod_lt _ (by simp [zcT])
        generalize i % zcT.toArray.size = q at hi
        match q, hi with
        | 0, _ | 1, _ | 2, _ | 3, _ | 4, _ => rfl)
    obtain ⟨r, hr⟩ : ∃ r, n - j = r + 1 := ⟨n - j - 1, by omega⟩
    rw [hr] at hst ⊢
    simp [Builtin.clear_, run_underlying Try.underlying84, hzv, Value.cells, hst, Result.andThen]
end Go.Proofs.Ytggmcgcmpgofcaa
/- Seats of which some are left out (slices.DeleteFunc), in the program. Conditions: lists of at most 2^20. -/
namespace Go.Proofs.Ytggmcgcmpgofcaa
set_option maxRecDepth 2000
open Go.ChangeShapes Go.WideShapes Go.ChangeAt Go.RowKit

/-- Each seat's cells are numbers, and a list. -/
def SeY (n : Nat) (y : Nat → Nat → Value) : Prop := ∀ i, i < n → ∃ (i0 f0 b0 b1 : Int) (an : Option Addr) (nn cn : Nat), y i 0 = .int .i64 i0 ∧ y i 1 = .int .i64 f0 ∧ y i 2 = .slice an nn cn ∧ y i 3 = .int .i64 b0 ∧ y i 4 = .int .i64 b1
/-- What stands when k are looked at, of whom j are kept. -/
def DeI (w : World) (B g n : Nat) (y : Nat → Nat → Value) (p : Nat → Bool) (k j : Nat) (wr : World) : Prop := ∃ z, wr.ownsRow B 89 5 (.slice (some ⟨g, 0, none⟩) n n) n (cL 5 z n) ∧ (∀ t, t < j → ∀ q, q < 5 → z t q = y ((kl p k).getD t 0) q) ∧ (∀ t, k ≤ t → t < n → ∀ q, q < 5 → z t q = y t q) ∧ Trn w wr (fun x => x = g)
theorem DeI.skip {w wr w' : World} {B g n : Nat} {y : Nat → Nat → Value} {p : Nat → Bool} {k j : Nat} (h : DeI w B g n y p k j wr) (hp : p k = true) (hb : Below wr.heap.size wr w') : DeI w B g n y p (k + 1) j w' := by
  obtain ⟨z, h1, h2, h3, h4⟩ := h
  refine ⟨z, ownsRow_below h1 hb, fun t ht q hq => ?_, fun t h5 h6 q hq => h3 t (by omega) h6 q hq, h4.trans (Trn.ofBelow _ hb)⟩
  rw [kl_succ, if_pos hp]
  exact h2 t ht q hq
theorem DeI.keep {w wr w' : World} {B g n : Nat} {y : Nat → Nat → Value} {p : Nat → Bool} {k j : Nat} (h : DeI w B g n y p k j wr) (hp : p k = false) (hj : j = (kl p k).length) (hjk : j < k) (hk : k < n) (hb : Below wr.heap.size wr w') : DeI w B g n y p (k + 1) (j + 1) (w'.setCells g (j * 5) [y k 0, y k 1, y k 2, y k 3, y k 4]) := by
  obtain ⟨z, h1, h2, h3, h4⟩ := h
  have h5 := own_setCells (show j < n by omega) [y k 0, y k 1, y k 2, y k 3, y k 4] 0 w' z rfl (ownsRow_below h1 hb)
  rw [Nat.add_zero] at h5
  refine ⟨_, h5, fun t ht q hq => ?_, fun t ha hb' q hq => ?_, (h4.trans (Trn.ofBelow _ hb)).trans (trn_setCells (F := fun x => x = g) _ rfl _ _)⟩
  · have ek : kl p (k + 1) = kl p k ++ [k] := by rw [kl_succ, if_neg (by rw [hp]; decide)]
    rw [ek]
    by_cases e : t = j
    · subst e
      have e1 : (kl p k ++ [k]).getD t 0 = k := by rw [hj]; simp
      rw [if_pos ⟨rfl, Nat.zero_le _⟩, e1]
      match q, hq with
      | 0, _ | 1, _ | 2, _ | 3, _ | 4, _ => rfl
    · rw [if_neg (fun h => e h.1), h2 t (by omega) q hq]
      have e1 : (kl p k ++ [k]).getD t 0 = (kl p k).getD t 0 := by
        rw [List.getD_eq_getElem?_getD, List.getD_eq_getElem?_getD, List.getElem?_append_left (by omega)]
      rw [e1]
  · rw [if_neg (fun h => by have := h.1; omega)]
    exact h3 t (by omega) hb' q hq
set_option maxHeartbeats 4000000 in
theorem delS_any (B g n L : Nat) (y : Nat → Nat → Value) (p : Nat → Bool) (w : World) (hO : w.ownsRow B 89 5 (.slice (some ⟨g, 0, none⟩) n n) n (cL 5 y n)) (hn : n ≤ 1048576) (hY : SeY n y)
    (hF : ∀ i, i < n → ∀ W, Trn w W (fun x => x = g) → Calls Try.prog 75 #[.agg #[y i 0, y i 1, y i 2, y i 3, y i 4], .pointer (some ⟨L, 0, none⟩)] W fun e w' => e = .returned (.bool (p i)) ∧ Below W.heap.size W w') :
    Calls Try.prog 73 #[.slice (some ⟨g, 0, none⟩) n n, .func (.func 75) #[] #[.pointer (some ⟨L, 0, none⟩)]] w fun e w' => ∃ z, e = .returned (.slice (some ⟨g, 0, none⟩) (kl p n).length n) ∧ w'.ownsRow B 89 5 (.slice (some ⟨g, 0, none⟩) n n) n (cL 5 z n) ∧ (∀ t, t < (kl p n).length → ∀ q, q < 5 → z t q = y ((kl p n).getD t 0) q) ∧ Trn w w' (fun x => x = g) := by
  have KI : Hid _ := ixS_any B g n n L y p w hO hn (fun i hi W hW => hF i hi W (Trn.ofBelow _ hW))
  have KO : Hid _ := hO
  have KF : Hid _ := hF
  have KY : Hid _ := hY
  clear hO hF hY
  cases hx : ixF p n 0 with
  | none =>
    have e1 : ixX p n = -1 := by unfold ixX; rw [hx]
    rw [e1] at KI
    have hal := ixF_none hx
    have e2 : kl p n = List.range n := kl_all (fun i hi => hal i (Nat.zero_le _) (by omega))
    have HE : Hid ((kl p n).length = n ∧ ∀ t, t < n → (kl p n).getD t 0 = t) := ⟨by rw [e2]; simp, fun t ht => by rw [e2, List.getD_eq_getElem?_getD, List.getElem?_range ht]; rfl⟩
    clear hx e1 hal e2
    go_enter Try.func73, Try.ntmps73
    go_wp2_with fail
    refine Calls.mono KI.out ?_
    rintro e w1 ⟨rfl, b1⟩
    have HF : Hid (w1.ownsRow B 89 5 (.slice (some ⟨g, 0, none⟩) n n) n (cL 5 y n) ∧ Trn w w1 (fun x => x = g)) := ⟨ownsRow_below KO.out b1, Trn.ofBelow _ b1⟩
    clear b1
    go_wp2
    go_ret
    refine ⟨y, by rw [HE.out.1]; rfl, HF.out.1, fun t ht q _ => ?_, HF.out.2⟩
    rw [HE.out.1] at ht
    rw [HE.out.2 t ht]
  | some x =>
    have e1 : ixX p n = (x : Int) := by unfold ixX; rw [hx]
    rw [e1] at KI
    obtain ⟨_, hxn', hpx, hal⟩ := ixF_some hx
    have hxn : x < n := by omega
    have e2 : kl p x = List.range x := kl_all (fun i hi => hal i (Nat.zero_le _) hi)
    have e3 : kl p (x + 1) = List.range x := by rw [kl_succ, if_pos hpx, e2]
    have hne : ¬ ((x : Int) = -1) := by omega
    have hne2 : ((x : Int) == -1) = false := by simp
    have hxw : IntKind.i64.wrap ((x : Int) + 1) = (x : Int) + 1 := by rw [IntKind.wrap_i64]; omega
    have HE3 : Hid ((kl p (x + 1)).length = x ∧ ∀ t, t < x → (kl p (x + 1)).getD t 0 = t) := ⟨by rw [e3]; simp, fun t ht => by rw [e3, List.getD_eq_getElem?_getD, List.getElem?_range ht]; rfl⟩
    clear hx e1 hal e2 e3 hxn' hpx
    go_enter Try.func73, Try.ntmps73
    go_wp2_with fail
    refine Calls.mono KI.out ?_
    rintro e w1 ⟨rfl, b1⟩
    have H0 : Hid (DeI w B g n y p (x + 1) x w1) := ⟨y, ownsRow_below KO.out b1, fun t ht q _ => by rw [HE3.out.2 t ht], fun t _ _ q _ => rfl, Trn.ofBelow _ b1⟩
    clear b1 KI
    go_wp2
    go_loopw [5, 6] (fun vi vj wr => ∃ k j : Nat, j < k ∧ k ≤ n ∧ vj = .int .i64 (k : Int) ∧ vi = .int .i64 (j : Int) ∧ Hid (j = (kl p k).length ∧ DeI w B g n y p k j wr)) (fun _ vj _ => n - (intOf vj).toNat)
    case atStart => exact ⟨x + 1, x, by omega, by omega, by simp, rfl, HE3.out.1.symm, H0.out⟩
    case round =>
      obtain ⟨k, j, hjk, hk, rfl, rfl, HR⟩ := hrel
      clear H0 HE3 hne hne2 hxw
      by_cases hlt : k < n
      · have hki : (k : Int) < (n : Int) := by omega
        obtain ⟨z, ho, hz1, hz2, ht⟩ := HR.out.2
        have hr0 := row_range ho hlt
        rw [hz2 k (Nat.le_refl _) hlt 0 (by omega), hz2 k (Nat.le_refl _) hlt 1 (by omega), hz2 k (Nat.le_refl _) hlt 2 (by omega), hz2 k (Nat.le_refl _) hlt 3 (by omega), hz2 k (Nat.le_refl _) hlt 4 (by omega)] at hr0
        obtain ⟨V, HV⟩ : ∃ v, Hid (v = wr.heap.size) := ⟨_, rfl⟩
        obtain ⟨w2, HW2⟩ : ∃ v, Hid (v = wr.alloc (.cells #[y k 0, y k 1, y k 2, y k 3, y k 4] 89)) := ⟨_, rfl⟩
        have b2 : Below wr.heap.size wr w2 := by rw [HW2.out]; exact (Below.refl _ _).alloc (Nat.le_refl _) _
        have RV2 : Row w2 V 89 #[y k 0, y k 1, y k 2, y k 3, y k 4] := by rw [HW2.out, HV.out]; exact Row.new wr _ _
        have KC0 := KF.out k hlt w2 (ht.trans (Trn.ofBelow _ b2))
        have HDe := HR.out.2
        have HL := HR.out.1
        have HB2 : Hid (Below wr.heap.size wr w2) := b2
        obtain ⟨i0, f0, q0, q1, an, nn, cn, g0, g1, g2, g3, g4⟩ := KY.out k hlt
        have HKe : Hid (∀ w3, Below wr.heap.size wr w3 → p k = false → DeI w B g n y p (k + 1) (j + 1) (w3.setCells g (j * 5) [.int .i64 i0, .int .i64 f0, .slice an nn cn, .int .i64 q0, .int .i64 q1]) ∧ (kl p (k + 1)).length = j + 1 ∧ w3.there g (j * 5) 5) := fun w3 hb hp => by
          have h1 := DeI.keep HDe hp HL hjk hlt hb
          rw [g0, g1, g2, g3, g4] at h1
          exact ⟨h1, by rw [kl_succ, if_neg (by rw [hp]; decide), List.length_append, ← HL]; rfl, there_row (ownsRow_below ho hb) (by omega)⟩
        have HSk : Hid (∀ w3, Below wr.heap.size wr w3 → p k = true → DeI w B g n y p (k + 1) j w3 ∧ (kl p (k + 1)).length = j) := fun w3 hb hp => ⟨DeI.skip HDe hp hb, by rw [kl_succ, if_pos hp]; exact HL.symm⟩
        rw [g0, g1, g2, g3, g4] at hr0 HW2 RV2 KC0
        have R1 : Hid _ := hr0
        have RV : Hid (Row w2 V 89 #[.int .i64 i0, .int .i64 f0, .slice an nn cn, .int .i64 q0, .int .i64 q1]) := RV2
        have KC : Hid _ := KC0
        clear hr0 RV2 KC0 g0 g1 g2 g3 g4 ho hz1 hz2 ht HDe HL b2 HR
        cases hp : p k with
        | true =>
          rw [hp] at KC
          have HS2 : Hid (∀ w3, Below wr.heap.size wr w3 → DeI w B g n y p (k + 1) j w3 ∧ (kl p (k + 1)).length = j) := fun w3 hb => HSk.out w3 hb hp
          clear hp HSk HKe
          go_wp2_with (refine wpList_load_mid (by rfl) 89 _ (by rfl) g (k * 5) (by rfl) [.int .i64 i0, .int .i64 f0, .slice an nn cn, .int .i64 q0, .int .i64 q1] _ ?_ Try.underlying89 (by rfl) Try.infoSt ?_; exact R1.out)
          rw [← HW2.out]
          refine Calls.mono KC.out ?_
          rintro e w3 ⟨rfl, b3⟩
          obtain ⟨hd, hl⟩ := HS2.out w3 (below2 HB2.out b3)
          have HN2 : Hid (j = (kl p (k + 1)).length ∧ DeI w B g n y p (k + 1) j w3) := ⟨hl.symm, hd⟩
          clear hd hl b3 KC R1 RV
          go_wp2
          go_roundw
          case rel => exact ⟨k + 1, j, by omega, by omega, by go_num, rfl, HN2⟩
          case measure => simp [intOf]; omega
        | false =>
          rw [hp] at KC
          have HS2 : Hid (∀ w3, Below wr.heap.size wr w3 → DeI w B g n y p (k + 1) (j + 1) (w3.setCells g (j * 5) [.int .i64 i0, .int .i64 f0, .slice an nn cn, .int .i64 q0, .int .i64 q1]) ∧ (kl p (k + 1)).length = j + 1 ∧ w3.there g (j * 5) 5) := fun w3 hb => HKe.out w3 hb hp
          clear hp HSk HKe
          go_wp2_with (refine wpList_load_mid (by rfl) 89 _ (by rfl) g (k * 5) (by rfl) [.int .i64 i0, .int .i64 f0, .slice an nn cn, .int .i64 q0, .int .i64 q1] _ ?_ Try.underlying89 (by rfl) Try.infoSt ?_; exact R1.out)
          rw [← HW2.out, ← HV.out]
          refine Calls.mono KC.out ?_
          rintro e w3 ⟨rfl, b3⟩
          obtain ⟨hd, hl, hth⟩ := HS2.out w3 (below2 HB2.out b3)
          have RV3 : Hid (Row w3 V 89 #[.int .i64 i0, .int .i64 f0, .slice an nn cn, .int .i64 q0, .int .i64 q1]) := RV.out.below b3 RV.out.lt
          obtain ⟨w4, HW4⟩ : ∃ v, Hid (v = w3.setCells g (j * 5) [.int .i64 i0, .int .i64 f0, .slice an nn cn, .int .i64 q0, .int .i64 q1]) := ⟨_, rfl⟩
          have HN2 : Hid (j + 1 = (kl p (k + 1)).length ∧ DeI w B g n y p (k + 1) (j + 1) w4) := ⟨hl.symm, by rw [HW4.out]; exact hd⟩
          have TH : Hid _ := hth
          have hji : (j : Int) < (n : Int) := by omega
          clear hd hl hth b3 KC R1 RV
          go_wp2_with (first | (refine wpList_load_row (by rfl) 89 _ (by rfl) V (by rfl) 89 #[.int .i64 i0, .int .i64 f0, .slice an nn cn, .int .i64 q0, .int .i64 q1] (0, 0) _ ?_ Try.underlying89 (by rfl) Try.infoSt ?_; exact RV3.out) | (refine wpList_store_mid (by rfl) 89 _ _ (by rfl) g (j * 5) #[.int .i64 i0, .int .i64 f0, .slice an nn cn, .int .i64 q0, .int .i64 q1] (by rfl) (by rfl) ?_ Try.infoSt (by simp [Value.oneCell']) ?_; exact TH.out; rw [← HW4.out]))
          go_roundw
          case rel => exact ⟨k + 1, j + 1, by omega, by omega, by go_num, by go_num, HN2⟩
          case measure => simp [intOf]; omega
      · obtain rfl : k = n := by omega
        obtain ⟨z, ho, hz1, _, ht⟩ := HR.out.2
        obtain ⟨vs, hvl, hclr⟩ := clear_seats ho hjk
        obtain ⟨z', ho', hz'⟩ := own_seg (by omega) vs (j * 5) wr z (by omega) ho
        obtain ⟨w4, HW4⟩ : ∃ v, Hid (v = wr.setCells g (j * 5) vs) := ⟨_, rfl⟩
        rw [← HW4.out] at hclr ho'
        have HF : Hid (j = (kl p k).length ∧ w4.ownsRow B 89 5 (.slice (some ⟨g, 0, none⟩) k k) k (cL 5 z' k) ∧ (∀ t, t < j → ∀ q, q < 5 → z' t q = y ((kl p k).getD t 0) q) ∧ Trn w w4 (fun x => x = g)) := ⟨HR.out.1, ho', fun t ht' q hq => by rw [hz' t q (by omega) hq (mid_lt ht' hq)]; exact hz1 t ht' q hq, by rw [HW4.out]; exact ht.trans (trn_setCells (F := fun x => x = g) _ rfl _ _)⟩
        have hji : (j : Int) < (k : Int) := by omega
        have hnj : ¬ (k = j) := by omega
        clear ho hz1 ht ho' hz' hvl HR
        go_wp2
        go_ret
        exact ⟨z', by rw [← HF.out.1]; rfl, HF.out.2.1, by rw [← HF.out.1]; exact HF.out.2.2.1, HF.out.2.2.2⟩
end Go.Proofs.Ytggmcgcmpgofcaa
