/- The seats of a net, as a list of ours; whether one's badge is counted. Conditions: lists of at most 2^20. -/
import Derived.Test.YtjhbjfplgmcbpaaH42
import Derived.Laws.IdiomCopy
namespace Go.Proofs.Ytjhbjfplgmcbpaa
set_option maxRecDepth 2000
open Go.ChangeShapes Go.WideShapes Go.ChangeAt Go.RowKit

/-- A seat: a node and its badge. -/
def stD (d : Nd) (i : Nat) (f : Int) : Nat → Dt
  | 0 => .val (.int .i64 d.i)
  | 1 => .val (.int .i64 d.f)
  | 2 => slsD d.n d.S
  | 3 => .val (.int .i64 (i : Int))
  | _ => .val (.int .i64 f)
def zcT : List Value := [.int .i64 0, .int .i64 0, .slice none 0 0, .int .i64 0, .int .i64 0]
theorem Try.infoStZ : (Try.prog.info? 69).map (fun i => (i.zero, i.size, i.bytes)) = some (some (.agg zcT.toArray), 5, 56) := by kernel_rfl
theorem Try.infoSt : (Try.prog.info? 69).map (·.size) = some 5 := by kernel_rfl
set_option maxHeartbeats 4000000 in
theorem seatO_any (f : Int) (a : Option Addr) (n c : Nat) (v2 v3 : Value) (N : Nat → Nd) (wb w : World) (hwb : Below wb.heap.size wb w) (h : Rd wb (ndsD n N) (.slice a n c)) (hn : n ≤ 1048576) :
    Calls Try.prog 56 #[ntV f (.slice a n c) v2 v3] w fun e w' => ∃ g y, e = .returned (.slice (some ⟨g, 0, none⟩) n n) ∧ w'.ownsRow w.heap.size 69 5 (.slice (some ⟨g, 0, none⟩) n n) n (cL 5 y n) ∧ (∀ i, i < n → ∀ q, q < 5 → Rd wb (stD (N i) i f q) (y i q)) ∧ Below w.heap.size w w' := by
  obtain ⟨i0, hi, hz0, hz1, hz2⟩ := info_parts Try.infoStZ
  obtain ⟨A, HA⟩ : ∃ x, Hid (x = w.heap.size) := ⟨_, rfl⟩
  obtain ⟨w0, HW0⟩ : ∃ x, Hid (x = w.alloc (.cells #[.int .i64 f, .slice a n c, v2, v3] 31)) := ⟨_, rfl⟩
  have RA : Hid (Row w0 A 31 #[.int .i64 f, .slice a n c, v2, v3]) := by show Row _ _ _ _; rw [HW0.out, HA.out]; exact Row.new w _ _
  have hb0 : Below w.heap.size w w0 := by rw [HW0.out]; exact (Below.refl _ _).alloc (Nat.le_refl _) _
  have KB0 : Hid (Below w.heap.size w w0) := hb0
  have KH : Hid (Rd wb (ndsD n N) (.slice a n c) ∧ Below wb.heap.size wb w) := ⟨h, hwb⟩
  obtain ⟨g, HG⟩ : ∃ x, Hid (x = w0.heap.size) := ⟨_, rfl⟩
  have x1 := RA.out.cell 1
  simp at x1
  clear h hb0 hwb
  go_enter Try.func56, Try.ntmps56
  go_wp2_with (at_make; rw [← HW0.out, ← HA.out]; refine wpList_make_full _ rfl _ _ 64 rfl w0.heap.size 69 i0 (.agg zcT.toArray) 5 Try.underlying64 hi hz0 hz1 .i64 .i64 _ _ n rfl rfl rfl rfl (by rw [hz2]; omega) (by unfold maxLen; omega) (Nat.le_refl _) ?_; intro w1 hown hgrow; have hb1 : Below w0.heap.size w0 w1 := (Below.refl _ _).grown hgrow (Nat.le_refl _) (by simp); have y1 := (hb1.cell (p := ⟨A, 1, none⟩) RA.out.lt).trans x1)
  have ho1 : w1.ownsRow w0.heap.size 69 5 (.slice (some ⟨g, 0, none⟩) n n) n (cL 5 (fun _ q => zcT.getD q undef) n) := by
    have e : (madeCells (Value.agg zcT.toArray).cells (n * 5)).toList = cL 5 (fun _ q => zcT.getD q undef) n := made_cL (zs := zcT) (by simp [zcT])
    rw [e] at hown
    rw [HG.out]
    exact hown
  rw [← HG.out]
  have KO1 : Hid (w1.ownsRow w0.heap.size 69 5 (.slice (some ⟨g, 0, none⟩) n n) n (cL 5 (fun _ q => zcT.getD q undef) n)) := ho1
  clear hown hgrow ho1
  go_loopw [13] (fun vi wr => ∃ k : Nat, k ≤ n ∧ vi = .int .i64 (k : Int) ∧ Hid (∃ y, wr.ownsRow w0.heap.size 69 5 (.slice (some ⟨g, 0, none⟩) n n) n (cL 5 y n) ∧ ∀ i, i < k → ∀ q, q < 5 → Rd wb (stD (N i) i f q) (y i q)) ∧ Below w0.heap.size w0 wr) (fun vi _ => n - (intOf vi).toNat)
  case atStart => exact ⟨0, Nat.zero_le _, rfl, ⟨_, KO1.out, fun i hi => absurd hi (Nat.not_lt_zero _)⟩, hb1⟩
  case round =>
    obtain ⟨k, hk, rfl, HY, hbel⟩ := hrel
    clear KO1 hb1 y1 x1
    by_cases hlt : k < n
    · have hki : (k : Int) < (n : Int) := by omega
      obtain ⟨b1, f1, an, cn, rfl, _, R0, hr0⟩ := node_at KH.out.1 hlt
      have R1 : Hid (wr.rangeAt b1 (f1 + k * 3) [.int .i64 (N k).i, .int .i64 (N k).f, .slice an (N k).n cn]) := fun j v hv => ((below2 KH.out.2 (below2 KB0.out hbel)).cell (block_lt_of_cell (R0 j v hv))).trans (R0 j v hv)
      obtain ⟨w2, HW2⟩ : ∃ x, Hid (x = wr.alloc (.cells #[.int .i64 (N k).i, .int .i64 (N k).f, .slice an (N k).n cn] 46)) := ⟨_, rfl⟩
      have b2 : Below wr.heap.size wr w2 := by rw [HW2.out]; exact (Below.refl _ _).alloc (Nat.le_refl _) _
      obtain ⟨y, hoy, hry⟩ := HY.out
      have ho2 := ownsRow_below hoy b2
      have TH : Hid (w2.there g (k * 5) 5) := by
        intro j hj
        refine ⟨?_, World.ownsRow.frozenAt ho2 _⟩
        rw [World.ownsRow.cellAt ho2 _ (mid_lt hlt hj), cL_get _ _ _ _ _ hlt hj]
        rfl
      have x0 := (RA.out.below hbel RA.out.lt).cell 0
      have lA := (RA.out.below hbel RA.out.lt).lt
      simp at x0
      obtain ⟨w3, HW3⟩ : ∃ x, Hid (x = w2.setCells g (k * 5) [.int .i64 (N k).i, .int .i64 (N k).f, .slice an (N k).n cn, .int .i64 (k : Int), .int .i64 f]) := ⟨_, rfl⟩
      have HY3 : Hid (∃ y, w3.ownsRow w0.heap.size 69 5 (.slice (some ⟨g, 0, none⟩) n n) n (cL 5 y n) ∧ ∀ i, i < k + 1 → ∀ q, q < 5 → Rd wb (stD (N i) i f q) (y i q)) := by
        rw [HW3.out]
        have := own_setCells hlt [.int .i64 (N k).i, .int .i64 (N k).f, .slice an (N k).n cn, .int .i64 (k : Int), .int .i64 f] 0 w2 y rfl ho2
        rw [Nat.add_zero] at this
        refine ⟨_, this, fun i hi q hq => ?_⟩
        by_cases e : i = k
        · subst e
          match q, hq with
          | 0, _ | 1, _ | 3, _ | 4, _ => simp [stD, Rd]
          | 2, _ => simpa [stD] using hr0
        · simp only [e, false_and, if_false]
          exact hry i (by omega) q hq
      have hgs : w0.heap.size ≤ g := by rw [HG.out]; exact Nat.le_refl _
      have KB3 : Hid (Below w0.heap.size w0 w3) := by show Below _ _ _; rw [HW3.out]; exact below_setCells (below2 hbel b2) hgs _ _
      clear HY hoy ho2 b2 R0 hr0 hbel hry hgs
      go_wp2_with (first | (refine wpList_load_mid (by rfl) 46 _ (by rfl) b1 (f1 + k * 3) (by rfl) [.int .i64 (N k).i, .int .i64 (N k).f, .slice an (N k).n cn] _ ?_ Try.underlying46 (by rfl) Try.infoNd ?_; exact R1.out) | (rw [← HW2.out]; refine wpList_store_mid (by rfl) 69 _ _ (by rfl) g (k * 5) #[.int .i64 (N k).i, .int .i64 (N k).f, .slice an (N k).n cn, .int .i64 (k : Int), .int .i64 f] (by rfl) (by rfl) ?_ Try.infoSt (by simp [Value.oneCell']) ?_; exact TH.out; rw [← HW3.out]))
      go_roundw
      case rel => exact ⟨k + 1, by omega, by go_num, HY3, KB3.out⟩
      case measure => simp [intOf]; omega
    · obtain rfl : k = n := by omega
      have HF : Hid (∃ y, wr.ownsRow w.heap.size 69 5 (.slice (some ⟨g, 0, none⟩) k k) k (cL 5 y k) ∧ ∀ i, i < k → ∀ q, q < 5 → Rd wb (stD (N i) i f q) (y i q)) := by
        obtain ⟨y, hoy, hry⟩ := HY.out
        exact ⟨y, own_base hoy KB0.out.size, hry⟩
      obtain ⟨y, hf1, hf2⟩ := HF.out
      have HF2 : Hid _ := And.intro hf1 hf2
      clear hf1 hf2 HF
      go_wp2
      go_ret
      exact ⟨g, y, rfl, HF2.out.1, HF2.out.2, below2 KB0.out hbel⟩
/-- The five cells of a seat. -/
theorem st_cells {w : World} {d : Nd} {i : Nat} {f : Int} {y : Nat → Value} (h : ∀ q, q < 5 → Rd w (stD d i f q) (y q)) : ∃ an cn, y 0 = .int .i64 d.i ∧ y 1 = .int .i64 d.f ∧ y 2 = .slice an d.n cn ∧ y 3 = .int .i64 (i : Int) ∧ y 4 = .int .i64 f ∧ Rd w (slsD d.n d.S) (.slice an d.n cn) := by
  have g0 := h 0 (by omega)
  have g1 := h 1 (by omega)
  have g2 : Rd w (slsD d.n d.S) (y 2) := h 2 (by omega)
  have g3 := h 3 (by omega)
  have g4 := h 4 (by omega)
  simp only [Rd, stD] at g0 g1 g3 g4
  obtain ⟨an, cn, e2⟩ := g2.shape
  rw [e2] at g2
  exact ⟨an, cn, g0, g1, e2, g3, g4, g2⟩
theorem LM.below {w w' : World} {b : Nat} {f : Int} {zs : List Int} (h : LM w b f zs) (hb : Below w.heap.size w w') : LM w' b f zs := by
  obtain ⟨es, clock, e, hl⟩ := h
  exact ⟨es, clock, (hb.block b (Array.getElem?_eq_some_iff.1 e).1).trans e, hl⟩
set_option maxHeartbeats 1000000 in
/-- The test whether a seat's badge is counted. -/
theorem honest1_any (L b : Nat) (f : Int) (zs : List Int) (x0 x1 x2 : Value) (i : Int) (w : World) (hL : w.cell? ⟨L, 0, none⟩ = some (.map (some b))) (hm : LM w b f zs) :
    Calls Try.prog 57 #[.agg #[x0, x1, x2, .int .i64 i, .int .i64 f], .pointer (some ⟨L, 0, none⟩)] w fun e w' => e = .returned (.bool (decide (i ∈ zs))) ∧ Below w.heap.size w w' := by
  have hb0 : Below w.heap.size w (w.alloc (.cells #[x0, x1, x2, .int .i64 i, .int .i64 f] 69)) := (Below.refl _ _).alloc (Nat.le_refl _) _
  have KB : Hid _ := hb0
  have lL := block_lt_of_cell hL
  obtain ⟨c, hc, hiff⟩ := lm_look (hm.below hb0) i
  simp only [bk] at hc
  by_cases hx : i ∈ zs
  · have hc0 : c > 0 := hiff.2 hx
    rw [decide_eq_true hx]
    clear hm hb0 hiff hx
    go_enter Try.func57, Try.ntmps57
    go_wp2
    go_ret
    exact ⟨rfl, KB.out⟩
  · have hc0 : ¬ (c > 0) := fun h => hx (hiff.1 h)
    rw [decide_eq_false hx]
    clear hm hb0 hiff hx
    go_enter Try.func57, Try.ntmps57
    go_wp2
    go_ret
    exact ⟨rfl, KB.out⟩
end Go.Proofs.Ytjhbjfplgmcbpaa
/- Seats of which some are left out (slices.IndexFunc, slices.DeleteFunc), in the program. Conditions: lists of at most 2^20. -/
namespace Go.Proofs.Ytjhbjfplgmcbpaa
set_option maxRecDepth 2000
open Go.ChangeShapes Go.WideShapes Go.ChangeAt Go.RowKit

/-- The first place from k on, of n, that the test takes. -/
def ixF (p : Nat → Bool) : Nat → Nat → Option Nat
  | 0, _ => none
  | n + 1, k => if p k = true then some k else ixF p n (k + 1)
def ixX (p : Nat → Bool) (n : Nat) : Int := match ixF p n 0 with
  | some x => (x : Int)
  | none => -1
theorem ixF_some {p : Nat → Bool} : ∀ {n k x : Nat}, ixF p n k = some x → k ≤ x ∧ x < k + n ∧ p x = true ∧ ∀ i, k ≤ i → i < x → p i = false
  | 0, _, _, h => by cases h
  | n + 1, k, x, h => by
    unfold ixF at h
    by_cases e : p k = true
    · rw [if_pos e] at h
      cases h
      exact ⟨Nat.le_refl _, by omega, e, fun i h1 h2 => by omega⟩
    · rw [if_neg e] at h
      obtain ⟨h1, h2, h3, h4⟩ := ixF_some h
      refine ⟨by omega, by omega, h3, fun i hi hx => ?_⟩
      by_cases ei : i = k
      · rw [ei]; simpa using e
      · exact h4 i (by omega) hx
theorem ixF_none {p : Nat → Bool} : ∀ {n k : Nat}, ixF p n k = none → ∀ i, k ≤ i → i < k + n → p i = false
  | 0, _, _, i, h1, h2 => by omega
  | n + 1, k, h, i, h1, h2 => by
    unfold ixF at h
    by_cases e : p k = true
    · rw [if_pos e] at h; cases h
    · rw [if_neg e] at h
      by_cases ei : i = k
      · rw [ei]; simpa using e
      · exact ixF_none h i (by omega) (by omega)
/-- Those that are kept. -/
def kl (p : Nat → Bool) (n : Nat) : List Nat := (List.range n).filter fun i => !p i
theorem kl_succ (p : Nat → Bool) (n : Nat) : kl p (n + 1) = if p n = true then kl p n else kl p n ++ [n] := by
  unfold kl
  rw [List.range_succ, List.filter_append]
  by_cases h : p n = true <;> simp [h]
theorem kl_le (p : Nat → Bool) (n : Nat) : (kl p n).length ≤ n := by
  have := List.length_filter_le (fun i => !p i) (List.range n)
  simpa [kl] using this
theorem kl_all {p : Nat → Bool} {n : Nat} (h : ∀ i, i < n → p i = false) : kl p n = List.range n := by
  unfold kl
  rw [List.filter_eq_self]
  intro a ha
  simp [h a (List.mem_range.1 ha)]
theorem row_range {w : World} {B g n cap : Nat} {y : Nat → Nat → Value} (h : w.ownsRow B 69 5 (.slice (some ⟨g, 0, none⟩) n cap) n (cL 5 y n)) {k : Nat} (hk : k < n) : w.rangeAt g (k * 5) [y k 0, y k 1, y k 2, y k 3, y k 4] := by
  intro j v hv
  have hj : j < 5 := (List.getElem?_eq_some_iff.1 hv).1
  rw [World.ownsRow.cellAt h _ (mid_lt hk hj), cL_get _ _ _ _ _ hk hj, ← hv]
  match j, hj with
  | 0, _ | 1, _ | 2, _ | 3, _ | 4, _ => rfl
set_option maxHeartbeats 2000000 in
theorem ixS_any (B g n cap L : Nat) (y : Nat → Nat → Value) (p : Nat → Bool) (w : World) (hO : w.ownsRow B 69 5 (.slice (some ⟨g, 0, none⟩) n cap) n (cL 5 y n)) (hn : n ≤ 1048576)
    (hF : ∀ i, i < n → ∀ W, Below w.heap.size w W → Calls Try.prog 57 #[.agg #[y i 0, y i 1, y i 2, y i 3, y i 4], .pointer (some ⟨L, 0, none⟩)] W fun e w' => e = .returned (.bool (p i)) ∧ Below W.heap.size W w') :
    Calls Try.prog 69 #[.slice (some ⟨g, 0, none⟩) n cap, .func (.func 57) #[] #[.pointer (some ⟨L, 0, none⟩)]] w fun e w' => e = .returned (.int .i64 (ixX p n)) ∧ Below w.heap.size w w' := by
  have KO : Hid _ := hO
  have KF : Hid _ := hF
  clear hO hF
  go_enter Try.func69, Try.ntmps69
  go_wp2
  go_loopw [8] (fun vi wr => ∃ k : Nat, k ≤ n ∧ vi = .int .i64 (k : Int) ∧ Hid (ixF p (n - k) k = ixF p n 0) ∧ Below w.heap.size w wr) (fun vi _ => n - (intOf vi).toNat)
  case atStart => exact ⟨0, Nat.zero_le _, rfl, rfl, Below.refl _ _⟩
  case round =>
    obtain ⟨k, hk, rfl, HP, hbel⟩ := hrel
    by_cases hlt : k < n
    · have hki : (k : Int) < (n : Int) := by omega
      have R1 : Hid (wr.rangeAt g (k * 5) [y k 0, y k 1, y k 2, y k 3, y k 4]) := row_range (ownsRow_below KO.out hbel) hlt
      have KC : Hid _ := KF.out k hlt wr hbel
      have KB : Hid (Below w.heap.size w wr) := hbel
      have e2 : n - k = (n - (k + 1)) + 1 := by omega
      have HP' := HP.out
      rw [e2] at HP'
      rw [show ixF p (n - (k + 1) + 1) k = if p k = true then some k else ixF p (n - (k + 1)) (k + 1) from rfl] at HP'
      clear hbel HP e2
      cases hr : p k with
      | true =>
        rw [if_pos hr] at HP'
        have HI : Hid (ixX p n = (k : Int)) := by show _ = _; unfold ixX; rw [← HP']
        rw [hr] at KC
        clear HP' hr
        go_wp2_with (refine wpList_load_mid (by rfl) 69 _ (by rfl) g (k * 5) (by rfl) [y k 0, y k 1, y k 2, y k 3, y k 4] _ ?_ Try.underlying69 (by rfl) Try.infoSt ?_; exact R1.out)
        refine Calls.mono KC.out ?_
        rintro e w1 ⟨rfl, b1'⟩
        have KB1 : Hid (Below w.heap.size w w1) := below2 KB.out b1'
        clear b1'
        go_wp2
        go_ret
        exact ⟨ret_int HI.out.symm, KB1.out⟩
      | false =>
        rw [if_neg (by rw [hr]; decide)] at HP'
        have HP2 : Hid (ixF p (n - (k + 1)) (k + 1) = ixF p n 0) := HP'
        rw [hr] at KC
        clear HP' hr
        go_wp2_with (refine wpList_load_mid (by rfl) 69 _ (by rfl) g (k * 5) (by rfl) [y k 0, y k 1, y k 2, y k 3, y k 4] _ ?_ Try.underlying69 (by rfl) Try.infoSt ?_; exact R1.out)
        refine Calls.mono KC.out ?_
        rintro e w1 ⟨rfl, b1'⟩
        have KB1 : Hid (Below w.heap.size w w1) := below2 KB.out b1'
        clear b1' KC R1
        go_wp2
        go_roundw
        case rel => exact ⟨k + 1, by omega, by go_num, HP2, KB1.out⟩
        case measure => simp [intOf]; omega
    · obtain rfl : k = n := by omega
      have HI : Hid (ixX p k = -1) := by
        have := HP.out
        rw [Nat.sub_self] at this
        show _ = _
        unfold ixX
        rw [← this]
        rfl
      go_wp2
      go_ret
      exact ⟨ret_int HI.out.symm, hbel⟩
end Go.Proofs.Ytjhbjfplgmcbpaa
/- Seats of which some are left out (slices.DeleteFunc), in the program. Conditions: lists of at most 2^20. -/
namespace Go.Proofs.Ytjhbjfplgmcbpaa
set_option maxRecDepth 2000
open Go.ChangeShapes Go.WideShapes Go.ChangeAt Go.RowKit

/-- Cells of a row, from o on, written anew: those ahead stay. -/
theorem own_seg {B t sz g n cap : Nat} (hz : 0 < sz) : ∀ (vs : List Value) (o : Nat) (w : World) (z : Nat → Nat → Value), o + vs.length ≤ n * sz → w.ownsRow B t sz (.slice (some ⟨g, 0, none⟩) n cap) n (cL sz z n) →
    ∃ z', (w.setCells g o vs).ownsRow B t sz (.slice (some ⟨g, 0, none⟩) n cap) n (cL sz z' n) ∧ ∀ x q, x < n → q < sz → x * sz + q < o → z' x q = z x q
  | [], _, _, z, _, h => ⟨z, h, fun _ _ _ _ _ => rfl⟩
  | v :: r, o, w, z, hl, h => by
    have ho : o < n * sz := by simp at hl; omega
    have hd : o / sz < n := (Nat.div_lt_iff_lt_mul hz).2 ho
    have hm : o % sz < sz := Nat.mod_lt _ hz
    have h1 := (World.ownsRow.stored h o v).1
    have e : (cL sz z n).set o v = cL sz (fun i' q' => if i' = o / sz ∧ q' = o % sz then v else z i' q') n := by
      have := cL_set sz z n (o / sz) (o % sz) v hd hm
      rw [mid_eq] at this
      exact this
    rw [e] at h1
    obtain ⟨z', h2, h3⟩ := own_seg hz r (o + 1) (w.setCell ⟨g, o, none⟩ v) _ (by simp at hl; omega) h1
    refine ⟨z', h2, fun x q hx hq hlt => ?_⟩
    rw [h3 x q hx hq (by omega)]
    refine if_neg (fun he => ?_)
    have := @mid_eq sz o
    rw [← he.1, ← he.2] at this
    omega
theorem there_row {w : World} {B g n cap : Nat} {z : Nat → Nat → Value} (h : w.ownsRow B 69 5 (.slice (some ⟨g, 0, none⟩) n cap) n (cL 5 z n)) {j : Nat} (hj : j < n) : w.there g (j * 5) 5 := by
  intro q hq
  refine ⟨?_, World.ownsRow.frozenAt h _⟩
  rw [World.ownsRow.cellAt h _ (mid_lt hj hq), cL_get _ _ _ _ _ hj hq]
  rfl
/-- The end of a list of seats, cleared. -/
theorem clear_seats {w : World} {B g n j : Nat} {z : Nat → Nat → Value} (h : w.ownsRow B 69 5 (.slice (some ⟨g, 0, none⟩) n n) n (cL 5 z n)) (hj : j < n) :
    ∃ vs : List Value, j * 5 + vs.length = n * 5 ∧ ∀ ty, (Builtin.clear_ #[64] ty #[.slice (some ⟨g, j * 5, none⟩) (n - j) (n - j)]).run Try.prog w = .ok (.tuple #[]) (w.setCells g (j * 5) vs) := by
  have hzv : ∀ W : World, (zeroValue 69).run Try.prog W = .ok (.agg zcT.toArray) W := fun W => by rfl
  refine ⟨(Builtin.zeroCells zcT.toArray (n - j)).toList, ?_, fun ty => ?_⟩
  · simp [Builtin.zeroCells, zcT]; omega
  · have hlen : (Builtin.zeroCells zcT.toArray (n - j)).toList.length = (n - j) * 5 := by simp [Builtin.zeroCells, zcT]
    have hst := run_storeCells_cells (P := Try.prog) g (j * 5) (Builtin.zeroCells zcT.toArray (n - j)).toList 0 w (fun i hi => by
        rw [hlen] at hi
        rw [Nat.add_zero, World.ownsRow.cellAt h _ (by omega), List.getElem?_eq_getElem (by rw [cL_len]; omega)]
        rfl) (fun i _ => by rw [Nat.add_zero]; exact World.ownsRow.frozenAt h _) (fun v hv => by
        simp only [Builtin.zeroCells, Array.toList_map, List.mem_map] at hv
        obtain ⟨i, _, rfl⟩ := hv
        have hi : i % zcT.toArray.size < 5 := Nat.mod_lt _ (by simp [zcT])
        generalize i % zcT.toArray.size = q at hi
        match q, hi with
        | 0, _ | 1, _ | 2, _ | 3, _ | 4, _ => rfl)
    obtain ⟨r, hr⟩ : ∃ r, n - j = r + 1 := ⟨n - j - 1, by omega⟩
    rw [hr] at hst ⊢
    simp [Builtin.clear_, run_underlying Try.underlying64, hzv, Value.cells, hst, Result.andThen]
end Go.Proofs.Ytjhbjfplgmcbpaa
