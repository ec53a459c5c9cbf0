/- Lists of texts in memory; the laws' own helpers over them: a copy, equal ones, their length, marks. Conditions: at most 2^20 texts. -/
import Derived.Test.YtodpgbmpfflkoaaGreatDoorG7
import Derived.Deep.Strs
import Derived.Deep.MidRow
import Derived.Deep.RegionHeld3
import Derived.Deep.AppendLies
import Derived.Test.YtodpgbmpfflkoaaGreatDoorG5
import Derived.Test.YtodpgbmpfflkoaaGreatDoorRows
namespace Go.Proofs.YtodpgbmpfflkoaaGreatDoor
set_option maxRecDepth 2000
open Go.ChangeShapes Go.WideShapes Go.ChangeAt Go.RowKit

theorem Tryz.infoStr : (Tryz.prog.info? 9).map (fun i => (i.zero, i.size, i.bytes)) = some (some (.string ByteArray.empty), 1, 16) := by kernel_rfl
/-- A list of texts that is read. -/
def TxtAt (w : World) (a : Option Addr) (n : Nat) (S : Nat → ByteArray) : Prop := ∀ i, i < n → ∃ b off, a = some ⟨b, off, none⟩ ∧ w.cell? ⟨b, off + i, none⟩ = some (.string (S i))
theorem TxtAt.below {w w' : World} {a : Option Addr} {n : Nat} {S : Nat → ByteArray} (h : TxtAt w a n S) (hb : Below w.heap.size w w') : TxtAt w' a n S := fun i hi => by
  obtain ⟨b, off, e, hc⟩ := h i hi
  exact ⟨b, off, e, (hb.cell (p := ⟨b, off + i, none⟩) (block_lt_of_cell hc)).trans hc⟩
theorem TxtAt.congr {w : World} {a : Option Addr} {n : Nat} {S S' : Nat → ByteArray} (h : TxtAt w a n S) (e : ∀ i, i < n → S i = S' i) : TxtAt w a n S' := fun i hi => by
  obtain ⟨b, off, ea, hc⟩ := h i hi
  exact ⟨b, off, ea, by rw [← e i hi]; exact hc⟩
theorem TxtAt.some {w : World} {a : Option Addr} {n : Nat} {S : Nat → ByteArray} (h : TxtAt w a n S) (hn : 0 < n) : ∃ b off, a = some ⟨b, off, none⟩ ∧ ∀ i, i < n → w.cell? ⟨b, off + i, none⟩ = .some (.string (S i)) := by
  obtain ⟨b, off, e, _⟩ := h 0 hn
  refine ⟨b, off, e, fun i hi => ?_⟩
  obtain ⟨b', off', e', hc⟩ := h i hi
  rw [e] at e'
  simp at e'
  obtain ⟨rfl, rfl⟩ := e'
  exact hc
/-- Texts in a row. -/
def sL (S : Nat → ByteArray) (n : Nat) : List Value := (List.range n).map fun i => Value.string (S i)
theorem sL_len (S : Nat → ByteArray) (n : Nat) : (sL S n).length = n := by simp [sL]
theorem sL_get (S : Nat → ByteArray) (n i : Nat) (h : i < n) : (sL S n)[i]? = some (Value.string (S i)) := by simp [sL, h]
theorem sL_congr {S S' : Nat → ByteArray} {n : Nat} (h : ∀ i, i < n → S i = S' i) : sL S n = sL S' n := by
  unfold sL
  apply List.map_congr_left
  intro i hi
  rw [h i (List.mem_range.1 hi)]
theorem sL_snoc (S : Nat → ByteArray) (n : Nat) : sL S (n + 1) = sL S n ++ [Value.string (S n)] := by
  unfold sL
  rw [List.range_succ, List.map_append]
  rfl
theorem sL_set (S : Nat → ByteArray) (n k : Nat) (s : ByteArray) (h : k < n) : (sL S n).set k (.string s) = sL (fun i => if i = k then s else S i) n := by
  apply List.ext_getElem?
  intro i
  rw [List.getElem?_set]
  by_cases hi : i < n
  · by_cases e : k = i
    · subst e; simp [sL, h]
    · simp [sL, hi, e, Ne.symm e]
  · by_cases e : k = i
    · omega
    · rw [if_neg e, List.getElem?_eq_none (by rw [sL_len]; omega), List.getElem?_eq_none (by rw [sL_len]; omega)]
theorem sL_empty (n : Nat) : sL (fun _ => ByteArray.empty) n = List.replicate n (Value.string ByteArray.empty) := by
  apply List.ext_getElem?
  intro i
  by_cases hi : i < n
  · rw [sL_get _ _ _ hi]; simp [hi]
  · rw [List.getElem?_eq_none (by rw [sL_len]; omega), List.getElem?_eq_none (by simp; omega)]
/-- A list of texts of ours. -/
def OwnT (w : World) (B : Nat) (a : Option Addr) (n cap : Nat) (S : Nat → ByteArray) : Prop := w.ownsRow B 9 1 (.slice a n cap) n (sL S n)
theorem OwnT.at {w : World} {B : Nat} {a : Option Addr} {n cap : Nat} {S : Nat → ByteArray} (h : OwnT w B a n cap S) : TxtAt w a n S := by
  intro i hi
  rcases own_shape h with ⟨rfl, rfl, rfl⟩ | ⟨g, cur, rfl, _⟩
  · omega
  · exact ⟨g, 0, rfl, by rw [Nat.zero_add, h.cellAt i (by omega), sL_get _ _ _ hi]⟩
theorem OwnT.below {w w' : World} {B : Nat} {a : Option Addr} {n cap : Nat} {S : Nat → ByteArray} (h : OwnT w B a n cap S) (hb : Below w.heap.size w w') : OwnT w' B a n cap S := ownsRow_below h hb
theorem OwnT.congr {w : World} {B : Nat} {a : Option Addr} {n cap : Nat} {S S' : Nat → ByteArray} (h : OwnT w B a n cap S) (e : ∀ i, i < n → S i = S' i) : OwnT w B a n cap S' := by
  unfold OwnT at *
  rw [← sL_congr e]
  exact h
theorem OwnT.base {w : World} {B B' : Nat} {a : Option Addr} {n cap : Nat} {S : Nat → ByteArray} (h : OwnT w B a n cap S) (hB : B' ≤ B) : OwnT w B' a n cap S := own_base h hB
theorem OwnT.nil (w : World) (B : Nat) (S : Nat → ByteArray) : OwnT w B none 0 0 S := World.ownsRow_nil w B _ _
theorem litT (w : World) (S : Nat → ByteArray) : OwnT (w.alloc (.cells #[] 9)) w.heap.size (some ⟨w.heap.size, 0, none⟩) 0 0 S :=
  World.ownsRow_lit w #[] 0 (Nat.le_refl _) (by unfold maxLen; omega) rfl
/-- A list of texts that was answered, in new memory. -/
def ResT (w w' : World) (v : Value) (n : Nat) (S : Nat → ByteArray) : Prop := ∃ a cap, v = .slice a n cap ∧ OwnT w' w.heap.size a n cap S
theorem ResT.none (w w' : World) (S : Nat → ByteArray) : ResT w w' (.slice none 0 0) 0 S := ⟨_, _, rfl, OwnT.nil _ _ _⟩
theorem ResT.congr {w w' : World} {v : Value} {n : Nat} {S S' : Nat → ByteArray} (h : ResT w w' v n S) (e : ∀ i, i < n → S i = S' i) : ResT w w' v n S' := by
  obtain ⟨a, cap, rfl, ho⟩ := h
  exact ⟨a, cap, rfl, ho.congr e⟩
theorem ba_beq (s : ByteArray) : (s.toList == s.toList) = true := by simp
theorem ba_ne {s u : ByteArray} (h : s ≠ u) : (s.toList == u.toList) = false := by
  rw [ByteArray.toList_eq, ByteArray.toList_eq]
  simp only [beq_eq_false_iff_ne, ne_eq]
  intro e
  exact h (ByteArray.ext (Array.toList_inj.1 e))

set_option maxHeartbeats 1000000 in
theorem eqT_same (a b : Option Addr) (n ca cb : Nat) (S : Nat → ByteArray) (w : World) (ha : TxtAt w a n S) (hb : TxtAt w b n S) (hn : n ≤ 1048576) :
    Calls Tryz.prog 53 #[.slice a n ca, .slice b n cb] w fun e w' => e = .returned (.bool true) ∧ Below w.heap.size w w' := by
  go_enter Tryz.func53, Tryz.ntmps53
  go_wp2
  go_loopw [5] (fun i wr => ∃ k : Nat, k ≤ n ∧ i = .int .i64 k ∧ Below w.heap.size w wr) (fun i _ => n - (intOf i).toNat)
  case atStart => exact ⟨0, Nat.zero_le _, rfl, Below.refl _ _⟩
  case round =>
    obtain ⟨k, hk, rfl, hbel⟩ := hrel
    have ha' := ha.below hbel
    have hb' := hb.below hbel
    clear ha hb
    by_cases hlt : k < n
    · obtain ⟨ba, oa, rfl, hca⟩ := ha' k hlt
      obtain ⟨bb, ob, rfl, hcb⟩ := hb' k hlt
      have hlti : (k : Int) < (n : Int) := by omega
      clear ha' hb'
      generalize S k = s at hca hcb
      have hbq := ba_beq s
      go_wp2
      go_quiet (fail)
      go_wp2
      go_roundw
      case rel => exact ⟨k + 1, by omega, by go_num, below_drewN hbel _⟩
      case measure => simp [intOf]; omega
    · go_wp2
      go_ret
      exact ⟨rfl, hbel⟩
set_option maxHeartbeats 1000000 in
theorem toT_any (a : Option Addr) (n cap : Nat) (S : Nat → ByteArray) (w : World) (h : TxtAt w a n S) (hn : n ≤ 1048576) :
    Calls Tryz.prog 41 #[.slice a n cap] w fun e w' => e = .returned (.slice (some ⟨w.heap.size, 0, none⟩) n n) ∧ OwnT w' w.heap.size (some ⟨w.heap.size, 0, none⟩) n n S ∧ Below w.heap.size w w' := by
  obtain ⟨i0, hi, hz0, hz1, hz2⟩ := info_parts Tryz.infoStr
  have KH : Hid (TxtAt w a n S) := h
  clear h
  go_enter Tryz.func41, Tryz.ntmps41
  go_wp2_with (at_make; refine wpList_make_full _ rfl _ _ 46 rfl w.heap.size 9 i0 (.string ByteArray.empty) 1 Tryz.underlying46 hi hz0 hz1 .i64 .i64 _ _ n rfl rfl rfl rfl (by rw [hz2]; omega) (by unfold maxLen; omega) (Nat.le_refl _) ?_; intro w1 hown hgrow)
  have hb1 : Below w.heap.size w w1 := (Below.refl _ _).grown hgrow (Nat.le_refl _) (by simp)
  have ho1 : OwnT w1 w.heap.size (some ⟨w.heap.size, 0, none⟩) n n (fun i => if i < 0 then S i else ByteArray.empty) := by
    have e : sL (fun i => if i < 0 then S i else ByteArray.empty) n = List.replicate n (Value.string ByteArray.empty) := by rw [← sL_empty]; exact sL_congr (fun i _ => by simp)
    unfold OwnT
    rw [e]
    simpa [Value.cells, toList_madeCells_one] using hown
  clear hown hgrow
  go_loopw [4] (fun i wr => ∃ k : Nat, k ≤ n ∧ i = .int .i64 k ∧ OwnT wr w.heap.size (some ⟨w.heap.size, 0, none⟩) n n (fun i => if i < k then S i else ByteArray.empty) ∧ Below w.heap.size w wr) (fun i _ => n - (intOf i).toNat)
  case atStart => exact ⟨0, Nat.zero_le _, rfl, ho1, hb1⟩
  case round =>
    obtain ⟨k, hk, rfl, hown, hbel⟩ := hrel
    clear ho1 hb1
    by_cases hlt : k < n
    · obtain ⟨b, off, rfl, hc⟩ := KH.out.below hbel k hlt
      have hlti : (k : Int) < (n : Int) := by omega
      obtain ⟨old, hold⟩ : ∃ v, wr.cell? ⟨w.heap.size, k, none⟩ = some v := by
        rw [World.ownsRow.cellAt hown k (by omega)]
        exact ⟨_, sL_get _ _ _ hlt⟩
      have hfr := World.ownsRow.frozenAt hown k
      have hst := World.ownsRow.stored hown k (.string (S k))
      rw [sL_set _ _ _ _ hlt] at hst
      have HO : Hid (OwnT (wr.setCell ⟨w.heap.size, k, none⟩ (.string (S k))) w.heap.size (some ⟨w.heap.size, 0, none⟩) n n (fun i => if i < k + 1 then S i else ByteArray.empty)) := OwnT.congr hst.1 (fun i _ => by
        by_cases e : i = k
        · simp [e]
        · by_cases e2 : i < k
          · simp [e, e2, show i < k + 1 by omega]
          · simp [e, e2, show ¬ i < k + 1 by omega])
      have hne : Below w.heap.size w (wr.setCell ⟨w.heap.size, k, none⟩ (.string (S k))) := hbel.setCell (Nat.le_refl _) _
      clear hst hown
      go_wp2
      go_roundw
      case rel => exact ⟨k + 1, by omega, by go_num, HO.out, hne⟩
      case measure => simp [intOf]; omega
    · obtain rfl : k = n := by omega
      have HO : Hid (OwnT wr w.heap.size (some ⟨w.heap.size, 0, none⟩) k k S) := hown.congr (fun i hi => if_pos hi)
      clear hown
      go_wp2
      go_ret
      exact ⟨rfl, HO.out, hbel⟩
set_option maxHeartbeats 1000000 in
theorem szT_any (a : Option Addr) (n cap : Nat) (S : Nat → ByteArray) (l : Nat) (w : World) (h : TxtAt w a n S) (hl : l ≤ 1048576) (hn : n ≤ maxLen) (hL : ∀ i, i < n → (S i).size ≤ maxLen) :
    Calls Tryz.prog 33 #[.slice a n cap, .int .i64 (l : Int)] w fun e w' => e = .returned (.int .i64 (szF (fun i => (S i).size) n l)) ∧ w' = w := by
  unfold maxLen at hn hL
  by_cases h1 : n ≤ l
  · obtain ⟨d, hd⟩ : ∃ d, l - n = d := ⟨_, rfl⟩
    have hw : IntKind.i64.wrap ((l : Int) - (n : Int)) = (d : Int) := by rw [IntKind.wrap_i64]; omega
    have h0 : ¬ ((d : Int) < 0) := by omega
    have KL : Hid _ := hL
    have KH : Hid (TxtAt w a n S) := h
    clear hL h
    go_enter Tryz.func33, Tryz.ntmps33
    go_wp2
    go_loop [1, 5] (fun p i => ∃ c q : Nat, c ≤ n ∧ q ≤ 1048576 ∧ Hid (tot (fun i => (S i).size) c + q = d) ∧ p = .int .i64 (q : Int) ∧ i = .int .i64 (c : Int)) (fun _ i => n - (intOf i).toNat)
    case atStart => exact ⟨0, d, Nat.zero_le _, by omega, by show 0 + d = d; omega, rfl, rfl⟩
    case round =>
      obtain ⟨c, q, hc, hq, HT, rfl, rfl⟩ := hrel
      clear hw h0
      by_cases hlt : c < n
      · obtain ⟨b, off, rfl, hcell⟩ := KH.out c hlt
        have hLc := KL.out c hlt
        have hti := tot_le (fun i => (S i).size) hlt
        have hlti : (c : Int) < (n : Int) := by omega
        have HT' := HT.out
        obtain ⟨s, hs⟩ : ∃ s, S c = s := ⟨_, rfl⟩
        have hti' : tot (fun i => (S i).size) c + s.size ≤ tot (fun i => (S i).size) n := by rw [← hs]; exact hti
        have KTS : Hid (tot (fun i => (S i).size) (c + 1) = tot (fun i => (S i).size) c + s.size) := by rw [← hs]; rfl
        rw [hs] at hcell hLc
        obtain ⟨lc, hlc⟩ : ∃ lc, s.size = lc := ⟨_, rfl⟩
        rw [hlc] at hLc hti' KTS
        clear hti hs
        by_cases h2 : lc ≤ q
        · obtain ⟨q', hq'⟩ : ∃ q', q - lc = q' := ⟨_, rfl⟩
          have hw2 : IntKind.i64.wrap ((q : Int) - (lc : Int)) = (q' : Int) := by rw [IntKind.wrap_i64]; omega
          have h3 : ¬ ((q' : Int) < 0) := by omega
          have HT2 : Hid (tot (fun i => (S i).size) (c + 1) + q' = d) := by show _ = _; rw [KTS.out]; omega
          have hq2 : q' ≤ 1048576 := by omega
          clear HT HT' hti' KTS
          go_wp2
          go_round
          case rel => exact ⟨c + 1, q', by omega, hq2, HT2, rfl, by go_num⟩
          case measure => simp [intOf] <;> omega
        · have hw2 : IntKind.i64.wrap ((q : Int) - (lc : Int)) = (q : Int) - (lc : Int) := by rw [IntKind.wrap_i64]; omega
          have h3 : (q : Int) - (lc : Int) < 0 := by omega
          have HR : Hid (szF (fun i => (S i).size) n l = -1) := by
            show _ = _
            unfold szF
            rw [if_neg (by omega)]
          clear HT HT' hti' KTS
          go_wp2
          go_ret
          exact ⟨ret_int HR.out.symm, rfl⟩
      · obtain rfl : c = n := by omega
        have HR : Hid (szF (fun i => (S i).size) c l = (q : Int)) := by
          have := HT.out
          show _ = _
          unfold szF
          rw [if_pos (by omega)]
          omega
        clear KH
        go_wp2
        go_ret
        exact ⟨ret_int HR.out.symm, rfl⟩
  · have h0 : (l : Int) - (n : Int) < 0 := by omega
    have hw : IntKind.i64.wrap ((l : Int) - (n : Int)) = (l : Int) - (n : Int) := by rw [IntKind.wrap_i64]; omega
    have HR : Hid (szF (fun i => (S i).size) n l = -1) := by show _ = _; unfold szF; rw [if_neg (by omega)]
    clear h hL
    go_enter Tryz.func33, Tryz.ntmps33
    go_wp2
    go_ret
    exact ⟨ret_int HR.out.symm, rfl⟩
end Go.Proofs.YtodpgbmpfflkoaaGreatDoor
/- Data in memory, whatever its depth: a value of one cell, or a list of structs whose cells are data. What is read of it, what of it is ours, and what a turn of other blocks leaves of it. Definitions and lemmas; no walk. -/
namespace Go.Proofs.YtodpgbmpfflkoaaGreatDoor
set_option maxRecDepth 2000
open Go.ChangeShapes Go.WideShapes Go.ChangeAt Go.RowKit

/-- A datum: one cell without memory behind it, or n structs of sz cells. -/
inductive Dt where
  | val (v : Value)
  | lst (t : TypeId) (sz n : Nat) (f : Nat → Nat → Dt)
/-- What is read at a value is that datum. -/
def Rd (w : World) : Dt → Value → Prop
  | .val v, x => x = v
  | .lst _ sz n f, x => ∃ a cap, x = .slice a n cap ∧ ∀ i, i < n → ∃ b off, a = some ⟨b, off, none⟩ ∧ ∀ q, q < sz → ∃ y, w.cell? ⟨b, off + (i * sz + q), none⟩ = some y ∧ Rd w (f i q) y
theorem Rd.keep {w w' : World} (h : ∀ (p : Addr) (v : Value), w.cell? p = some v → w'.cell? p = some v) : ∀ {d : Dt} {v : Value}, Rd w d v → Rd w' d v := by
  intro d
  induction d with
  | val v => intro x hx; exact hx
  | lst t sz n f ih =>
    rintro x ⟨a, cap, e, hx⟩
    refine ⟨a, cap, e, fun i hi => ?_⟩
    obtain ⟨b, off, ea, hq⟩ := hx i hi
    refine ⟨b, off, ea, fun q hq' => ?_⟩
    obtain ⟨y, hy, hr⟩ := hq q hq'
    exact ⟨y, h _ _ hy, ih i q hr⟩
theorem Rd.below {w w' : World} {d : Dt} {v : Value} (h : Rd w d v) (hb : Below w.heap.size w w') : Rd w' d v :=
  h.keep fun _ _ hp => (hb.cell (block_lt_of_cell hp)).trans hp
theorem Rd.drew {w : World} {d : Dt} {v : Value} (h : Rd w d v) : Rd w.drew d v := Rd.keep (w' := w.drew) (fun p _ hp => by simpa using hp) h
theorem Rd.congr {w : World} {t t' : TypeId} {sz n : Nat} {f f' : Nat → Nat → Dt} {v : Value} (h : Rd w (.lst t sz n f) v) (e : ∀ i q, i < n → q < sz → f i q = f' i q) : Rd w (.lst t' sz n f') v := by
  obtain ⟨a, cap, ex, hx⟩ := h
  refine ⟨a, cap, ex, fun i hi => ?_⟩
  obtain ⟨b, off, ea, hq⟩ := hx i hi
  refine ⟨b, off, ea, fun q hq' => ?_⟩
  obtain ⟨y, hy, hr⟩ := hq q hq'
  exact ⟨y, hy, by rw [← e i q hi hq']; exact hr⟩
theorem Rd.nil (w : World) (t : TypeId) (sz : Nat) (f : Nat → Nat → Dt) (a : Option Addr) (cap : Nat) : Rd w (.lst t sz 0 f) (.slice a 0 cap) := ⟨a, cap, rfl, fun _ hi => absurd hi (Nat.not_lt_zero _)⟩
theorem Rd.shape {w : World} {t : TypeId} {sz n : Nat} {f : Nat → Nat → Dt} {v : Value} (h : Rd w (.lst t sz n f) v) : ∃ a cap, v = .slice a n cap := by
  obtain ⟨a, cap, e, _⟩ := h
  exact ⟨a, cap, e⟩
/-- One struct of a list that is read. -/
theorem Rd.row {w : World} {t : TypeId} {sz n : Nat} {f : Nat → Nat → Dt} {a : Option Addr} {cap : Nat} (h : Rd w (.lst t sz n f) (.slice a n cap)) {i : Nat} (hi : i < n) :
    ∃ (b off : Nat) (y : Nat → Value), a = some ⟨b, off, none⟩ ∧ (∀ q, q < sz → w.cell? ⟨b, off + (i * sz + q), none⟩ = some (y q)) ∧ ∀ q, q < sz → Rd w (f i q) (y q) := by
  obtain ⟨a', cap', e, hx⟩ := h
  cases e
  obtain ⟨b, off, ea, hq⟩ := hx i hi
  have : ∀ q, ∃ y, q < sz → w.cell? ⟨b, off + (i * sz + q), none⟩ = some y ∧ Rd w (f i q) y := fun q => by
    by_cases h : q < sz
    · obtain ⟨y, hy⟩ := hq q h; exact ⟨y, fun _ => hy⟩
    · exact ⟨undef, fun h' => absurd h' h⟩
  obtain ⟨y, hy⟩ := Classical.axiomOfChoice this
  exact ⟨b, off, y, ea, fun q hq => (hy q hq).1, fun q hq => (hy q hq).2⟩
/-- Texts and numbers as data. -/
def txD (m : Nat) (S : Nat → ByteArray) : Dt := .lst 9 1 m fun i _ => .val (.string (S i))
def inD (zs : List Int) : Dt := .lst 3 1 zs.length fun i _ => .val (.int .i64 (zs.getD i 0))
theorem rd_txt {w : World} {m : Nat} {S : Nat → ByteArray} {a : Option Addr} {cap : Nat} : Rd w (txD m S) (.slice a m cap) ↔ TxtAt w a m S := by
  constructor
  · rintro ⟨a', cap', e, hx⟩ i hi
    cases e
    obtain ⟨b, off, ea, hq⟩ := hx i hi
    obtain ⟨y, hy, hr⟩ := hq 0 (by omega)
    exact ⟨b, off, ea, by rw [show off + i = off + (i * 1 + 0) by omega, hy]; exact congrArg some hr⟩
  · intro h
    refine ⟨a, cap, rfl, fun i hi => ?_⟩
    obtain ⟨b, off, ea, hc⟩ := h i hi
    refine ⟨b, off, ea, fun q hq => ?_⟩
    obtain rfl : q = 0 := by omega
    exact ⟨_, by rw [show off + (i * 1 + 0) = off + i by omega]; exact hc, rfl⟩
theorem rd_ints {w : World} {zs : List Int} {a : Option Addr} {cap : Nat} : Rd w (inD zs) (.slice a zs.length cap) ↔ IntsAt w a zs.length zs := by
  constructor
  · rintro ⟨a', cap', e, hx⟩
    refine ⟨rfl, fun i hi => ?_⟩
    cases e
    obtain ⟨b, off, ea, hq⟩ := hx i hi
    obtain ⟨y, hy, hr⟩ := hq 0 (by omega)
    exact ⟨b, off, ea, by rw [show off + i = off + (i * 1 + 0) by omega, hy]; exact congrArg some hr⟩
  · intro h
    refine ⟨a, cap, rfl, fun i hi => ?_⟩
    obtain ⟨b, off, ea, hc⟩ := h.2 i hi
    refine ⟨b, off, ea, fun q hq => ?_⟩
    obtain rfl : q = 0 := by omega
    exact ⟨_, by rw [show off + (i * 1 + 0) = off + i by omega]; exact hc, rfl⟩

/-! ### Data that is ours -/
/-- The cells of n structs of sz. -/
def cL (sz : Nat) (c : Nat → Nat → Value) (n : Nat) : List Value := (List.range (n * sz)).map fun j => c (j / sz) (j % sz)
theorem cL_len (sz : Nat) (c : Nat → Nat → Value) (n : Nat) : (cL sz c n).length = n * sz := by simp [cL]
theorem mid_lt {sz n i q : Nat} (hi : i < n) (hq : q < sz) : i * sz + q < n * sz := by
  have := Nat.mul_le_mul_right sz (show i + 1 ≤ n by omega)
  rw [Nat.succ_mul] at this
  omega
theorem mid_div {sz i q : Nat} (hq : q < sz) : (i * sz + q) / sz = i := by rw [Nat.mul_comm, Nat.mul_add_div (by omega), Nat.div_eq_of_lt hq, Nat.add_zero]
theorem mid_mod {sz i q : Nat} (hq : q < sz) : (i * sz + q) % sz = q := by rw [Nat.mul_comm, Nat.mul_add_mod, Nat.mod_eq_of_lt hq]
theorem mid_eq {sz j : Nat} : j / sz * sz + j % sz = j := by rw [Nat.mul_comm]; exact Nat.div_add_mod j sz
theorem cL_get (sz : Nat) (c : Nat → Nat → Value) (n i q : Nat) (hi : i < n) (hq : q < sz) : (cL sz c n)[i * sz + q]? = some (c i q) := by
  simp [cL, mid_lt hi hq, mid_div hq, mid_mod hq]
theorem cL_congr {sz : Nat} {c c' : Nat → Nat → Value} {n : Nat} (h : ∀ i q, i < n → q < sz → c i q = c' i q) : cL sz c n = cL sz c' n := by
  unfold cL
  refine List.map_congr_left fun j hj => ?_
  have hj' : j < n * sz := by simpa using hj
  have hs : 0 < sz := by
    rcases Nat.eq_zero_or_pos sz with e | e
    · subst e; omega
    · exact e
  exact h _ _ ((Nat.div_lt_iff_lt_mul hs).2 hj') (Nat.mod_lt _ hs)
theorem cL_set (sz : Nat) (c : Nat → Nat → Value) (n i q : Nat) (v : Value) (hi : i < n) (hq : q < sz) : (cL sz c n).set (i * sz + q) v = cL sz (fun i' q' => if i' = i ∧ q' = q then v else c i' q') n := by
  apply List.ext_getElem?
  intro j
  rw [List.getElem?_set]
  by_cases hj : j < n * sz
  · by_cases e : i * sz + q = j
    · subst e
      rw [if_pos rfl, if_pos (by rw [cL_len]; exact hj), cL_get _ _ _ _ _ hi hq]
      simp
    · rw [if_neg e]
      have hs : 0 < sz := by omega
      have h1 := cL_get sz c n (j / sz) (j % sz) ((Nat.div_lt_iff_lt_mul hs).2 hj) (Nat.mod_lt _ hs)
      have h2 := cL_get sz (fun i' q' => if i' = i ∧ q' = q then v else c i' q') n (j / sz) (j % sz) ((Nat.div_lt_iff_lt_mul hs).2 hj) (Nat.mod_lt _ hs)
      rw [mid_eq] at h1 h2
      rw [h1, h2, if_neg (fun ⟨e1, e2⟩ => e (by rw [← e1, ← e2]; exact mid_eq))]
  · rw [if_neg (fun e => hj (by rw [← e]; exact mid_lt hi hq))]
    rw [List.getElem?_eq_none (by rw [cL_len]; omega), List.getElem?_eq_none (by rw [cL_len]; omega)]
/-- What lies apart: the blocks of each cell's own memory, and the row's block. -/
structure Sep (a : Option Addr) (n sz : Nat) (G : Nat → Nat → Nat → Prop) (F : Nat → Prop) : Prop where
  head : ∀ x, a = some x → F x.block
  sub : ∀ i q g, i < n → q < sz → G i q g → F g
  apart : ∀ i q x, i < n → q < sz → a = some x → ¬ G i q x.block
  each : ∀ i q i' q' g, i < n → q < sz → i' < n → q' < sz → G i q g → G i' q' g → i = i' ∧ q = q'
/-- A datum that is ours: all its blocks are from B on and lie in F; no two lists of it share memory. -/
def Ow (w : World) (B : Nat) : Dt → Value → (Nat → Prop) → Prop
  | .val v, x, _ => x = v
  | .lst t sz n f, x, F => ∃ a cap c G, x = .slice a n cap ∧ w.ownsRow B t sz (.slice a n cap) n (cL sz c n) ∧ Sep a n sz G F ∧ ∀ i q, i < n → q < sz → Ow w B (f i q) (c i q) (G i q)
theorem Ow.mono {w : World} {B : Nat} {d : Dt} {v : Value} {F F' : Nat → Prop} (h : Ow w B d v F) (hF : ∀ g, F g → F' g) : Ow w B d v F' := by
  cases d with
  | val v => exact h
  | lst t sz n f =>
    obtain ⟨a, cap, c, G, e, ho, hs, hr⟩ := h
    exact ⟨a, cap, c, G, e, ho, ⟨fun x hx => hF _ (hs.head x hx), fun i q g hi hq hg => hF _ (hs.sub i q g hi hq hg), hs.apart, hs.each⟩, hr⟩
theorem Ow.frame {w w' : World} {B : Nat} : ∀ {d : Dt} {v : Value} {F : Nat → Prop}, Ow w B d v F → (∀ g, F g → g < w.heap.size → w'.heap[g]? = w.heap[g]?) → Ow w' B d v F := by
  intro d
  induction d with
  | val v => intro x F hx _; exact hx
  | lst t sz n f ih =>
    rintro x F ⟨a, cap, c, G, e, ho, hs, hr⟩ hF
    refine ⟨a, cap, c, G, e, ⟨ho.1, ?_⟩, hs, fun i q hi hq => ih i q (hr i q hi hq) fun g hg => hF g (hs.sub i q g hi hq hg)⟩
    rcases ho.2 with h' | ⟨g, cap', cur, h1, h2, h3, h4⟩
    · exact .inl h'
    · refine .inr ⟨g, cap', cur, h1, h2, ?_, h4⟩
      have hx : a = some ⟨g, 0, none⟩ := by cases h1; rfl
      rw [hF g (hs.head _ hx) (Array.getElem?_eq_some_iff.1 h3).1]
      exact h3
theorem Ow.below {w w' : World} {B : Nat} {d : Dt} {v : Value} {F : Nat → Prop} (h : Ow w B d v F) (hb : Below w.heap.size w w') : Ow w' B d v F := h.frame fun g _ hg => hb.block g hg
theorem Ow.base {w : World} {B B' : Nat} : ∀ {d : Dt} {v : Value} {F : Nat → Prop}, Ow w B d v F → B' ≤ B → Ow w B' d v F := by
  intro d
  induction d with
  | val v => intro x F hx _; exact hx
  | lst t sz n f ih =>
    rintro x F ⟨a, cap, c, G, e, ho, hs, hr⟩ hB
    exact ⟨a, cap, c, G, e, own_base ho hB, hs, fun i q hi hq => ih i q (hr i q hi hq) hB⟩
theorem Ow.rd {w : World} {B : Nat} : ∀ {d : Dt} {v : Value} {F : Nat → Prop}, Ow w B d v F → Rd w d v := by
  intro d
  induction d with
  | val v => intro x F hx; exact hx
  | lst t sz n f ih =>
    rintro x F ⟨a, cap, c, G, e, ho, hs, hr⟩
    refine ⟨a, cap, e, fun i hi => ?_⟩
    rcases own_shape ho with ⟨_, h0, _⟩ | ⟨g, cur, rfl, _⟩
    · omega
    · refine ⟨g, 0, rfl, fun q hq => ⟨c i q, ?_, ih i q (hr i q hi hq)⟩⟩
      rw [Nat.zero_add, ho.cellAt _ (mid_lt hi hq)]
      exact cL_get _ _ _ _ _ hi hq
/-- Its blocks that are there lie from B on: F may be cut down to these. -/
theorem Ow.cut {w : World} {B : Nat} : ∀ {d : Dt} {v : Value} {F : Nat → Prop}, Ow w B d v F → Ow w B d v (fun g => F g ∧ B ≤ g ∧ g < w.heap.size) := by
  intro d
  induction d with
  | val v => intro x F hx; exact hx
  | lst t sz n f ih =>
    rintro x F ⟨a, cap, c, G, e, ho, hs, hr⟩
    refine ⟨a, cap, c, fun i q g => G i q g ∧ B ≤ g ∧ g < w.heap.size, e, ho, ⟨fun x hx => ⟨hs.head x hx, ?_⟩, fun i q g hi hq hg => ⟨hs.sub i q g hi hq hg.1, hg.2⟩, fun i q x hi hq hx hg => hs.apart i q x hi hq hx hg.1, fun i q i' q' g hi hq hi' hq' hg hg' => hs.each i q i' q' g hi hq hi' hq' hg.1 hg'.1⟩, fun i q hi hq => ih i q (hr i q hi hq)⟩
    subst hx
    exact World.ownsRow.lt ho x.block rfl
theorem Ow.nil (w : World) (B : Nat) (t : TypeId) (sz : Nat) (f : Nat → Nat → Dt) (F : Nat → Prop) : Ow w B (.lst t sz 0 f) (.slice none 0 0) F :=
  ⟨none, 0, fun _ _ => undef, fun _ _ _ => False, rfl, by have := World.ownsRow_nil w B t sz; simpa [cL] using this, ⟨fun _ e => (nomatch e), fun _ _ _ hi => absurd hi (Nat.not_lt_zero _), fun _ _ _ hi => absurd hi (Nat.not_lt_zero _), fun _ _ _ _ _ hi => absurd hi (Nat.not_lt_zero _)⟩, fun _ _ hi => absurd hi (Nat.not_lt_zero _)⟩
theorem Ow.congr {w : World} {B : Nat} {t : TypeId} {sz n : Nat} {f f' : Nat → Nat → Dt} {v : Value} {F : Nat → Prop} (h : Ow w B (.lst t sz n f) v F) (e : ∀ i q, i < n → q < sz → f i q = f' i q) : Ow w B (.lst t sz n f') v F := by
  obtain ⟨a, cap, c, G, ex, ho, hs, hr⟩ := h
  exact ⟨a, cap, c, G, ex, ho, hs, fun i q hi hq => by rw [← e i q hi hq]; exact hr i q hi hq⟩
/-- Rows of texts and of numbers that are ours. -/
theorem ow_txt {w : World} {B : Nat} {a : Option Addr} {m cap : Nat} {S : Nat → ByteArray} {F : Nat → Prop} (h : OwnT w B a m cap S) (hF : ∀ x, a = some x → F x.block) : Ow w B (txD m S) (.slice a m cap) F := by
  refine ⟨a, cap, fun i _ => .string (S i), fun _ _ _ => False, rfl, ?_, ⟨hF, fun _ _ _ _ _ h => h.elim, fun _ _ _ _ _ _ h => h, fun _ _ _ _ _ _ _ _ _ h => h.elim⟩, fun _ _ _ _ => rfl⟩
  have : cL 1 (fun i _ => Value.string (S i)) m = sL S m := by unfold cL sL; simp
  rw [this]
  exact h
/-- Only blocks of F have turned; new ones may have come. -/
structure Trn (w w' : World) (F : Nat → Prop) : Prop where
  os : w'.os = w.os
  tape : w'.tape = w.tape
  output : w'.output = w.output
  size : w.heap.size ≤ w'.heap.size
  block : ∀ j, j < w.heap.size → ¬ F j → w'.heap[j]? = w.heap[j]?
theorem Trn.refl (w : World) (F : Nat → Prop) : Trn w w F := ⟨rfl, rfl, rfl, Nat.le_refl _, fun _ _ _ => rfl⟩
theorem Trn.trans {w w1 w2 : World} {F : Nat → Prop} (h : Trn w w1 F) (h2 : Trn w1 w2 F) : Trn w w2 F :=
  ⟨h2.os.trans h.os, h2.tape.trans h.tape, h2.output.trans h.output, Nat.le_trans h.size h2.size, fun j hj hn => (h2.block j (Nat.lt_of_lt_of_le hj h.size) hn).trans (h.block j hj hn)⟩
theorem Trn.mono {w w' : World} {F F' : Nat → Prop} (h : Trn w w' F) (hF : ∀ g, F g → F' g) : Trn w w' F' := ⟨h.os, h.tape, h.output, h.size, fun j hj hn => h.block j hj fun hf => hn (hF j hf)⟩
theorem Trn.ofBelow {w w' : World} (F : Nat → Prop) (h : Below w.heap.size w w') : Trn w w' F := ⟨h.os, h.tape, h.output, h.size, fun j hj _ => h.block j hj⟩
theorem Trn.below {w w' : World} {F : Nat → Prop} {s : Nat} (h : Trn w w' F) (hs : ∀ g, F g → s ≤ g) (hw : s ≤ w.heap.size) : Below s w w' := ⟨h.os, h.tape, h.output, h.size, fun j hj => h.block j (by omega) fun hf => by have := hs j hf; omega⟩
theorem Trn.set (w : World) {F : Nat → Prop} {g : Nat} (j : Nat) (v : Value) (hF : F g) : Trn w (w.setCell ⟨g, j, none⟩ v) F := ⟨rfl, rfl, rfl, by simp, fun i _ hi => heap_setCell_other w ⟨g, j, none⟩ i v (fun e => by subst e; exact hi hF)⟩
theorem Ow.turned {w w' : World} {B : Nat} {d : Dt} {v : Value} {F F' : Nat → Prop} (h : Ow w B d v F) (ht : Trn w w' F') (hd : ∀ g, F g → ¬ F' g) : Ow w' B d v F := h.frame fun g hg hl => ht.block g hl (hd g hg)
/-- An interval of blocks. -/
def rng (a b g : Nat) : Prop := a ≤ g ∧ g < b
end Go.Proofs.YtodpgbmpfflkoaaGreatDoor
/- The laws' marks over lists of texts. Conditions: at most 1000 texts, marks up to 10^6. -/
namespace Go.Proofs.YtodpgbmpfflkoaaGreatDoor
set_option maxRecDepth 2000
open Go.ChangeShapes Go.WideShapes Go.ChangeAt Go.RowKit

/-- A list of texts of ours that lies from block 'B' on, ahead of block 'E'. -/
def RowT (w : World) (B E : Nat) (a : Option Addr) (n cap : Nat) (S : Nat → ByteArray) : Prop := OwnT w B a n cap S ∧ ∀ x, a = some x → B ≤ x.block ∧ x.block < E
theorem OwnT.row {w : World} {B : Nat} {a : Option Addr} {n cap : Nat} {S : Nat → ByteArray} (h : OwnT w B a n cap S) : RowT w B w.heap.size a n cap S := by
  refine ⟨h, fun x e => ?_⟩
  subst e
  exact World.ownsRow.lt h x.block rfl
theorem ResT.row {w w' : World} {v : Value} {n : Nat} {S : Nat → ByteArray} (h : ResT w w' v n S) : ∃ a cap, v = .slice a n cap ∧ RowT w' w.heap.size w'.heap.size a n cap S := by
  obtain ⟨a, cap, rfl, ho⟩ := h
  exact ⟨a, cap, rfl, ho.row⟩
theorem RowT.below {w w' : World} {B E : Nat} {a : Option Addr} {n cap : Nat} {S : Nat → ByteArray} (h : RowT w B E a n cap S) (hb : Below w.heap.size w w') : RowT w' B E a n cap S := ⟨h.1.below hb, h.2⟩
theorem RowT.at {w : World} {B E : Nat} {a : Option Addr} {n cap : Nat} {S : Nat → ByteArray} (h : RowT w B E a n cap S) : TxtAt w a n S := h.1.at
theorem RowT.turned {w w' : World} {B E B' E' : Nat} {a : Option Addr} {n cap : Nat} {S : Nat → ByteArray} (h : RowT w B E a n cap S) (ht : TurnM w w' B' E') (hd : E ≤ B' ∨ E' ≤ B) : RowT w' B E a n cap S :=
  ⟨own_turn2 h.1 ht (fun x e hx => by have := h.2 x e; omega), h.2⟩
theorem TurnM.ofBelow {w w' : World} (B E : Nat) (h : Below w.heap.size w w') : TurnM w w' B E := ⟨h.os, h.tape, h.output, h.size, fun j hj _ => h.block j hj⟩
theorem TurnM.set (w : World) {B E g : Nat} (j : Nat) (v : Value) (hB : B ≤ g) (hE : g < E) : TurnM w (w.setCell ⟨g, j, none⟩ v) B E := ⟨rfl, rfl, rfl, by simp, fun i _ hi => heap_setCell_other w ⟨g, j, none⟩ i v (fun e => by have e' : i = g := e; omega)⟩
end Go.Proofs.YtodpgbmpfflkoaaGreatDoor
/- A piece as the machine holds it. Definitions and lemmas; no walk. -/
namespace Go.Proofs.YtodpgbmpfflkoaaGreatDoor
set_option maxRecDepth 2000
open Go.ChangeShapes Go.WideShapes Go.ChangeAt Go.RowKit

/-- A piece as the machine holds it. -/
abbrev pcC (r : ByteArray) (k n i : Int) (b : ByteArray) (v : Value) : Array Value := #[.string r, .int .i64 k, .int .i64 n, .int .i64 i, .string b, v]
abbrev pcV (r : ByteArray) (k n i : Int) (b : ByteArray) (v : Value) : Value := .agg (pcC r k n i b v)
theorem Tryz.infoPc : (Tryz.prog.info? 49).map (·.size) = some 6 := by kernel_rfl
theorem OwnT.setFar {w : World} {B g o : Nat} {a : Option Addr} {n c : Nat} {S : Nat → ByteArray} {v : Value} (h : OwnT w B a n c S) (hB : g < B) : OwnT (w.setCell ⟨g, o, none⟩ v) B a n c S :=
  own_kept h (grown_set _ _ _ _) (fun x e => by subst e; have := (World.ownsRow.lt h x.block rfl).1; omega)
end Go.Proofs.YtodpgbmpfflkoaaGreatDoor
/- Data in memory: a struct of a list stored anew; a new list. Definitions and lemmas; no walk. -/
namespace Go.Proofs.YtodpgbmpfflkoaaGreatDoor
set_option maxRecDepth 2000
open Go.ChangeShapes Go.WideShapes Go.ChangeAt Go.RowKit

theorem heap_setCells_other (b : Nat) : ∀ (vs : List Value) (o : Nat) (w : World) (j : Nat), j ≠ b → (w.setCells b o vs).heap[j]? = w.heap[j]?
  | [], _, _, _, _ => rfl
  | v :: r, o, w, j, h => by rw [World.setCells, heap_setCells_other b r (o + 1) _ j h]; exact heap_setCell_other w ⟨b, o, none⟩ j v h
theorem size_setCells (b : Nat) : ∀ (vs : List Value) (o : Nat) (w : World), (w.setCells b o vs).heap.size = w.heap.size
  | [], _, _ => rfl
  | v :: r, o, w => by rw [World.setCells, size_setCells b r (o + 1) _]; simp
theorem os_setCells (b : Nat) : ∀ (vs : List Value) (o : Nat) (w : World), (w.setCells b o vs).os = w.os ∧ (w.setCells b o vs).tape = w.tape ∧ (w.setCells b o vs).output = w.output
  | [], _, _ => ⟨rfl, rfl, rfl⟩
  | v :: r, o, w => by rw [World.setCells]; exact os_setCells b r (o + 1) _
theorem below_setCells {B b : Nat} {w0 w : World} (h : Below B w0 w) (hB : B ≤ b) (o : Nat) (vs : List Value) : Below B w0 (w.setCells b o vs) := by
  obtain ⟨h1, h2, h3⟩ := os_setCells b vs o w
  exact h.trans ⟨h1, h2, h3, by rw [size_setCells]; exact Nat.le_refl _, fun j hj => heap_setCells_other b vs o w j (by omega)⟩
theorem trn_setCells (w : World) {F : Nat → Prop} {b : Nat} (hF : F b) (o : Nat) (vs : List Value) : Trn w (w.setCells b o vs) F := by
  obtain ⟨h1, h2, h3⟩ := os_setCells b vs o w
  exact ⟨h1, h2, h3, by rw [size_setCells]; exact Nat.le_refl _, fun j _ hn => heap_setCells_other b vs o w j (fun e => by subst e; exact hn hF)⟩
theorem own_setCells {B t sz g n cap i : Nat} (hi : i < n) : ∀ (vs : List Value) (q0 : Nat) (w : World) (c : Nat → Nat → Value), q0 + vs.length = sz → w.ownsRow B t sz (.slice (some ⟨g, 0, none⟩) n cap) n (cL sz c n) →
    (w.setCells g (i * sz + q0) vs).ownsRow B t sz (.slice (some ⟨g, 0, none⟩) n cap) n (cL sz (fun i' q' => if i' = i ∧ q0 ≤ q' then vs.getD (q' - q0) undef else c i' q') n) := by
  intro vs
  induction vs with
  | nil =>
    intro q0 w c hq ho
    have e : cL sz (fun i' q' => if i' = i ∧ q0 ≤ q' then ([] : List Value).getD (q' - q0) undef else c i' q') n = cL sz c n := cL_congr fun i' q' _ hq' => if_neg (fun h => by have := h.2; simp at hq; omega)
    rw [e]
    exact ho
  | cons v r ih =>
    intro q0 w c hq ho
    rw [World.setCells]
    have hq0 : q0 < sz := by simp at hq; omega
    have h1 := (World.ownsRow.stored ho (i * sz + q0) v).1
    rw [cL_set _ _ _ _ _ _ hi hq0] at h1
    have h2 := ih (q0 + 1) _ _ (by simp at hq; omega) h1
    rw [Nat.add_assoc]
    have e : cL sz (fun i' q' => if i' = i ∧ q0 ≤ q' then (v :: r).getD (q' - q0) undef else c i' q') n = cL sz (fun i' q' => if i' = i ∧ q0 + 1 ≤ q' then r.getD (q' - (q0 + 1)) undef else if i' = i ∧ q' = q0 then v else c i' q') n := cL_congr fun i' q' _ hq' => by
      by_cases ei : i' = i
      · by_cases e1 : q' = q0
        · subst e1
          rw [if_pos ⟨ei, Nat.le_refl _⟩, if_neg (by omega), if_pos ⟨ei, rfl⟩, Nat.sub_self]
          rfl
        · by_cases e2 : q0 ≤ q'
          · obtain ⟨k, rfl⟩ : ∃ k, q' = q0 + 1 + k := ⟨q' - (q0 + 1), by omega⟩
            rw [if_pos ⟨ei, e2⟩, if_pos ⟨ei, by omega⟩, show q0 + 1 + k - q0 = k + 1 by omega, show q0 + 1 + k - (q0 + 1) = k by omega]
            rfl
          · rw [if_neg (by omega), if_neg (by omega), if_neg (by omega)]
      · simp [ei]
    rw [e]
    exact h2
/-- A struct of a list stored anew. -/
theorem Ow.store {w : World} {B t sz g n cap i : Nat} {f : Nat → Nat → Dt} {F F' : Nat → Prop} {vs : List Value} {d : Nat → Dt} {H : Nat → Nat → Prop} (h : Ow w B (.lst t sz n f) (.slice (some ⟨g, 0, none⟩) n cap) F) (hi : i < n) (hl : vs.length = sz)
    (hv : ∀ q, q < sz → Ow w B (d q) (vs.getD q undef) (H q)) (hH : ∀ q x, q < sz → H q x → ¬ F x) (hE : ∀ q q' x, q < sz → q' < sz → H q x → H q' x → q = q') (hF : ∀ x, F x → F' x) (hF' : ∀ q x, q < sz → H q x → F' x) :
    Ow (w.setCells g (i * sz) vs) B (.lst t sz n (fun i' => if i' = i then d else f i')) (.slice (some ⟨g, 0, none⟩) n cap) F' := by
  obtain ⟨a, cap', c, G, e, ho, hs, hr⟩ := h
  cases e
  have hg : F g := hs.head _ rfl
  have e0 := own_setCells hi vs 0 w c (by omega) ho
  rw [Nat.add_zero] at e0
  refine ⟨some ⟨g, 0, none⟩, cap, _, fun i' q' => if i' = i then H q' else G i' q', rfl, e0, ⟨fun x hx => by cases hx; exact hF _ hg, fun i' q' x hi' hq' hx => ?_, fun i' q' x hi' hq' ex hx => ?_, fun i1 q1 i2 q2 x h1 h2 h3 h4 hx hx' => ?_⟩, fun i' q' hi' hq' => ?_⟩
  · by_cases ei : i' = i
    · simp only [ei, if_true] at hx; exact hF' _ _ hq' hx
    · simp only [ei, if_false] at hx; exact hF _ (hs.sub _ _ _ hi' hq' hx)
  · cases ex
    by_cases ei : i' = i
    · simp only [ei, if_true] at hx; exact hH _ _ hq' hx hg
    · simp only [ei, if_false] at hx; exact hs.apart _ _ _ hi' hq' rfl hx
  · by_cases e1 : i1 = i
    · by_cases e2 : i2 = i
      · simp only [e1, e2, if_true] at hx hx'
        exact ⟨by omega, hE _ _ _ h2 h4 hx hx'⟩
      · simp only [e1, e2, if_true, if_false] at hx hx'
        exact absurd (hs.sub _ _ _ h3 h4 hx') (hH _ _ h2 hx)
    · by_cases e2 : i2 = i
      · simp only [e1, e2, if_true, if_false] at hx hx'
        exact absurd (hs.sub _ _ _ h1 h2 hx) (hH _ _ h4 hx')
      · simp only [e1, e2, if_false] at hx hx'
        exact hs.each _ _ _ _ _ h1 h2 h3 h4 hx hx'
  · have keep : ∀ {dd : Dt} {v : Value} {K : Nat → Prop}, Ow w B dd v K → (∀ x, K x → x ≠ g) → Ow (w.setCells g (i * sz) vs) B dd v K := fun ho hk => ho.frame fun x hx _ => heap_setCells_other g vs _ w x (hk x hx)
    by_cases ei : i' = i
    · simp only [ei, true_and, Nat.zero_le, if_true, Nat.sub_zero]
      exact keep (hv q' hq') (fun x hx e => by subst e; exact hH _ _ hq' hx hg)
    · simp only [ei, false_and, if_false]
      exact keep (hr i' q' hi' hq') (fun x hx e => by subst e; exact hs.apart _ _ _ hi' hq' rfl hx)
/-- A new list of structs whose cells lead to nothing. -/
theorem ow_made {w : World} {B t sz g n cap : Nat} {F : Nat → Prop} {zs : List Value} {f : Nat → Dt} (ho : w.ownsRow B t sz (.slice (some ⟨g, 0, none⟩) n cap) n (cL sz (fun _ q => zs.getD q undef) n)) (hz : ∀ q, q < sz → Ow w B (f q) (zs.getD q undef) (fun _ => False)) (hF : F g) : Ow w B (.lst t sz n (fun _ => f)) (.slice (some ⟨g, 0, none⟩) n cap) F :=
  ⟨_, cap, _, fun _ _ _ => False, rfl, ho, ⟨fun x e => by cases e; exact hF, fun _ _ _ _ _ h => h.elim, fun _ _ _ _ _ _ h => h, fun _ _ _ _ _ _ _ _ _ h => h.elim⟩, fun _ q _ hq => hz q hq⟩
theorem made_cL {zs : List Value} {n : Nat} (hz : 0 < zs.length) : (madeCells zs.toArray (n * zs.length)).toList = cL zs.length (fun _ q => zs.getD q undef) n := by
  apply List.ext_getElem?
  intro j
  by_cases hj : j < n * zs.length
  · have h1 := cL_get zs.length (fun _ q => zs.getD q undef) n (j / zs.length) (j % zs.length) ((Nat.div_lt_iff_lt_mul hz).2 hj) (Nat.mod_lt _ hz)
    rw [mid_eq] at h1
    rw [h1]
    have hl := Nat.mod_lt j hz
    simp [madeCells, hj, hl]
  · rw [List.getElem?_eq_none (by simp [size_madeCells]; omega), List.getElem?_eq_none (by rw [cL_len]; omega)]
end Go.Proofs.YtodpgbmpfflkoaaGreatDoor
/- Marks over long lists of texts; a list of texts that came in. Conditions: at most 2^20 texts. -/
namespace Go.Proofs.YtodpgbmpfflkoaaGreatDoor
set_option maxRecDepth 2000
open Go.ChangeShapes Go.WideShapes Go.ChangeAt Go.RowKit

/-- A list of texts that came in. -/
def IsTxt (w : World) (a : Option Addr) (n : Nat) (S : Nat → ByteArray) : Prop := TxtAt w a n S ∧ n ≤ maxLen ∧ ∀ i, i < n → (S i).size ≤ maxLen
/-- As the form reads it. -/
theorem isTxt_of {w : World} {a : Addr} {len cap m : Nat} {S : Nat → ByteArray} (hl : len ≤ cap) (hm : cap ≤ maxLen) (hlm : len ≤ m) (h : ∀ i, i < m → w.cell? (a.add i) = some (.string (S i)) ∧ (S i).size ≤ maxLen) : IsTxt w (some a) len S := by
  refine ⟨fun i hi => ?_, Nat.le_trans hl hm, fun i hi => (h i (by omega)).2⟩
  have h1 := (h i (by omega)).1
  obtain ⟨b, off, spot⟩ := a
  have hspot : spot = none := by
    have h0 := (h 0 (by omega)).1
    simpa [Addr.add] using World.cell?_spot h0
  subst hspot
  have ea : ∀ (b off i : Nat), (⟨b, off, none⟩ : Addr).add i = ⟨b, off + i, none⟩ := fun b off i => by unfold Addr.add; split <;> simp_all
  rw [ea] at h1
  exact ⟨b, off, rfl, h1⟩
/-- The same, known to lie ahead of block 's'. -/
def ArgT (w : World) (s : Nat) (a : Option Addr) (n : Nat) (S : Nat → ByteArray) : Prop := TxtAt w a n S ∧ (0 < n → ∀ b off, a = some ⟨b, off, none⟩ → b < s)
theorem TxtAt.arg {w : World} {a : Option Addr} {n : Nat} {S : Nat → ByteArray} (h : TxtAt w a n S) : ArgT w w.heap.size a n S := by
  refine ⟨h, fun hn b off e => ?_⟩
  obtain ⟨b', off', e', hc⟩ := h 0 hn
  rw [e] at e'
  cases e'
  exact block_lt_of_cell hc
theorem ArgT.below {w w' : World} {s : Nat} {a : Option Addr} {n : Nat} {S : Nat → ByteArray} (h : ArgT w s a n S) (hb : Below w.heap.size w w') : ArgT w' s a n S := ⟨h.1.below hb, h.2⟩
theorem ArgT.keep {w w' : World} {s : Nat} {a : Option Addr} {n : Nat} {S : Nat → ByteArray} (h : ArgT w s a n S) (hb : Below s w w') : ArgT w' s a n S :=
  ⟨fun i hi => by
    obtain ⟨b, off, e, hc⟩ := h.1 i hi
    exact ⟨b, off, e, (hb.cell (p := ⟨b, off + i, none⟩) (h.2 (by omega) b off e)).trans hc⟩, h.2⟩
end Go.Proofs.YtodpgbmpfflkoaaGreatDoor
/- Marks laid into a list of structs, cell by cell: what each step leaves. Definitions and lemmas; no walk. -/
namespace Go.Proofs.YtodpgbmpfflkoaaGreatDoor
set_option maxRecDepth 2000
open Go.ChangeShapes Go.WideShapes Go.ChangeAt Go.RowKit

/-- A list of structs that is being marked: its cells are ours, each with its own memory. -/
def MkS (w : World) (B t sz g n cap : Nat) (G : Nat → Nat → Nat → Prop) (D : Nat → Nat → Dt) : Prop :=
  ∃ c, w.ownsRow B t sz (.slice (some ⟨g, 0, none⟩) n cap) n (cL sz c n) ∧ ∀ i q, i < n → q < sz → Ow w B (D i q) (c i q) (G i q)
theorem Ow.mk {w : World} {B t sz g n cap : Nat} {D : Nat → Nat → Dt} {F : Nat → Prop} (h : Ow w B (.lst t sz n D) (.slice (some ⟨g, 0, none⟩) n cap) F) : ∃ G, Sep (some ⟨g, 0, none⟩) n sz G F ∧ MkS w B t sz g n cap G D := by
  obtain ⟨a, cap', c, G, e, ho, hs, hr⟩ := h
  cases e
  exact ⟨G, hs, c, ho, hr⟩
theorem MkS.below {w w' : World} {B t sz g n cap : Nat} {G : Nat → Nat → Nat → Prop} {D : Nat → Nat → Dt} (h : MkS w B t sz g n cap G D) (hb : Below w.heap.size w w') : MkS w' B t sz g n cap G D := by
  obtain ⟨c, ho, hr⟩ := h
  exact ⟨c, ownsRow_below ho hb, fun i q hi hq => (hr i q hi hq).below hb⟩
theorem MkS.congr {w : World} {B t sz g n cap : Nat} {G : Nat → Nat → Nat → Prop} {D D' : Nat → Nat → Dt} (h : MkS w B t sz g n cap G D) (e : ∀ i q, i < n → q < sz → D i q = D' i q) : MkS w B t sz g n cap G D' := by
  obtain ⟨c, ho, hr⟩ := h
  exact ⟨c, ho, fun i q hi hq => by rw [← e i q hi hq]; exact hr i q hi hq⟩
theorem MkS.lt {w : World} {B t sz g n cap : Nat} {G : Nat → Nat → Nat → Prop} {D : Nat → Nat → Dt} (h : MkS w B t sz g n cap G D) : B ≤ g ∧ g < w.heap.size := by
  obtain ⟨c, ho, hr⟩ := h
  exact World.ownsRow.lt ho g rfl
theorem MkS.cell {w : World} {B t sz g n cap : Nat} {G : Nat → Nat → Nat → Prop} {D : Nat → Nat → Dt} (h : MkS w B t sz g n cap G D) {i q : Nat} (hi : i < n) (hq : q < sz) : ∃ v, w.cell? ⟨g, i * sz + q, none⟩ = some v ∧ w.frozen? ⟨g, i * sz + q, none⟩ = false ∧ Ow w B (D i q) v (G i q) := by
  obtain ⟨c, ho, hr⟩ := h
  exact ⟨c i q, by rw [World.ownsRow.cellAt ho _ (mid_lt hi hq)]; exact cL_get _ _ _ _ _ hi hq, World.ownsRow.frozenAt ho _, hr i q hi hq⟩
theorem MkS.set {w : World} {B t sz g n cap : Nat} {G : Nat → Nat → Nat → Prop} {D : Nat → Nat → Dt} {F : Nat → Prop} (h : MkS w B t sz g n cap G D) (hs : Sep (some ⟨g, 0, none⟩) n sz G F) {i q : Nat} (hi : i < n) (hq : q < sz) (v : Value) : MkS (w.setCell ⟨g, i * sz + q, none⟩ v) B t sz g n cap G (fun i' q' => if i' = i ∧ q' = q then .val v else D i' q') := by
  obtain ⟨c, ho, hr⟩ := h
  have h1 := (World.ownsRow.stored ho (i * sz + q) v).1
  rw [cL_set _ _ _ _ _ _ hi hq] at h1
  refine ⟨_, h1, fun i' q' hi' hq' => ?_⟩
  by_cases e : i' = i ∧ q' = q
  · simp only [e, and_self, if_true]
    rfl
  · simp only [e, if_false]
    exact (hr i' q' hi' hq').frame fun x hx _ => heap_setCell_other w ⟨g, i * sz + q, none⟩ x v (fun ex => by
      have ex' : x = g := ex
      subst ex'
      exact hs.apart i' q' _ hi' hq' rfl hx)
theorem MkS.turn {w w' : World} {B t sz g n cap : Nat} {G : Nat → Nat → Nat → Prop} {D : Nat → Nat → Dt} {F : Nat → Prop} (h : MkS w B t sz g n cap G D) (hs : Sep (some ⟨g, 0, none⟩) n sz G F) {i q : Nat} (hi : i < n) (hq : q < sz) {v : Value} {d : Dt} (hc : w.cell? ⟨g, i * sz + q, none⟩ = some v) (ho' : Ow w' B d v (G i q)) (ht : Trn w w' (G i q)) : MkS w' B t sz g n cap G (fun i' q' => if i' = i ∧ q' = q then d else D i' q') := by
  obtain ⟨c, ho, hr⟩ := h
  have hv : c i q = v := by
    rw [World.ownsRow.cellAt ho _ (mid_lt hi hq), cL_get _ _ _ _ _ hi hq] at hc
    exact Option.some.inj hc
  have hg := World.ownsRow.lt ho g rfl
  refine ⟨c, ⟨ho.1, ?_⟩, fun i' q' hi' hq' => ?_⟩
  · rcases ho.2 with h' | ⟨g', cap', cur, h1, h2, h3, h4⟩
    · exact .inl h'
    · refine .inr ⟨g', cap', cur, h1, h2, ?_, h4⟩
      have e : g' = g := by cases h1; rfl
      subst e
      rw [ht.block g' hg.2 (hs.apart i q _ hi hq rfl)]
      exact h3
  · by_cases e : i' = i ∧ q' = q
    · simp only [e, and_self, if_true]
      rw [hv]
      exact ho'
    · simp only [e, if_false]
      exact (hr i' q' hi' hq').turned ht fun x hx hx' => e (hs.each i' q' i q x hi' hq' hi hq hx hx')
end Go.Proofs.YtodpgbmpfflkoaaGreatDoor
/- Pieces as the exact laws hand them in: counted, copied, compared. Conditions stand at each. -/
namespace Go.Proofs.YtodpgbmpfflkoaaGreatDoor
set_option maxRecDepth 2000
open Go.ChangeShapes Go.WideShapes Go.ChangeAt Go.RowKit

/-- What is left of l behind a piece; -1 where it is not enough. -/
def szPc (r b : ByteArray) (m : Nat) (S : Nat → ByteArray) (l : Nat) : Int := if r.size + b.size ≤ l then szF (fun i => (S i).size) m (l - r.size - b.size) else -1
theorem szPc_yes {r b : ByteArray} {m : Nat} {S : Nat → ByteArray} {l : Nat} (h : r.size + b.size + (m + tot (fun i => (S i).size) m) ≤ l) : szPc r b m S l = ((l - (r.size + b.size + (m + tot (fun i => (S i).size) m)) : Nat) : Int) := by
  unfold szPc szF
  rw [if_pos (by omega), if_pos (by omega)]
  omega
theorem szPc_no {r b : ByteArray} {m : Nat} {S : Nat → ByteArray} {l : Nat} (h : ¬ r.size + b.size + (m + tot (fun i => (S i).size) m) ≤ l) : szPc r b m S l = -1 := by
  unfold szPc szF
  by_cases h1 : r.size + b.size ≤ l
  · rw [if_pos h1, if_neg (by omega)]
  · rw [if_neg h1]

set_option maxHeartbeats 2000000 in
theorem szPc_any (r : ByteArray) (k n i : Int) (b : ByteArray) (a : Option Addr) (m cap : Nat) (S : Nat → ByteArray) (l : Nat) (w : World) (h : TxtAt w a m S) (hl : l ≤ 1048576) (hm : m ≤ maxLen) (hL : ∀ i, i < m → (S i).size ≤ maxLen) (hr : r.size ≤ maxLen) (hb : b.size ≤ maxLen) :
    Calls Tryz.prog 15 #[pcV r k n i b (.slice a m cap), .int .i64 (l : Int)] w fun e w' => e = .returned (.int .i64 (szPc r b m S l)) ∧ Below w.heap.size w w' := by
  obtain ⟨w0, HW0⟩ : ∃ x, Hid (x = w.alloc (.cells (pcC r k n i b (.slice a m cap)) 48)) := ⟨_, rfl⟩
  have hb0 : Below w.heap.size w w0 := by rw [HW0.out]; exact (Below.refl _ _).alloc (Nat.le_refl _) _
  have HB0 : Hid (Below w.heap.size w w0) := hb0
  have KT : Hid (TxtAt w0 a m S) := h.below hb0
  obtain ⟨x, hx⟩ : ∃ x, r.size = x := ⟨_, rfl⟩
  obtain ⟨y, hy⟩ : ∃ x, b.size = x := ⟨_, rfl⟩
  unfold szPc
  rw [hx, hy]
  unfold maxLen at hr hb
  clear h hb0
  by_cases h1 : l < x
  · have h1' : (l : Int) - (x : Int) < 0 := by omega
    have e1 : IntKind.i64.wrap ((l : Int) - (x : Int)) = (l : Int) - (x : Int) := by rw [IntKind.wrap_i64]; omega
    rw [if_neg (by omega)]
    clear hL
    go_enter Tryz.func15, Tryz.ntmps15
    go_wp2
    go_ret
    exact ⟨rfl, by rw [← HW0.out]; exact HB0.out⟩
  obtain ⟨l1, hl1⟩ : ∃ l1, l = x + l1 := ⟨l - x, by omega⟩
  have e1 : IntKind.i64.wrap ((l : Int) - (x : Int)) = (l1 : Int) := by rw [IntKind.wrap_i64]; omega
  have p1 : ¬ ((l1 : Int) < 0) := by omega
  by_cases h2 : l1 < y
  · have h2' : (l1 : Int) - (y : Int) < 0 := by omega
    have e2 : IntKind.i64.wrap ((l1 : Int) - (y : Int)) = (l1 : Int) - (y : Int) := by rw [IntKind.wrap_i64]; omega
    rw [if_neg (by omega)]
    clear hL hl1
    go_enter Tryz.func15, Tryz.ntmps15
    go_wp2
    go_ret
    exact ⟨rfl, by rw [← HW0.out]; exact HB0.out⟩
  obtain ⟨l2, hl2⟩ : ∃ l2, l1 = y + l2 := ⟨l1 - y, by omega⟩
  have e2 : IntKind.i64.wrap ((l1 : Int) - (y : Int)) = (l2 : Int) := by rw [IntKind.wrap_i64]; omega
  have p2 : ¬ ((l2 : Int) < 0) := by omega
  rw [if_pos (by omega), show l - x - y = l2 by omega]
  have KZ : Hid (Calls Tryz.prog 33 #[.slice a m cap, .int .i64 (l2 : Int)] w0 fun e w' => e = .returned (.int .i64 (szF (fun i => (S i).size) m l2)) ∧ w' = w0) := szT_any a m cap S l2 w0 KT.out (by omega) hm hL
  clear hL hl1 hl2
  by_cases h3 : m + tot (fun i => (S i).size) m ≤ l2
  · obtain ⟨z, hz⟩ : ∃ z : Nat, szF (fun i => (S i).size) m l2 = (z : Int) := ⟨l2 - (m + tot (fun i => (S i).size) m), by unfold szF; rw [if_pos h3]⟩
    rw [hz] at KZ ⊢
    have p3 : ¬ ((z : Int) < 0) := by omega
    clear hz h3
    go_enter Tryz.func15, Tryz.ntmps15
    go_wp2_with fail
    rw [← HW0.out]
    refine Calls.mono KZ.out ?_
    rintro e w' ⟨rfl, hw⟩
    obtain rfl := hw.symm
    clear hw
    go_wp2
    go_ret
    exact ⟨rfl, HB0.out⟩
  · have hz : szF (fun i => (S i).size) m l2 = -1 := by unfold szF; rw [if_neg h3]
    rw [hz] at KZ ⊢
    clear hz h3
    go_enter Tryz.func15, Tryz.ntmps15
    go_wp2_with fail
    rw [← HW0.out]
    refine Calls.mono KZ.out ?_
    rintro e w' ⟨rfl, hw⟩
    obtain rfl := hw.symm
    clear hw
    go_wp2
    go_ret
    exact ⟨rfl, HB0.out⟩

set_option maxHeartbeats 4000000 in
theorem toPc_any (r : ByteArray) (k n i : Int) (b : ByteArray) (a : Option Addr) (m cap : Nat) (S : Nat → ByteArray) (w : World) (h : TxtAt w a m S) (hm : m ≤ 1048576) :
    Calls Tryz.prog 22 #[pcV r k n i b (.slice a m cap)] w fun e w' => ∃ g, e = .returned (pcV r k n i b (.slice (some ⟨g, 0, none⟩) m m)) ∧ OwnT w' w.heap.size (some ⟨g, 0, none⟩) m m S ∧ Below w.heap.size w w' := by
  obtain ⟨D, HD⟩ : ∃ x, Hid (x = w.heap.size + 1) := ⟨_, rfl⟩
  obtain ⟨V, HV⟩ : ∃ x, Hid (x = w.heap.size + 1 + 1) := ⟨_, rfl⟩
  obtain ⟨w0, HW0⟩ : ∃ x, Hid (x = ((w.alloc (.cells (pcC r k n i b (.slice a m cap)) 48)).alloc (.cells (pcC ⟨#[]⟩ 0 0 0 ⟨#[]⟩ (.slice none 0 0)) 49)).alloc (.cells (pcC r k n i b (.slice none 0 0)) 49)) := ⟨_, rfl⟩
  have HRV : Hid (Row w0 V 49 (pcC r k n i b (.slice none 0 0))) := by
    show Row _ _ _ _
    rw [HW0.out, HV.out]
    have := Row.new ((w.alloc (.cells (pcC r k n i b (.slice a m cap)) 48)).alloc (.cells (pcC ⟨#[]⟩ 0 0 0 ⟨#[]⟩ (.slice none 0 0)) 49)) (pcC r k n i b (.slice none 0 0)) 49
    simpa using this
  have HRD : Hid (Row w0 D 49 (pcC ⟨#[]⟩ 0 0 0 ⟨#[]⟩ (.slice none 0 0))) := by
    show Row _ _ _ _
    rw [HW0.out, HD.out]
    have := Row.new (w.alloc (.cells (pcC r k n i b (.slice a m cap)) 48)) (pcC ⟨#[]⟩ 0 0 0 ⟨#[]⟩ (.slice none 0 0)) 49
    exact Row.alloc (by simpa using this) _
  have hb0 : Below w.heap.size w w0 := by rw [HW0.out]; exact (((Below.refl _ _).alloc (Nat.le_refl _) _).alloc (by simp) _).alloc (by simp; omega) _
  have hVD : Hid (V ≠ D ∧ w.heap.size ≤ D ∧ w.heap.size ≤ V) := by
    have := HV.out; have := HD.out; exact ⟨by omega, by omega, by omega⟩
  have KB0 : Hid (Below w.heap.size w w0) := hb0
  have KT : Hid (Calls Tryz.prog 41 #[.slice a m cap] w0 fun e w' => e = .returned (.slice (some ⟨w0.heap.size, 0, none⟩) m m) ∧ OwnT w' w0.heap.size (some ⟨w0.heap.size, 0, none⟩) m m S ∧ Below w0.heap.size w0 w') := toT_any a m cap S w0 (h.below hb0) hm
  obtain ⟨g, HG⟩ : ∃ x, Hid (x = w0.heap.size) := ⟨_, rfl⟩
  rw [← HG.out] at KT
  clear h hb0
  go_enter Tryz.func22, Tryz.ntmps22
  go_wp2_with fail
  rw [← HW0.out, ← HV.out, ← HD.out]
  rw [HG.out] at KT
  refine Calls.mono KT.out ?_
  rw [← HG.out]
  rintro e w1 ⟨rfl, O1, b1⟩
  have lV0 := HRV.out.lt
  have lD0 := HRD.out.lt
  have HV1 : Hid (Row w1 V 49 (pcC r k n i b (.slice none 0 0))) := HRV.out.below (HG.out ▸ b1) lV0
  have HD1 : Hid (Row w1 D 49 (pcC ⟨#[]⟩ 0 0 0 ⟨#[]⟩ (.slice none 0 0))) := HRD.out.below (HG.out ▸ b1) lD0
  obtain ⟨w2, HW2⟩ : ∃ x, Hid (x = w1.setCell ⟨V, 5, none⟩ (.slice (some ⟨g, 0, none⟩) m m)) := ⟨_, rfl⟩
  have HV2 : Hid (Row w2 V 49 (pcC r k n i b (.slice (some ⟨g, 0, none⟩) m m))) := by show Row _ _ _ _; rw [HW2.out]; exact HV1.out.set 5 _
  have HD2 : Hid (Row w2 D 49 (pcC ⟨#[]⟩ 0 0 0 ⟨#[]⟩ (.slice none 0 0))) := by show Row _ _ _ _; rw [HW2.out]; exact HD1.out.other 5 _ (Ne.symm hVD.out.1)
  have O2 : Hid (OwnT w2 w0.heap.size (some ⟨g, 0, none⟩) m m S) := by show OwnT _ _ _ _ _ _; rw [HW2.out]; exact OwnT.setFar (HG.out ▸ O1) lV0
  have KB2 : Hid (Below w.heap.size w w2) := by show Below _ _ _; rw [HW2.out]; exact (KB0.out.trans ((HG.out ▸ b1 : Below w0.heap.size w0 w1).mono KB0.out.size)).setCell hVD.out.2.2 _
  have v5 := HV1.out.cell 5
  have vf := HV1.out.free 5
  simp at v5
  clear b1 O1 KT
  go_wp2_with (rw [← HW2.out]; refine wpList_load_row (by rfl) 49 _ (by rfl) V (by rfl) 49 _ (0, 0) _ HV2.out Tryz.underlying49 (by rfl) Tryz.infoPc ?_; clear v5 vf; have x0 := HD2.out.cell 0; have x1 := HD2.out.cell 1; have x2 := HD2.out.cell 2; have x3 := HD2.out.cell 3; have x4 := HD2.out.cell 4; have x5 := HD2.out.cell 5; have f0 := HD2.out.free 0; have f1 := HD2.out.free 1; have f2 := HD2.out.free 2; have f3 := HD2.out.free 3; have f4 := HD2.out.free 4; have f5 := HD2.out.free 5; simp at x0 x1 x2 x3 x4 x5)
  have ZR : Hid (Row ((((((w2.setCell ⟨D, 0, none⟩ (.string r)).setCell ⟨D, 1, none⟩ (.int .i64 k)).setCell ⟨D, 2, none⟩ (.int .i64 n)).setCell ⟨D, 3, none⟩ (.int .i64 i)).setCell ⟨D, 4, none⟩ (.string b)).setCell ⟨D, 5, none⟩ (.slice (some ⟨g, 0, none⟩) m m)) D 49 (pcC r k n i b (.slice (some ⟨g, 0, none⟩) m m))) := (((((HD2.out.set 0 _).set 1 _).set 2 _).set 3 _).set 4 _).set 5 _
  have ZO : Hid (OwnT ((((((w2.setCell ⟨D, 0, none⟩ (.string r)).setCell ⟨D, 1, none⟩ (.int .i64 k)).setCell ⟨D, 2, none⟩ (.int .i64 n)).setCell ⟨D, 3, none⟩ (.int .i64 i)).setCell ⟨D, 4, none⟩ (.string b)).setCell ⟨D, 5, none⟩ (.slice (some ⟨g, 0, none⟩) m m)) w.heap.size (some ⟨g, 0, none⟩) m m S) := OwnT.base (OwnT.setFar (OwnT.setFar (OwnT.setFar (OwnT.setFar (OwnT.setFar (OwnT.setFar O2.out lD0) lD0) lD0) lD0) lD0) lD0) KB0.out.size
  have hDw := hVD.out.2.1
  refine bodyPost_ret (v := pcV r k n i b (.slice (some ⟨g, 0, none⟩) m m)) (results_cell_row Tryz.results22 _ _ D 49 _ (0, 0) _ (by simp) ZR.out Tryz.underlying49 (by rfl) Tryz.infoPc) rfl ⟨g, rfl, ZO.out, ?_⟩
  exact Below.setCell (Below.setCell (Below.setCell (Below.setCell (Below.setCell (Below.setCell KB2.out hDw _) hDw _) hDw _) hDw _) hDw _) hDw _

set_option maxHeartbeats 2000000 in
theorem eqPc_same (r : ByteArray) (k n i : Int) (b : ByteArray) (a a' : Option Addr) (m ca ca' : Nat) (S : Nat → ByteArray) (w : World) (h : TxtAt w a m S) (h' : TxtAt w a' m S) (hm : m ≤ 1048576) :
    Calls Tryz.prog 30 #[pcV r k n i b (.slice a m ca), pcV r k n i b (.slice a' m ca')] w fun e w' => e = .returned (.bool true) ∧ Below w.heap.size w w' := by
  obtain ⟨w0, HW0⟩ : ∃ x, Hid (x = (w.alloc (.cells (pcC r k n i b (.slice a m ca)) 49)).alloc (.cells (pcC r k n i b (.slice a' m ca')) 49)) := ⟨_, rfl⟩
  have hb0 : Below w.heap.size w w0 := by rw [HW0.out]; exact ((Below.refl _ _).alloc (Nat.le_refl _) _).alloc (by simp) _
  have HB0 : Hid (Below w.heap.size w w0) := hb0
  have KE : Hid _ := eqT_same a a' m ca ca' S w0 (h.below hb0) (h'.below hb0) hm
  have hf1 : (r.toList != r.toList) = false := by simp
  have hf2 := ba_beq r
  have hf3 : (b.toList != b.toList) = false := by simp
  have hf4 := ba_beq b
  have hf5 : (k != k) = false := by simp
  have hf6 : (n != n) = false := by simp
  have hf7 : (i != i) = false := by simp
  clear h h' hb0
  go_enter Tryz.func30, Tryz.ntmps30
  go_wp2_with fail
  rw [← HW0.out]
  refine Calls.mono KE.out ?_
  rintro e w1 ⟨rfl, b1⟩
  go_wp2
  go_ret
  exact ⟨rfl, below2 HB0.out b1⟩
end Go.Proofs.YtodpgbmpfflkoaaGreatDoor
/- A piece that is handed in, read as the form reads it. No condition. -/
namespace Go.Proofs.YtodpgbmpfflkoaaGreatDoor
set_option maxRecDepth 2000
open Go.ChangeShapes Go.WideShapes Go.ChangeAt Go.RowKit

theorem list6 {α : Type} (l : List α) (h : l.length = 6) : ∃ a b c d e f, l = [a, b, c, d, e, f] := by
  match l, h with
  | [a, b, c, d, e, f], _ => exact ⟨a, b, c, d, e, f, rfl⟩
theorem open_piece {H : Type} {enc : TypeId × Value → H} {w : World} {base : Nat} {spare : Nat → Bool} {held : Bool} {fuel : Nat} {cs : List Value} {x : DataW H × List MemPlace} (h : DataW.trod enc Tryz.prog w base spare held fuel 48 cs = some x) :
    ∃ (r : ByteArray) (k n i : Int) (b : ByteArray) (a : Option Addr) (m c : Nat) (S : Nat → ByteArray), cs = [.string r, .int .i64 k, .int .i64 n, .int .i64 i, .string b, .slice a m c] ∧ ((Lit.int .i64 k).wf = true ∧ (Lit.int .i64 n).wf = true ∧ (Lit.int .i64 i).wf = true) ∧ r.size ≤ maxLen ∧ b.size ≤ maxLen ∧ IsTxt w a m S := by
  have c6 : Tryz.prog.cellsOf 48 = 6 := by kernel_rfl
  have cs1 : Tryz.prog.cellsOf 9 = 1 := by kernel_rfl
  have ci1 : Tryz.prog.cellsOf 3 = 1 := by kernel_rfl
  have cl1 : Tryz.prog.cellsOf 46 = 1 := by kernel_rfl
  obtain ⟨xs, f, _, _, hl, hlen, hf⟩ := DataW.trod_struct Tryz.underlying48 h
  rw [c6] at hl
  obtain ⟨c0, c1, c2, c3, c4, c5, rfl⟩ := list6 cs hl
  obtain ⟨y0, y1, y2, y3, y4, y5, rfl⟩ := list6 xs hlen
  have g0 := hf 0 _ rfl
  have g1 := hf 1 _ rfl
  have g2 := hf 2 _ rfl
  have g3 := hf 3 _ rfl
  have g4 := hf 4 _ rfl
  have g5 := hf 5 _ rfl
  simp [cs1, ci1, cl1] at g0 g1 g2 g3 g4 g5
  obtain ⟨r, e0, _, hr⟩ := DataW.trod_string Tryz.underlying9 g0
  obtain ⟨k, e1, _, u1⟩ := DataW.trod_int Tryz.underlying3 g1
  obtain ⟨n, e2, _, u2⟩ := DataW.trod_int Tryz.underlying3 g2
  obtain ⟨i, e3, _, u3⟩ := DataW.trod_int Tryz.underlying3 g3
  obtain ⟨b, e4, _, hb⟩ := DataW.trod_string Tryz.underlying9 g4
  simp at e0 e1 e2 e3 e4
  subst e0 e1 e2 e3 e4
  rcases Go.Deep.open_strs Tryz.underlying46 Tryz.underlying9 cs1 g5 with ⟨hcs, _⟩ | ⟨ad, l, c, m, Sx, hcs, _, hl', hm, hmm, _, hcell⟩
  · simp at hcs
    subst hcs
    exact ⟨r, k, n, i, b, none, 0, 0, fun _ => ByteArray.empty, rfl, ⟨u1, u2, u3⟩, hr, hb, fun i hi => absurd hi (Nat.not_lt_zero _), Nat.zero_le _, fun i hi => absurd hi (Nat.not_lt_zero _)⟩
  · simp at hcs
    subst hcs
    exact ⟨r, k, n, i, b, some ad, l, c, Sx, rfl, ⟨u1, u2, u3⟩, hr, hb, isTxt_of hl' hm (by rw [hmm]; split <;> omega) hcell⟩
end Go.Proofs.YtodpgbmpfflkoaaGreatDoor
