/- The draws of texts and lists: what each gives, at any bytes. Condition: at most 2^20 bytes of code, and a text or list of at most 16. -/
import Derived.Test.YthnjhjgffkilcaaGreatDoorH9
import Derived.Test.YthnjhjgffkilcaaGreatDoorH8
import Derived.Deep.AppendLies
import Derived.Deep.RegionHeld3
import Derived.Test.YthnjhjgffkilcaaGreatDoorRows
import Derived.Deep.Strs
namespace Go.Proofs.YthnjhjgffkilcaaGreatDoor
set_option maxRecDepth 2000
open Go.ChangeShapes Go.WideShapes Go.ChangeAt Go.RowKit

/-- The code's bytes lie below the cursor. -/
def Under (a : Option Addr) (n g : Nat) : Prop := 0 < n → ∀ b off, a = some ⟨b, off, none⟩ → b < g
theorem CodeAt.under {w : World} {a : Option Addr} {n g : Nat} (h : CodeAt w a n) (hg : w.heap.size ≤ g) : Under a n g := by
  intro hn b off e
  obtain ⟨b', off', x, e', hc, _⟩ := h.2 0 hn
  rw [e] at e'
  simp at e'
  have := block_lt_of_cell hc
  simp at this
  omega
theorem Cur.far {w w' : World} {g n cap r : Nat} {a : Option Addr} (h : Cur w g a n cap) (hg : w.grownBy w' (some r)) (hr : g < r) (hab : Under a n g) : Cur w' g a n cap := by
  obtain ⟨hn, ⟨i, hh, hi, hblk⟩, hby⟩ := h
  refine ⟨hn, ⟨i, hh, hi, ?_⟩, ?_⟩
  · rw [hg.block g (Array.getElem?_eq_some_iff.1 hblk).1 (by simp; omega)]; exact hblk
  · intro j hj
    obtain ⟨b, off, x, e, hbg, hc, hx⟩ := hby j hj
    have := hab (by omega) b off e
    exact ⟨b, off, x, e, hbg, hg.cell hc (by simp; omega), hx⟩
end Go.Proofs.YthnjhjgffkilcaaGreatDoor
/- The laws' marks over lists of texts. Conditions: at most 1000 texts, marks up to 10^6. -/
namespace Go.Proofs.YthnjhjgffkilcaaGreatDoor
set_option maxRecDepth 2000
open Go.ChangeShapes Go.WideShapes Go.ChangeAt Go.RowKit

def mtGo : Nat → Nat → ByteArray → ByteArray
  | 0, _, o => o
  | f + 1, k, o => if k = 0 then o else mtGo f (k / 10) (strOfNums [((48 + k % 10 : Nat) : Int)] ++ o)
/-- The text of a mark. -/
def mtxt (k : Nat) : ByteArray := if k = 0 then ⟨#[109, 48]⟩ else (⟨#[109]⟩ : ByteArray) ++ mtGo k k ByteArray.empty
theorem mtGo_zero (f : Nat) (o : ByteArray) : mtGo f 0 o = o := by cases f <;> rfl
set_option maxRecDepth 100000 in
set_option maxHeartbeats 1000000 in
theorem markText_any (k : Nat) (w : World) (hk : k ≤ 100000000) : Calls Tryz.prog 99 #[.int .i64 (k : Int)] w fun e w' => e = .returned (.string (mtxt k)) ∧ Below w.heap.size w w' := by
  by_cases h0 : k = 0
  · subst h0
    have HM : Hid (mtxt 0 = ⟨#[109, 48]⟩) := rfl
    go_enter Tryz.func99, Tryz.ntmps99
    go_wp2
    go_ret
    exact ⟨ret_str HM.out.symm, Below.refl _ _⟩
  · have hki : ¬ (k : Int) ≤ 0 := by omega
    have HM : Hid (mtxt k = (⟨#[109]⟩ : ByteArray) ++ mtGo k k ByteArray.empty) := by show _ = _; unfold mtxt; rw [if_neg h0]
    go_enter Tryz.func99, Tryz.ntmps99
    go_wp2
    go_loopw [0, 3] (fun v0 v3 wr => ∃ (j f : Nat) (o : ByteArray), j ≤ f ∧ o.size + j ≤ k ∧ v0 = .int .i64 (j : Int) ∧ v3 = .string o ∧ Hid (mtGo f j o = mtGo k k ByteArray.empty) ∧ Below w.heap.size w wr) (fun v0 _ _ => (intOf v0).toNat)
    case atStart => exact ⟨k, k, ByteArray.empty, Nat.le_refl _, by show 0 + k ≤ k; omega, rfl, rfl, rfl, Below.refl _ _⟩
    case round =>
      obtain ⟨j, f, o, hjf, hoj, rfl, rfl, HG, hbel⟩ := hrel
      by_cases hj : j = 0
      · subst hj
        have HO : Hid (mtxt k = (⟨#[109]⟩ : ByteArray) ++ o) := by show _ = _; rw [HM.out, ← HG.out, mtGo_zero]
        have hsz : o.size ≤ 100000000 := by omega
        go_wp2
        go_ret
        exact ⟨ret_str HO.out.symm, hbel⟩
      · have hji : (0 : Int) < (j : Int) := by omega
        have hji2 : (j : Int) > 0 := by omega
        obtain ⟨f', rfl⟩ : ∃ f', f = f' + 1 := ⟨f - 1, by omega⟩
        have HG2 : Hid (mtGo f' (j / 10) (strOfNums [((48 + j % 10 : Nat) : Int)] ++ o) = mtGo k k ByteArray.empty) := by
          show _ = _
          rw [← HG.out]
          show _ = if j = 0 then _ else _
          rw [if_neg hj]
        obtain ⟨d, hd⟩ : ∃ d, 48 + j % 10 = d := ⟨_, rfl⟩
        rw [hd] at HG2
        have hdl : d < 256 := by omega
        have e1 : Int.tmod (j : Int) 10 = (j : Int) % 10 := by rw [Int.tmod_eq_emod_of_nonneg (by omega)]
        have e2 : Int.tdiv (j : Int) 10 = (j : Int) / 10 := by rw [Int.tdiv_eq_ediv_of_nonneg (by omega)]
        have e3 : IntKind.i64.wrap (48 + (j : Int) % 10) = (d : Int) := by rw [IntKind.wrap_i64]; omega
        have e4 : IntKind.u8.wrap (d : Int) = (d : Int) := by rw [IntKind.wrap_u8]; omega
        obtain ⟨j', hj'⟩ : ∃ j', j / 10 = j' := ⟨_, rfl⟩
        have e5 : (j : Int) / 10 = (j' : Int) := by omega
        have e6 : IntKind.i64.wrap (j' : Int) = (j' : Int) := by rw [IntKind.wrap_i64]; omega
        rw [hj'] at HG2
        have hcv := run_convert_bytes_arg (P := Tryz.prog) (wr.alloc (.cells #[.int .u8 (d : Int)] 5)) 22 5 Tryz.underlying22 Tryz.underlying5 wr.heap.size 0 1 1 [(d : Int)] rfl (fun i hi => by
          obtain rfl : i = 0 := by omega
          rw [cell_of_one (heap_alloc_new wr _)]
          rfl) 9 Tryz.underlying9
        have hss : (strOfNums [(d : Int)]).size = 1 := by rw [strOfNums_size]; rfl
        have hso : o.size ≤ 100000000 := by omega
        have HS : Hid ((strOfNums [(d : Int)] ++ o).size + j' ≤ k) := by show _ ≤ _; rw [ByteArray.size_append, hss]; omega
        have hb2 : Below w.heap.size w (wr.alloc (.cells #[.int .u8 (d : Int)] 5)) := hbel.alloc hbel.size _
        generalize strOfNums [(d : Int)] = sd at hcv hss HS HG2
        clear HG hd
        go_wp2
        go_roundw
        case rel => exact ⟨j', f', sd ++ o, by omega, HS.out, by simp [*], rfl, HG2, hb2⟩
        case measure => simp [intOf, *] <;> omega
/-- A list of texts of ours that lies from block 'B' on, ahead of block 'E'. -/
def RowT (w : World) (B E : Nat) (a : Option Addr) (n cap : Nat) (S : Nat → ByteArray) : Prop := OwnT w B a n cap S ∧ ∀ x, a = some x → B ≤ x.block ∧ x.block < E
theorem OwnT.row {w : World} {B : Nat} {a : Option Addr} {n cap : Nat} {S : Nat → ByteArray} (h : OwnT w B a n cap S) : RowT w B w.heap.size a n cap S := by
  refine ⟨h, fun x e => ?_⟩
  subst e
  exact World.ownsRow.lt h x.block rfl
theorem ResT.row {w w' : World} {v : Value} {n : Nat} {S : Nat → ByteArray} (h : ResT w w' v n S) : ∃ a cap, v = .slice a n cap ∧ RowT w' w.heap.size w'.heap.size a n cap S := by
  obtain ⟨a, cap, rfl, ho⟩ := h
  exact ⟨a, cap, rfl, ho.row⟩
theorem RowT.below {w w' : World} {B E : Nat} {a : Option Addr} {n cap : Nat} {S : Nat → ByteArray} (h : RowT w B E a n cap S) (hb : Below w.heap.size w w') : RowT w' B E a n cap S := ⟨h.1.below hb, h.2⟩
theorem RowT.at {w : World} {B E : Nat} {a : Option Addr} {n cap : Nat} {S : Nat → ByteArray} (h : RowT w B E a n cap S) : TxtAt w a n S := h.1.at
theorem RowT.turned {w w' : World} {B E B' E' : Nat} {a : Option Addr} {n cap : Nat} {S : Nat → ByteArray} (h : RowT w B E a n cap S) (ht : TurnM w w' B' E') (hd : E ≤ B' ∨ E' ≤ B) : RowT w' B E a n cap S :=
  ⟨own_turn2 h.1 ht (fun x e hx => by have := h.2 x e; omega), h.2⟩
theorem TurnM.ofBelow {w w' : World} (B E : Nat) (h : Below w.heap.size w w') : TurnM w w' B E := ⟨h.os, h.tape, h.output, h.size, fun j hj _ => h.block j hj⟩
theorem TurnM.set (w : World) {B E g : Nat} (j : Nat) (v : Value) (hB : B ≤ g) (hE : g < E) : TurnM w (w.setCell ⟨g, j, none⟩ v) B E := ⟨rfl, rfl, rfl, by simp, fun i _ hi => heap_setCell_other w ⟨g, j, none⟩ i v (fun e => by have e' : i = g := e; omega)⟩
set_option maxHeartbeats 1000000 in
theorem markT_any (B E : Nat) (a : Option Addr) (n cap : Nat) (S : Nat → ByteArray) (k q : Nat) (w : World) (h : RowT w B E a n cap S) (hn : n ≤ 1000) (hk : k ≤ 1000000) (hq : k + n = q) :
    Calls Tryz.prog 100 #[.slice a n cap, .int .i64 (k : Int)] w fun e w' => e = .returned (.int .i64 (q : Int)) ∧ RowT w' B E a n cap (fun i => mtxt (k + i)) ∧ TurnM w w' B E := by
  subst hq
  have K0 : Hid (RowT w B E a n cap (fun i => if i < 0 then mtxt (k + i) else S i)) := ⟨h.1.congr (fun i _ => by simp), h.2⟩
  clear h
  go_enter Tryz.func100, Tryz.ntmps100
  go_wp2
  go_loopw [1, 5] (fun p i wr => ∃ c x : Nat, c ≤ n ∧ k + c = x ∧ p = .int .i64 (x : Int) ∧ i = .int .i64 (c : Int) ∧ RowT wr B E a n cap (fun i => if i < c then mtxt (k + i) else S i) ∧ TurnM w wr B E) (fun _ i _ => n - (intOf i).toNat)
  case atStart => exact ⟨0, k, Nat.zero_le _, rfl, rfl, rfl, K0.out, TurnM.refl _ _ _⟩
  case round =>
    obtain ⟨c, x, hc, hx, rfl, rfl, hR, hT⟩ := hrel
    clear K0
    by_cases hlt : c < n
    · have hlti : (c : Int) < (n : Int) := by omega
      obtain ⟨g, rfl⟩ : ∃ g, a = some ⟨g, 0, none⟩ := by
        rcases own_shape hR.1 with ⟨_, h0, _⟩ | ⟨g, _, e, _⟩
        · omega
        · exact ⟨g, e⟩
      have hgB := hR.2 _ rfl
      have KR : Hid (RowT wr B E (some ⟨g, 0, none⟩) n cap (fun i => if i < c then mtxt (k + i) else S i)) := hR
      have KT : Hid (TurnM w wr B E) := hT
      clear hR hT
      go_wp2_with fail
      refine (markText_any x _ (by omega)).mono ?_
      rintro e w1 ⟨rfl, hb1⟩
      have hR1 := KR.out.below hb1
      obtain ⟨old, hold⟩ : ∃ v, w1.cell? ⟨g, c, none⟩ = some v := by
        rw [World.ownsRow.cellAt hR1.1 c (by omega)]
        exact ⟨_, sL_get _ _ _ hlt⟩
      have hfr := World.ownsRow.frozenAt hR1.1 c
      have hst := World.ownsRow.stored hR1.1 c (.string (mtxt x))
      rw [sL_set _ _ _ _ hlt] at hst
      have HO : Hid (RowT (w1.setCell ⟨g, c, none⟩ (.string (mtxt x))) B E (some ⟨g, 0, none⟩) n cap (fun i => if i < c + 1 then mtxt (k + i) else S i)) := ⟨OwnT.congr hst.1 (fun i _ => by
        by_cases e : i = c
        · subst e; simp [hx]
        · by_cases e2 : i < c
          · simp [e, e2, show i < c + 1 by omega]
          · simp [e, e2, show ¬ i < c + 1 by omega]), hR1.2⟩
      have HT : Hid (TurnM w (w1.setCell ⟨g, c, none⟩ (.string (mtxt x))) B E) := (KT.out.trans (TurnM.ofBelow B E hb1)).trans (TurnM.set w1 c _ hgB.1 hgB.2)
      generalize mtxt x = mx at HO HT
      clear hst hR1 KR KT
      go_wp2
      go_roundw
      case rel => exact ⟨c + 1, x + 1, by omega, by omega, by go_num, by go_num, HO.out, HT.out⟩
      case measure => simp [intOf] <;> omega
    · obtain rfl : c = n := by omega
      subst hx
      have HR : Hid (RowT wr B E a c cap (fun i => mtxt (k + i))) := ⟨hR.1.congr (fun i hi => if_pos hi), hR.2⟩
      have HT : Hid (TurnM w wr B E) := hT
      clear hR hT
      go_wp2
      go_ret
      exact ⟨rfl, HR.out, HT.out⟩
set_option maxHeartbeats 1000000 in
theorem heldT_any (a : Option Addr) (n cap k q : Nat) (w : World) (h : TxtAt w a n (fun i => mtxt (k + i))) (hn : n ≤ 1000) (hk : k ≤ 1000000) (hq : k + n = q) :
    Calls Tryz.prog 101 #[.slice a n cap, .int .i64 (k : Int)] w fun e w' => e = .returned (.int .i64 (q : Int)) ∧ Below w.heap.size w w' := by
  subst hq
  have KH : Hid (TxtAt w a n (fun i => mtxt (k + i))) := h
  clear h
  go_enter Tryz.func101, Tryz.ntmps101
  go_wp2
  go_loopw [1, 5] (fun p i wr => ∃ c x : Nat, c ≤ n ∧ k + c = x ∧ p = .int .i64 (x : Int) ∧ i = .int .i64 (c : Int) ∧ Below w.heap.size w wr) (fun _ i _ => n - (intOf i).toNat)
  case atStart => exact ⟨0, k, Nat.zero_le _, rfl, rfl, rfl, Below.refl _ _⟩
  case round =>
    obtain ⟨c, x, hc, hx, rfl, rfl, hbel⟩ := hrel
    by_cases hlt : c < n
    · have hlti : (c : Int) < (n : Int) := by omega
      obtain ⟨b, off, rfl, hcell⟩ := KH.out.below hbel c hlt
      simp only [hx] at hcell
      have KC : Hid (∀ w, Calls Tryz.prog 99 #[.int .i64 (x : Int)] w fun e w' => e = .returned (.string (mtxt x)) ∧ Below w.heap.size w w') := fun w => markText_any x w (by omega)
      generalize mtxt x = mx at hcell KC
      have hbq := ba_beq mx
      have hlc := block_lt_of_cell hcell
      go_wp2_with fail
      go_region_held3 (fun w' => w'.cell? ⟨b, off + c, none⟩ = some (.string mx)) (go_keep) ((go_at_call 99; refine Calls.mono (KC.out _) ?_; rintro e w5 ⟨rfl, hb5'⟩; have hb5 := below_of_drew hb5'; clear hb5'; have h50 := (hb5.cell (p := ⟨b, off + c, none⟩) hlc).trans hcell))
      all_goals
        have HB : Hid (Below w.heap.size w w5) := below2 hbel hb5
        clear hb5 h50
        go_wp2
        go_roundw
        case rel => exact ⟨c + 1, x + 1, by omega, by omega, by go_num, by go_num, HB.out⟩
        case measure => simp [intOf] <;> omega
    · obtain rfl : c = n := by omega
      subst hx
      go_wp2
      go_ret
      exact ⟨rfl, hbel⟩
end Go.Proofs.YthnjhjgffkilcaaGreatDoor
/- Marks over long lists of texts; a list of texts that came in. Conditions: at most 2^20 texts. -/
namespace Go.Proofs.YthnjhjgffkilcaaGreatDoor
set_option maxRecDepth 2000
open Go.ChangeShapes Go.WideShapes Go.ChangeAt Go.RowKit

/-- A list of texts that came in. -/
def IsTxt (w : World) (a : Option Addr) (n : Nat) (S : Nat → ByteArray) : Prop := TxtAt w a n S ∧ n ≤ maxLen ∧ ∀ i, i < n → (S i).size ≤ maxLen
/-- As the form reads it. -/
theorem isTxt_of {w : World} {a : Addr} {len cap m : Nat} {S : Nat → ByteArray} (hl : len ≤ cap) (hm : cap ≤ maxLen) (hlm : len ≤ m) (h : ∀ i, i < m → w.cell? (a.add i) = some (.string (S i)) ∧ (S i).size ≤ maxLen) : IsTxt w (some a) len S := by
  refine ⟨fun i hi => ?_, Nat.le_trans hl hm, fun i hi => (h i (by omega)).2⟩
  have h1 := (h i (by omega)).1
  obtain ⟨b, off, spot⟩ := a
  have hspot : spot = none := by
    have h0 := (h 0 (by omega)).1
    simpa [Addr.add] using World.cell?_spot h0
  subst hspot
  have ea : ∀ (b off i : Nat), (⟨b, off, none⟩ : Addr).add i = ⟨b, off + i, none⟩ := fun b off i => by unfold Addr.add; split <;> simp_all
  rw [ea] at h1
  exact ⟨b, off, rfl, h1⟩
/-- The same, known to lie ahead of block 's'. -/
def ArgT (w : World) (s : Nat) (a : Option Addr) (n : Nat) (S : Nat → ByteArray) : Prop := TxtAt w a n S ∧ (0 < n → ∀ b off, a = some ⟨b, off, none⟩ → b < s)
theorem TxtAt.arg {w : World} {a : Option Addr} {n : Nat} {S : Nat → ByteArray} (h : TxtAt w a n S) : ArgT w w.heap.size a n S := by
  refine ⟨h, fun hn b off e => ?_⟩
  obtain ⟨b', off', e', hc⟩ := h 0 hn
  rw [e] at e'
  cases e'
  exact block_lt_of_cell hc
theorem ArgT.below {w w' : World} {s : Nat} {a : Option Addr} {n : Nat} {S : Nat → ByteArray} (h : ArgT w s a n S) (hb : Below w.heap.size w w') : ArgT w' s a n S := ⟨h.1.below hb, h.2⟩
theorem ArgT.keep {w w' : World} {s : Nat} {a : Option Addr} {n : Nat} {S : Nat → ByteArray} (h : ArgT w s a n S) (hb : Below s w w') : ArgT w' s a n S :=
  ⟨fun i hi => by
    obtain ⟨b, off, e, hc⟩ := h.1 i hi
    exact ⟨b, off, e, (hb.cell (p := ⟨b, off + i, none⟩) (h.2 (by omega) b off e)).trans hc⟩, h.2⟩
set_option maxHeartbeats 1000000 in
theorem markT2_any (B E : Nat) (a : Option Addr) (n cap : Nat) (S : Nat → ByteArray) (k q : Nat) (w : World) (h : RowT w B E a n cap S) (hn : n ≤ 1048576) (hk : k ≤ 50000000) (hq : k + n = q) :
    Calls Tryz.prog 100 #[.slice a n cap, .int .i64 (k : Int)] w fun e w' => e = .returned (.int .i64 (q : Int)) ∧ RowT w' B E a n cap (fun i => mtxt (k + i)) ∧ TurnM w w' B E := by
  subst hq
  have K0 : Hid (RowT w B E a n cap (fun i => if i < 0 then mtxt (k + i) else S i)) := ⟨h.1.congr (fun i _ => by simp), h.2⟩
  clear h
  go_enter Tryz.func100, Tryz.ntmps100
  go_wp2
  go_loopw [1, 5] (fun p i wr => ∃ c x : Nat, c ≤ n ∧ k + c = x ∧ p = .int .i64 (x : Int) ∧ i = .int .i64 (c : Int) ∧ RowT wr B E a n cap (fun i => if i < c then mtxt (k + i) else S i) ∧ TurnM w wr B E) (fun _ i _ => n - (intOf i).toNat)
  case atStart => exact ⟨0, k, Nat.zero_le _, rfl, rfl, rfl, K0.out, TurnM.refl _ _ _⟩
  case round =>
    obtain ⟨c, x, hc, hx, rfl, rfl, hR, hT⟩ := hrel
    clear K0
    by_cases hlt : c < n
    · have hlti : (c : Int) < (n : Int) := by omega
      obtain ⟨g, rfl⟩ : ∃ g, a = some ⟨g, 0, none⟩ := by
        rcases own_shape hR.1 with ⟨_, h0, _⟩ | ⟨g, _, e, _⟩
        · omega
        · exact ⟨g, e⟩
      have hgB := hR.2 _ rfl
      have KR : Hid (RowT wr B E (some ⟨g, 0, none⟩) n cap (fun i => if i < c then mtxt (k + i) else S i)) := hR
      have KT : Hid (TurnM w wr B E) := hT
      clear hR hT
      go_wp2_with fail
      refine (markText_any x _ (by omega)).mono ?_
      rintro e w1 ⟨rfl, hb1⟩
      have hR1 := KR.out.below hb1
      obtain ⟨old, hold⟩ : ∃ v, w1.cell? ⟨g, c, none⟩ = some v := by
        rw [World.ownsRow.cellAt hR1.1 c (by omega)]
        exact ⟨_, sL_get _ _ _ hlt⟩
      have hfr := World.ownsRow.frozenAt hR1.1 c
      have hst := World.ownsRow.stored hR1.1 c (.string (mtxt x))
      rw [sL_set _ _ _ _ hlt] at hst
      have HO : Hid (RowT (w1.setCell ⟨g, c, none⟩ (.string (mtxt x))) B E (some ⟨g, 0, none⟩) n cap (fun i => if i < c + 1 then mtxt (k + i) else S i)) := ⟨OwnT.congr hst.1 (fun i _ => by
        by_cases e : i = c
        · subst e; simp [hx]
        · by_cases e2 : i < c
          · simp [e, e2, show i < c + 1 by omega]
          · simp [e, e2, show ¬ i < c + 1 by omega]), hR1.2⟩
      have HT : Hid (TurnM w (w1.setCell ⟨g, c, none⟩ (.string (mtxt x))) B E) := (KT.out.trans (TurnM.ofBelow B E hb1)).trans (TurnM.set w1 c _ hgB.1 hgB.2)
      generalize mtxt x = mx at HO HT
      clear hst hR1 KR KT
      go_wp2
      go_roundw
      case rel => exact ⟨c + 1, x + 1, by omega, by omega, by go_num, by go_num, HO.out, HT.out⟩
      case measure => simp [intOf] <;> omega
    · obtain rfl : c = n := by omega
      subst hx
      have HR : Hid (RowT wr B E a c cap (fun i => mtxt (k + i))) := ⟨hR.1.congr (fun i hi => if_pos hi), hR.2⟩
      have HT : Hid (TurnM w wr B E) := hT
      clear hR hT
      go_wp2
      go_ret
      exact ⟨rfl, HR.out, HT.out⟩
end Go.Proofs.YthnjhjgffkilcaaGreatDoor
/- Pieces as the exact laws hand them in: counted, copied, compared. Conditions stand at each. -/
namespace Go.Proofs.YthnjhjgffkilcaaGreatDoor
set_option maxRecDepth 2000
open Go.ChangeShapes Go.WideShapes Go.ChangeAt Go.RowKit

/-- What is left of l behind a piece; -1 where it is not enough. -/
def szPc (r b : ByteArray) (m : Nat) (S : Nat → ByteArray) (l : Nat) : Int := if r.size + b.size ≤ l then szF (fun i => (S i).size) m (l - r.size - b.size) else -1
theorem szPc_yes {r b : ByteArray} {m : Nat} {S : Nat → ByteArray} {l : Nat} (h : r.size + b.size + (m + tot (fun i => (S i).size) m) ≤ l) : szPc r b m S l = ((l - (r.size + b.size + (m + tot (fun i => (S i).size) m)) : Nat) : Int) := by
  unfold szPc szF
  rw [if_pos (by omega), if_pos (by omega)]
  omega
theorem szPc_no {r b : ByteArray} {m : Nat} {S : Nat → ByteArray} {l : Nat} (h : ¬ r.size + b.size + (m + tot (fun i => (S i).size) m) ≤ l) : szPc r b m S l = -1 := by
  unfold szPc szF
  by_cases h1 : r.size + b.size ≤ l
  · rw [if_pos h1, if_neg (by omega)]
  · rw [if_neg h1]

set_option maxHeartbeats 2000000 in
theorem szPc_any (r : ByteArray) (k n i : Int) (b : ByteArray) (a : Option Addr) (m cap : Nat) (S : Nat → ByteArray) (l : Nat) (w : World) (h : TxtAt w a m S) (hl : l ≤ 1048576) (hm : m ≤ maxLen) (hL : ∀ i, i < m → (S i).size ≤ maxLen) (hr : r.size ≤ maxLen) (hb : b.size ≤ maxLen) :
    Calls Tryz.prog 96 #[pcV r k n i b (.slice a m cap), .int .i64 (l : Int)] w fun e w' => e = .returned (.int .i64 (szPc r b m S l)) ∧ Below w.heap.size w w' := by
  obtain ⟨w0, HW0⟩ : ∃ x, Hid (x = w.alloc (.cells (pcC r k n i b (.slice a m cap)) 114)) := ⟨_, rfl⟩
  have hb0 : Below w.heap.size w w0 := by rw [HW0.out]; exact (Below.refl _ _).alloc (Nat.le_refl _) _
  have HB0 : Hid (Below w.heap.size w w0) := hb0
  have KT : Hid (TxtAt w0 a m S) := h.below hb0
  obtain ⟨x, hx⟩ : ∃ x, r.size = x := ⟨_, rfl⟩
  obtain ⟨y, hy⟩ : ∃ x, b.size = x := ⟨_, rfl⟩
  unfold szPc
  rw [hx, hy]
  unfold maxLen at hr hb
  clear h hb0
  by_cases h1 : l < x
  · have h1' : (l : Int) - (x : Int) < 0 := by omega
    have e1 : IntKind.i64.wrap ((l : Int) - (x : Int)) = (l : Int) - (x : Int) := by rw [IntKind.wrap_i64]; omega
    rw [if_neg (by omega)]
    clear hL
    go_enter Tryz.func96, Tryz.ntmps96
    go_wp2
    go_ret
    exact ⟨rfl, by rw [← HW0.out]; exact HB0.out⟩
  obtain ⟨l1, hl1⟩ : ∃ l1, l = x + l1 := ⟨l - x, by omega⟩
  have e1 : IntKind.i64.wrap ((l : Int) - (x : Int)) = (l1 : Int) := by rw [IntKind.wrap_i64]; omega
  have p1 : ¬ ((l1 : Int) < 0) := by omega
  by_cases h2 : l1 < y
  · have h2' : (l1 : Int) - (y : Int) < 0 := by omega
    have e2 : IntKind.i64.wrap ((l1 : Int) - (y : Int)) = (l1 : Int) - (y : Int) := by rw [IntKind.wrap_i64]; omega
    rw [if_neg (by omega)]
    clear hL hl1
    go_enter Tryz.func96, Tryz.ntmps96
    go_wp2
    go_ret
    exact ⟨rfl, by rw [← HW0.out]; exact HB0.out⟩
  obtain ⟨l2, hl2⟩ : ∃ l2, l1 = y + l2 := ⟨l1 - y, by omega⟩
  have e2 : IntKind.i64.wrap ((l1 : Int) - (y : Int)) = (l2 : Int) := by rw [IntKind.wrap_i64]; omega
  have p2 : ¬ ((l2 : Int) < 0) := by omega
  rw [if_pos (by omega), show l - x - y = l2 by omega]
  have KZ : Hid (Calls Tryz.prog 148 #[.slice a m cap, .int .i64 (l2 : Int)] w0 fun e w' => e = .returned (.int .i64 (szF (fun i => (S i).size) m l2)) ∧ w' = w0) := szT_any a m cap S l2 w0 KT.out (by omega) hm hL
  clear hL hl1 hl2
  by_cases h3 : m + tot (fun i => (S i).size) m ≤ l2
  · obtain ⟨z, hz⟩ : ∃ z : Nat, szF (fun i => (S i).size) m l2 = (z : Int) := ⟨l2 - (m + tot (fun i => (S i).size) m), by unfold szF; rw [if_pos h3]⟩
    rw [hz] at KZ ⊢
    have p3 : ¬ ((z : Int) < 0) := by omega
    clear hz h3
    go_enter Tryz.func96, Tryz.ntmps96
    go_wp2_with fail
    rw [← HW0.out]
    refine Calls.mono KZ.out ?_
    rintro e w' ⟨rfl, hw⟩
    obtain rfl := hw.symm
    clear hw
    go_wp2
    go_ret
    exact ⟨rfl, HB0.out⟩
  · have hz : szF (fun i => (S i).size) m l2 = -1 := by unfold szF; rw [if_neg h3]
    rw [hz] at KZ ⊢
    clear hz h3
    go_enter Tryz.func96, Tryz.ntmps96
    go_wp2_with fail
    rw [← HW0.out]
    refine Calls.mono KZ.out ?_
    rintro e w' ⟨rfl, hw⟩
    obtain rfl := hw.symm
    clear hw
    go_wp2
    go_ret
    exact ⟨rfl, HB0.out⟩

set_option maxHeartbeats 4000000 in
theorem toPc_any (r : ByteArray) (k n i : Int) (b : ByteArray) (a : Option Addr) (m cap : Nat) (S : Nat → ByteArray) (w : World) (h : TxtAt w a m S) (hm : m ≤ 1048576) :
    Calls Tryz.prog 97 #[pcV r k n i b (.slice a m cap)] w fun e w' => ∃ g, e = .returned (pcV r k n i b (.slice (some ⟨g, 0, none⟩) m m)) ∧ OwnT w' w.heap.size (some ⟨g, 0, none⟩) m m S ∧ Below w.heap.size w w' := by
  obtain ⟨D, HD⟩ : ∃ x, Hid (x = w.heap.size + 1) := ⟨_, rfl⟩
  obtain ⟨V, HV⟩ : ∃ x, Hid (x = w.heap.size + 1 + 1) := ⟨_, rfl⟩
  obtain ⟨w0, HW0⟩ : ∃ x, Hid (x = ((w.alloc (.cells (pcC r k n i b (.slice a m cap)) 114)).alloc (.cells (pcC ⟨#[]⟩ 0 0 0 ⟨#[]⟩ (.slice none 0 0)) 33)).alloc (.cells (pcC r k n i b (.slice none 0 0)) 33)) := ⟨_, rfl⟩
  have HRV : Hid (Row w0 V 33 (pcC r k n i b (.slice none 0 0))) := by
    show Row _ _ _ _
    rw [HW0.out, HV.out]
    have := Row.new ((w.alloc (.cells (pcC r k n i b (.slice a m cap)) 114)).alloc (.cells (pcC ⟨#[]⟩ 0 0 0 ⟨#[]⟩ (.slice none 0 0)) 33)) (pcC r k n i b (.slice none 0 0)) 33
    simpa using this
  have HRD : Hid (Row w0 D 33 (pcC ⟨#[]⟩ 0 0 0 ⟨#[]⟩ (.slice none 0 0))) := by
    show Row _ _ _ _
    rw [HW0.out, HD.out]
    have := Row.new (w.alloc (.cells (pcC r k n i b (.slice a m cap)) 114)) (pcC ⟨#[]⟩ 0 0 0 ⟨#[]⟩ (.slice none 0 0)) 33
    exact Row.alloc (by simpa using this) _
  have hb0 : Below w.heap.size w w0 := by rw [HW0.out]; exact (((Below.refl _ _).alloc (Nat.le_refl _) _).alloc (by simp) _).alloc (by simp; omega) _
  have hVD : Hid (V ≠ D ∧ w.heap.size ≤ D ∧ w.heap.size ≤ V) := by
    have := HV.out; have := HD.out; exact ⟨by omega, by omega, by omega⟩
  have KB0 : Hid (Below w.heap.size w w0) := hb0
  have KT : Hid (Calls Tryz.prog 149 #[.slice a m cap] w0 fun e w' => e = .returned (.slice (some ⟨w0.heap.size, 0, none⟩) m m) ∧ OwnT w' w0.heap.size (some ⟨w0.heap.size, 0, none⟩) m m S ∧ Below w0.heap.size w0 w') := toT_any a m cap S w0 (h.below hb0) hm
  obtain ⟨g, HG⟩ : ∃ x, Hid (x = w0.heap.size) := ⟨_, rfl⟩
  rw [← HG.out] at KT
  clear h hb0
  go_enter Tryz.func97, Tryz.ntmps97
  go_wp2_with fail
  rw [← HW0.out, ← HV.out, ← HD.out]
  rw [HG.out] at KT
  refine Calls.mono KT.out ?_
  rw [← HG.out]
  rintro e w1 ⟨rfl, O1, b1⟩
  have lV0 := HRV.out.lt
  have lD0 := HRD.out.lt
  have HV1 : Hid (Row w1 V 33 (pcC r k n i b (.slice none 0 0))) := HRV.out.below (HG.out ▸ b1) lV0
  have HD1 : Hid (Row w1 D 33 (pcC ⟨#[]⟩ 0 0 0 ⟨#[]⟩ (.slice none 0 0))) := HRD.out.below (HG.out ▸ b1) lD0
  obtain ⟨w2, HW2⟩ : ∃ x, Hid (x = w1.setCell ⟨V, 5, none⟩ (.slice (some ⟨g, 0, none⟩) m m)) := ⟨_, rfl⟩
  have HV2 : Hid (Row w2 V 33 (pcC r k n i b (.slice (some ⟨g, 0, none⟩) m m))) := by show Row _ _ _ _; rw [HW2.out]; exact HV1.out.set 5 _
  have HD2 : Hid (Row w2 D 33 (pcC ⟨#[]⟩ 0 0 0 ⟨#[]⟩ (.slice none 0 0))) := by show Row _ _ _ _; rw [HW2.out]; exact HD1.out.other 5 _ (Ne.symm hVD.out.1)
  have O2 : Hid (OwnT w2 w0.heap.size (some ⟨g, 0, none⟩) m m S) := by show OwnT _ _ _ _ _ _; rw [HW2.out]; exact OwnT.setFar (HG.out ▸ O1) lV0
  have KB2 : Hid (Below w.heap.size w w2) := by show Below _ _ _; rw [HW2.out]; exact (KB0.out.trans ((HG.out ▸ b1 : Below w0.heap.size w0 w1).mono KB0.out.size)).setCell hVD.out.2.2 _
  have v5 := HV1.out.cell 5
  have vf := HV1.out.free 5
  simp at v5
  clear b1 O1 KT
  go_wp2_with (rw [← HW2.out]; refine wpList_load_row (by rfl) 33 _ (by rfl) V (by rfl) 33 _ (0, 0) _ HV2.out Tryz.underlying33 (by rfl) Tryz.infoPc ?_; clear v5 vf; have x0 := HD2.out.cell 0; have x1 := HD2.out.cell 1; have x2 := HD2.out.cell 2; have x3 := HD2.out.cell 3; have x4 := HD2.out.cell 4; have x5 := HD2.out.cell 5; have f0 := HD2.out.free 0; have f1 := HD2.out.free 1; have f2 := HD2.out.free 2; have f3 := HD2.out.free 3; have f4 := HD2.out.free 4; have f5 := HD2.out.free 5; simp at x0 x1 x2 x3 x4 x5)
  have ZR : Hid (Row ((((((w2.setCell ⟨D, 0, none⟩ (.string r)).setCell ⟨D, 1, none⟩ (.int .i64 k)).setCell ⟨D, 2, none⟩ (.int .i64 n)).setCell ⟨D, 3, none⟩ (.int .i64 i)).setCell ⟨D, 4, none⟩ (.string b)).setCell ⟨D, 5, none⟩ (.slice (some ⟨g, 0, none⟩) m m)) D 33 (pcC r k n i b (.slice (some ⟨g, 0, none⟩) m m))) := (((((HD2.out.set 0 _).set 1 _).set 2 _).set 3 _).set 4 _).set 5 _
  have ZO : Hid (OwnT ((((((w2.setCell ⟨D, 0, none⟩ (.string r)).setCell ⟨D, 1, none⟩ (.int .i64 k)).setCell ⟨D, 2, none⟩ (.int .i64 n)).setCell ⟨D, 3, none⟩ (.int .i64 i)).setCell ⟨D, 4, none⟩ (.string b)).setCell ⟨D, 5, none⟩ (.slice (some ⟨g, 0, none⟩) m m)) w.heap.size (some ⟨g, 0, none⟩) m m S) := OwnT.base (OwnT.setFar (OwnT.setFar (OwnT.setFar (OwnT.setFar (OwnT.setFar (OwnT.setFar O2.out lD0) lD0) lD0) lD0) lD0) lD0) KB0.out.size
  have hDw := hVD.out.2.1
  refine bodyPost_ret (v := pcV r k n i b (.slice (some ⟨g, 0, none⟩) m m)) (results_cell_row Tryz.results97 _ _ D 33 _ (0, 0) _ (by simp) ZR.out Tryz.underlying33 (by rfl) Tryz.infoPc) rfl ⟨g, rfl, ZO.out, ?_⟩
  exact Below.setCell (Below.setCell (Below.setCell (Below.setCell (Below.setCell (Below.setCell KB2.out hDw _) hDw _) hDw _) hDw _) hDw _) hDw _

set_option maxHeartbeats 2000000 in
theorem eqPc_same (r : ByteArray) (k n i : Int) (b : ByteArray) (a a' : Option Addr) (m ca ca' : Nat) (S : Nat → ByteArray) (w : World) (h : TxtAt w a m S) (h' : TxtAt w a' m S) (hm : m ≤ 1048576) :
    Calls Tryz.prog 40 #[pcV r k n i b (.slice a m ca), pcV r k n i b (.slice a' m ca')] w fun e w' => e = .returned (.bool true) ∧ Below w.heap.size w w' := by
  obtain ⟨w0, HW0⟩ : ∃ x, Hid (x = (w.alloc (.cells (pcC r k n i b (.slice a m ca)) 33)).alloc (.cells (pcC r k n i b (.slice a' m ca')) 33)) := ⟨_, rfl⟩
  have hb0 : Below w.heap.size w w0 := by rw [HW0.out]; exact ((Below.refl _ _).alloc (Nat.le_refl _) _).alloc (by simp) _
  have HB0 : Hid (Below w.heap.size w w0) := hb0
  have KE : Hid _ := eqT_same a a' m ca ca' S w0 (h.below hb0) (h'.below hb0) hm
  have hf1 : (r.toList != r.toList) = false := by simp
  have hf2 := ba_beq r
  have hf3 : (b.toList != b.toList) = false := by simp
  have hf4 := ba_beq b
  have hf5 : (k != k) = false := by simp
  have hf6 : (n != n) = false := by simp
  have hf7 : (i != i) = false := by simp
  clear h h' hb0
  go_enter Tryz.func40, Tryz.ntmps40
  go_wp2_with fail
  rw [← HW0.out]
  refine Calls.mono KE.out ?_
  rintro e w1 ⟨rfl, b1⟩
  go_wp2
  go_ret
  exact ⟨rfl, below2 HB0.out b1⟩
end Go.Proofs.YthnjhjgffkilcaaGreatDoor
/- A piece that is handed in, read as the form reads it. No condition. -/
namespace Go.Proofs.YthnjhjgffkilcaaGreatDoor
set_option maxRecDepth 2000
open Go.ChangeShapes Go.WideShapes Go.ChangeAt Go.RowKit

theorem list6 {α : Type} (l : List α) (h : l.length = 6) : ∃ a b c d e f, l = [a, b, c, d, e, f] := by
  match l, h with
  | [a, b, c, d, e, f], _ => exact ⟨a, b, c, d, e, f, rfl⟩
theorem open_piece {H : Type} {enc : TypeId × Value → H} {w : World} {base : Nat} {spare : Nat → Bool} {held : Bool} {fuel : Nat} {cs : List Value} {x : DataW H × List MemPlace} (h : DataW.trod enc Tryz.prog w base spare held fuel 114 cs = some x) :
    ∃ (r : ByteArray) (k n i : Int) (b : ByteArray) (a : Option Addr) (m c : Nat) (S : Nat → ByteArray), cs = [.string r, .int .i64 k, .int .i64 n, .int .i64 i, .string b, .slice a m c] ∧ ((Lit.int .i64 k).wf = true ∧ (Lit.int .i64 n).wf = true ∧ (Lit.int .i64 i).wf = true) ∧ r.size ≤ maxLen ∧ b.size ≤ maxLen ∧ IsTxt w a m S := by
  have c6 : Tryz.prog.cellsOf 114 = 6 := by kernel_rfl
  have cs1 : Tryz.prog.cellsOf 9 = 1 := by kernel_rfl
  have ci1 : Tryz.prog.cellsOf 3 = 1 := by kernel_rfl
  have cl1 : Tryz.prog.cellsOf 31 = 1 := by kernel_rfl
  obtain ⟨xs, f, _, _, hl, hlen, hf⟩ := DataW.trod_struct Tryz.underlying114 h
  rw [c6] at hl
  obtain ⟨c0, c1, c2, c3, c4, c5, rfl⟩ := list6 cs hl
  obtain ⟨y0, y1, y2, y3, y4, y5, rfl⟩ := list6 xs hlen
  have g0 := hf 0 _ rfl
  have g1 := hf 1 _ rfl
  have g2 := hf 2 _ rfl
  have g3 := hf 3 _ rfl
  have g4 := hf 4 _ rfl
  have g5 := hf 5 _ rfl
  simp [cs1, ci1, cl1] at g0 g1 g2 g3 g4 g5
  obtain ⟨r, e0, _, hr⟩ := DataW.trod_string Tryz.underlying9 g0
  obtain ⟨k, e1, _, u1⟩ := DataW.trod_int Tryz.underlying3 g1
  obtain ⟨n, e2, _, u2⟩ := DataW.trod_int Tryz.underlying3 g2
  obtain ⟨i, e3, _, u3⟩ := DataW.trod_int Tryz.underlying3 g3
  obtain ⟨b, e4, _, hb⟩ := DataW.trod_string Tryz.underlying9 g4
  simp at e0 e1 e2 e3 e4
  subst e0 e1 e2 e3 e4
  rcases Go.Deep.open_strs Tryz.underlying31 Tryz.underlying9 cs1 g5 with ⟨hcs, _⟩ | ⟨ad, l, c, m, Sx, hcs, _, hl', hm, hmm, _, hcell⟩
  · simp at hcs
    subst hcs
    exact ⟨r, k, n, i, b, none, 0, 0, fun _ => ByteArray.empty, rfl, ⟨u1, u2, u3⟩, hr, hb, fun i hi => absurd hi (Nat.not_lt_zero _), Nat.zero_le _, fun i hi => absurd hi (Nat.not_lt_zero _)⟩
  · simp at hcs
    subst hcs
    exact ⟨r, k, n, i, b, some ad, l, c, Sx, rfl, ⟨u1, u2, u3⟩, hr, hb, isTxt_of hl' hm (by rw [hmm]; split <;> omega) hcell⟩
end Go.Proofs.YthnjhjgffkilcaaGreatDoor
