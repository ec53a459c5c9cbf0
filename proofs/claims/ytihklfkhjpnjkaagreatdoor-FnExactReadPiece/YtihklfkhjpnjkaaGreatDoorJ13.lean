import Derived.Test.YtihklfkhjpnjkaaGreatDoorJ8
import Derived.Deep.RegionHeld3
import Derived.Deep.AppendLies
set_option maxHeartbeats 8000000
set_option maxRecDepth 2000
open Go.ChangeShapes Go.WideShapes Go.ChangeAt Go.RowKit
namespace Go.Proofs.YtihklfkhjpnjkaaGreatDoor
def mtGo : Nat → Nat → ByteArray → ByteArray
 | 0, _, o => o
 | f + 1, k, o => if k = 0 then o else mtGo f (k / 10) (strOfNums [((48 + k % 10 : Nat) : Int)] ++ o)
def mtxt (k : Nat) : ByteArray := if k = 0 then ⟨#[109, 48]⟩ else (⟨#[109]⟩ : ByteArray) ++ mtGo k k ByteArray.empty
theorem mtGo_zero (f : Nat) (o : ByteArray) : mtGo f 0 o = o := by cases f <;> rfl
set_option maxRecDepth 100000 in
theorem markText_any (k : Nat) (w : World) (hk : k ≤ 100000000) : Calls Tryz.prog 96 #[.int .i64 (k : Int)] w fun e w' => e = .returned (.string (mtxt k)) ∧ Below w.heap.size w w' := by
 by_cases h0 : k = 0
 ·subst h0
  have HM : Hid (mtxt 0 = ⟨#[109, 48]⟩) := rfl
  go_enter Tryz.func96, Tryz.ntmps96
  go_wp2
  go_ret
  exact ⟨ret_str HM.out.symm, Below.refl _ _⟩
 ·have hki : ¬ (k : Int) ≤ 0 := by omega
  have HM : Hid (mtxt k = (⟨#[109]⟩ : ByteArray) ++ mtGo k k ByteArray.empty) := by show _ = _; unfold mtxt; rw [if_neg h0]
  go_enter Tryz.func96, Tryz.ntmps96
  go_wp2
  go_loopw [0, 3] (fun v0 v3 wr => ∃ (j f : Nat) (o : ByteArray), j ≤ f ∧ o.size + j ≤ k ∧ v0 = .int .i64 (j : Int) ∧ v3 = .string o ∧ Hid (mtGo f j o = mtGo k k ByteArray.empty) ∧ Below w.heap.size w wr) (fun v0 _ _ => (intOf v0).toNat)
  case atStart => exact ⟨k, k, ByteArray.empty, Nat.le_refl _, by show 0 + k ≤ k; omega, rfl, rfl, rfl, Below.refl _ _⟩
  case round =>
   obtain ⟨j, f, o, hjf, hoj, rfl, rfl, HG, hbel⟩ := hrel
   by_cases hj : j = 0
   ·subst hj
    have HO : Hid (mtxt k = (⟨#[109]⟩ : ByteArray) ++ o) := by show _ = _; rw [HM.out, ← HG.out, mtGo_zero]
    have hsz : o.size ≤ 100000000 := by omega
    go_wp2
    go_ret
    exact ⟨ret_str HO.out.symm, hbel⟩
   ·have hji : (0 : Int) < (j : Int) := by omega
    have hji2 : (j : Int) > 0 := by omega
    obtain ⟨f', rfl⟩ : ∃ f', f = f' + 1 := ⟨f - 1, by omega⟩
    have HG2 : Hid (mtGo f' (j / 10) (strOfNums [((48 + j % 10 : Nat) : Int)] ++ o) = mtGo k k ByteArray.empty) := by
     show _ = _
     rw [← HG.out]
     show _ = if j = 0 then _ else _
     rw [if_neg hj]
    obtain ⟨d, hd⟩ : ∃ d, 48 + j % 10 = d := ⟨_, rfl⟩
    rw [hd] at HG2
    have hdl : d < 256 := by omega
    have e1 : Int.tmod (j : Int) 10 = (j : Int) % 10 := by rw [Int.tmod_eq_emod_of_nonneg (by omega)]
    have e2 : Int.tdiv (j : Int) 10 = (j : Int) / 10 := by rw [Int.tdiv_eq_ediv_of_nonneg (by omega)]
    have e3 : IntKind.i64.wrap (48 + (j : Int) % 10) = (d : Int) := by rw [IntKind.wrap_i64]; omega
    have e4 : IntKind.u8.wrap (d : Int) = (d : Int) := by rw [IntKind.wrap_u8]; omega
    obtain ⟨j', hj'⟩ : ∃ j', j / 10 = j' := ⟨_, rfl⟩
    have e5 : (j : Int) / 10 = (j' : Int) := by omega
    have e6 : IntKind.i64.wrap (j' : Int) = (j' : Int) := by rw [IntKind.wrap_i64]; omega
    rw [hj'] at HG2
    have hcv := run_convert_bytes_arg (P := Tryz.prog) (wr.alloc (.cells #[.int .u8 (d : Int)] 5)) 22 5 Tryz.underlying22 Tryz.underlying5 wr.heap.size 0 1 1 [(d : Int)] rfl (fun i hi => by
     obtain rfl : i = 0 := by omega
     rw [cell_of_one (heap_alloc_new wr _)]
     rfl) 9 Tryz.underlying9
    have hss : (strOfNums [(d : Int)]).size = 1 := by rw [strOfNums_size]; rfl
    have hso : o.size ≤ 100000000 := by omega
    have HS : Hid ((strOfNums [(d : Int)] ++ o).size + j' ≤ k) := by show _ ≤ _; rw [ByteArray.size_append, hss]; omega
    have hb2 : Below w.heap.size w (wr.alloc (.cells #[.int .u8 (d : Int)] 5)) := hbel.alloc hbel.size _
    generalize strOfNums [(d : Int)] = sd at hcv hss HS HG2
    clear HG hd
    go_wp2
    go_roundw
    case rel => exact ⟨j', f', sd ++ o, by omega, HS.out, by simp [*], rfl, HG2, hb2⟩
    case measure => simp [intOf, *] <;> omega
def RowT (w : World) (B E : Nat) (a : Option Addr) (n cap : Nat) (S : Nat → ByteArray) : Prop := OwnT w B a n cap S ∧ ∀ x, a = some x → B ≤ x.block ∧ x.block < E
theorem OwnT.row {w : World} {B : Nat} {a : Option Addr} {n cap : Nat} {S : Nat → ByteArray} (h : OwnT w B a n cap S) : RowT w B w.heap.size a n cap S := by
 refine ⟨h, fun x e => ?_⟩
 subst e
 exact World.ownsRow.lt h x.block rfl
theorem RowT.below {w w' : World} {B E : Nat} {a : Option Addr} {n cap : Nat} {S : Nat → ByteArray} (h : RowT w B E a n cap S) (hb : Below w.heap.size w w') : RowT w' B E a n cap S := ⟨h.1.below hb, h.2⟩
theorem RowT.at {w : World} {B E : Nat} {a : Option Addr} {n cap : Nat} {S : Nat → ByteArray} (h : RowT w B E a n cap S) : TxtAt w a n S := h.1.at
theorem RowT.turned {w w' : World} {B E B' E' : Nat} {a : Option Addr} {n cap : Nat} {S : Nat → ByteArray} (h : RowT w B E a n cap S) (ht : TurnM w w' B' E') (hd : E ≤ B' ∨ E' ≤ B) : RowT w' B E a n cap S :=
 ⟨own_turn2 h.1 ht (fun x e hx => by have := h.2 x e; omega), h.2⟩
theorem TurnM.ofBelow {w w' : World} (B E : Nat) (h : Below w.heap.size w w') : TurnM w w' B E := ⟨h.os, h.tape, h.output, h.size, fun j hj _ => h.block j hj⟩
theorem TurnM.set (w : World) {B E g : Nat} (j : Nat) (v : Value) (hB : B ≤ g) (hE : g < E) : TurnM w (w.setCell ⟨g, j, none⟩ v) B E := ⟨rfl, rfl, rfl, by simp, fun i _ hi => heap_setCell_other w ⟨g, j, none⟩ i v (fun e => by have e' : i = g := e; omega)⟩
theorem markT_any (B E : Nat) (a : Option Addr) (n cap : Nat) (S : Nat → ByteArray) (k q : Nat) (w : World) (h : RowT w B E a n cap S) (hn : n ≤ 1000) (hk : k ≤ 1000000) (hq : k + n = q) :
  Calls Tryz.prog 63 #[.slice a n cap, .int .i64 (k : Int)] w fun e w' => e = .returned (.int .i64 (q : Int)) ∧ RowT w' B E a n cap (fun i => mtxt (k + i)) ∧ TurnM w w' B E := by
 subst hq
 have K0 : Hid (RowT w B E a n cap (fun i => if i < 0 then mtxt (k + i) else S i)) := ⟨h.1.congr (fun i _ => by simp), h.2⟩
 clear h
 go_enter Tryz.func63, Tryz.ntmps63
 go_wp2
 go_loopw [1, 5] (fun p i wr => ∃ c x : Nat, c ≤ n ∧ k + c = x ∧ p = .int .i64 (x : Int) ∧ i = .int .i64 (c : Int) ∧ RowT wr B E a n cap (fun i => if i < c then mtxt (k + i) else S i) ∧ TurnM w wr B E) (fun _ i _ => n - (intOf i).toNat)
 case atStart => exact ⟨0, k, Nat.zero_le _, rfl, rfl, rfl, K0.out, TurnM.refl _ _ _⟩
 case round =>
  obtain ⟨c, x, hc, hx, rfl, rfl, hR, hT⟩ := hrel
  clear K0
  by_cases hlt : c < n
  ·have hlti : (c : Int) < (n : Int) := by omega
   obtain ⟨g, rfl⟩ : ∃ g, a = some ⟨g, 0, none⟩ := by
    rcases own_shape hR.1 with ⟨_, h0, _⟩ | ⟨g, _, e, _⟩
    ·omega
    ·exact ⟨g, e⟩
   have hgB := hR.2 _ rfl
   have KR : Hid (RowT wr B E (some ⟨g, 0, none⟩) n cap (fun i => if i < c then mtxt (k + i) else S i)) := hR
   have KT : Hid (TurnM w wr B E) := hT
   clear hR hT
   go_wp2_with fail
   refine (markText_any x _ (by omega)).mono ?_
   rintro e w1 ⟨rfl, hb1⟩
   have hR1 := KR.out.below hb1
   obtain ⟨old, hold⟩ : ∃ v, w1.cell? ⟨g, c, none⟩ = some v := by
    rw [World.ownsRow.cellAt hR1.1 c (by omega)]
    exact ⟨_, sL_get _ _ _ hlt⟩
   have hfr := World.ownsRow.frozenAt hR1.1 c
   have hst := World.ownsRow.stored hR1.1 c (.string (mtxt x))
   rw [sL_set _ _ _ _ hlt] at hst
   have HO : Hid (RowT (w1.setCell ⟨g, c, none⟩ (.string (mtxt x))) B E (some ⟨g, 0, none⟩) n cap (fun i => if i < c + 1 then mtxt (k + i) else S i)) := ⟨OwnT.congr hst.1 (fun i _ => by
    by_cases e : i = c
    ·subst e; simp [hx]
    ·by_cases e2 : i < c
     ·simp [e, e2, show i < c + 1 by omega]
     ·simp [e, e2, show ¬ i < c + 1 by omega]), hR1.2⟩
   have HT : Hid (TurnM w (w1.setCell ⟨g, c, none⟩ (.string (mtxt x))) B E) := (KT.out.trans (TurnM.ofBelow B E hb1)).trans (TurnM.set w1 c _ hgB.1 hgB.2)
   generalize mtxt x = mx at HO HT
   clear hst hR1 KR KT
   go_wp2
   go_roundw
   case rel => exact ⟨c + 1, x + 1, by omega, by omega, by go_num, by go_num, HO.out, HT.out⟩
   case measure => simp [intOf] <;> omega
  ·obtain rfl : c = n := by omega
   subst hx
   have HR : Hid (RowT wr B E a c cap (fun i => mtxt (k + i))) := ⟨hR.1.congr (fun i hi => if_pos hi), hR.2⟩
   have HT : Hid (TurnM w wr B E) := hT
   clear hR hT
   go_wp2
   go_ret
   exact ⟨rfl, HR.out, HT.out⟩
theorem heldT_any (a : Option Addr) (n cap k q : Nat) (w : World) (h : TxtAt w a n (fun i => mtxt (k + i))) (hn : n ≤ 1000) (hk : k ≤ 1000000) (hq : k + n = q) :
  Calls Tryz.prog 64 #[.slice a n cap, .int .i64 (k : Int)] w fun e w' => e = .returned (.int .i64 (q : Int)) ∧ Below w.heap.size w w' := by
 subst hq
 have KH : Hid (TxtAt w a n (fun i => mtxt (k + i))) := h
 clear h
 go_enter Tryz.func64, Tryz.ntmps64
 go_wp2
 go_loopw [1, 5] (fun p i wr => ∃ c x : Nat, c ≤ n ∧ k + c = x ∧ p = .int .i64 (x : Int) ∧ i = .int .i64 (c : Int) ∧ Below w.heap.size w wr) (fun _ i _ => n - (intOf i).toNat)
 case atStart => exact ⟨0, k, Nat.zero_le _, rfl, rfl, rfl, Below.refl _ _⟩
 case round =>
  obtain ⟨c, x, hc, hx, rfl, rfl, hbel⟩ := hrel
  by_cases hlt : c < n
  ·have hlti : (c : Int) < (n : Int) := by omega
   obtain ⟨b, off, rfl, hcell⟩ := KH.out.below hbel c hlt
   simp only [hx] at hcell
   have KC : Hid (∀ w, Calls Tryz.prog 96 #[.int .i64 (x : Int)] w fun e w' => e = .returned (.string (mtxt x)) ∧ Below w.heap.size w w') := fun w => markText_any x w (by omega)
   generalize mtxt x = mx at hcell KC
   have hbq := ba_beq mx
   have hlc := block_lt_of_cell hcell
   go_wp2_with fail
   go_region_held3 (fun w' => w'.cell? ⟨b, off + c, none⟩ = some (.string mx)) (go_keep) ((go_at_call 96; refine Calls.mono (KC.out _) ?_; rintro e w5 ⟨rfl, hb5'⟩; have hb5 := below_of_drew hb5'; clear hb5'; have h50 := (hb5.cell (p := ⟨b, off + c, none⟩) hlc).trans hcell))
   all_goals
    have HB : Hid (Below w.heap.size w w5) := below2 hbel hb5
    clear hb5 h50
    go_wp2
    go_roundw
    case rel => exact ⟨c + 1, x + 1, by omega, by omega, by go_num, by go_num, HB.out⟩
    case measure => simp [intOf] <;> omega
  ·obtain rfl : c = n := by omega
   subst hx
   go_wp2
   go_ret
   exact ⟨rfl, hbel⟩
theorem eqPc_same (r : ByteArray) (k n i : Int) (b : ByteArray) (a a' : Option Addr) (m ca ca' : Nat) (S : Nat → ByteArray) (w : World) (h : TxtAt w a m S) (h' : TxtAt w a' m S) (hm : m ≤ 1048576) :
  Calls Tryz.prog 24 #[pcV r k n i b (.slice a m ca), pcV r k n i b (.slice a' m ca')] w fun e w' => e = .returned (.bool true) ∧ Below w.heap.size w w' := by
 obtain ⟨w0, HW0⟩ : ∃ x, Hid (x = (w.alloc (.cells (pcC r k n i b (.slice a m ca)) 33)).alloc (.cells (pcC r k n i b (.slice a' m ca')) 33)) := ⟨_, rfl⟩
 have hb0 : Below w.heap.size w w0 := by rw [HW0.out]; exact ((Below.refl _ _).alloc (Nat.le_refl _) _).alloc (by simp) _
 have HB0 : Hid (Below w.heap.size w w0) := hb0
 have KE : Hid _ := eqT_same a a' m ca ca' S w0 (h.below hb0) (h'.below hb0) hm
 have hf1 : (r.toList != r.toList) = false := by simp
 have hf2 := ba_beq r
 have hf3 : (b.toList != b.toList) = false := by simp
 have hf4 := ba_beq b
 have hf5 : (k != k) = false := by simp
 have hf6 : (n != n) = false := by simp
 have hf7 : (i != i) = false := by simp
 clear h h' hb0
 go_enter Tryz.func24, Tryz.ntmps24
 go_wp2_with fail
 rw [← HW0.out]
 refine Calls.mono KE.out ?_
 rintro e w1 ⟨rfl, b1⟩
 go_wp2
 go_ret
 exact ⟨rfl, below2 HB0.out b1⟩
end Go.Proofs.YtihklfkhjpnjkaaGreatDoor
